/-
  A list of frames that a call made, read one by one.
-/
import Derived.Test.YtgdkjjmnoikhdabNTake
namespace Go.Proofs.Ytgdkjjmnoikhdab
open Go.RowKit

theorem flat7 : ∀ (css : List (List Value)) (i j : Nat), (∀ k, k < css.length → (css.getD k []).length = 7) → i < css.length → j < 7 → css.flatten[i * 7 + j]? = (css.getD i [])[j]?
  | [], i, j, _, hi, _ => by simp at hi
  | c :: css, 0, j, h, _, hj => by
    have h0 : c.length = 7 := by have := h 0 (by simp); simpa using this
    simp only [List.flatten_cons, Nat.zero_mul, Nat.zero_add, List.getD_cons_zero]
    rw [List.getElem?_append_left (by omega)]
  | c :: css, i + 1, j, h, hi, hj => by
    have h0 : c.length = 7 := by have := h 0 (by simp); simpa using this
    have ih := flat7 css i j (fun k hk => by have := h (k + 1) (by simp; omega); simpa using this) (by simp at hi; omega) hj
    simp only [List.flatten_cons, List.getD_cons_succ]
    rw [List.getElem?_append_right (by omega), ← ih]
    congr 1
    omega
/-- The i-th of them. -/
theorem FramesV.at {B : Nat} {w : World} {a : Option Addr} {cap : Nat} {fs : List FrameL} (h : FramesV B w (.slice a fs.length cap) fs) {i : Nat} (hi : i < fs.length) :
    ∃ g cs, a = some ⟨g, 0, none⟩ ∧ g < w.heap.size ∧ w.rangeAt g (i * 7) cs ∧ cs.length = 7 ∧ FrameV w (.agg cs.toArray) fs[i] := by
  obtain ⟨css, h1, h2, h3⟩ := h
  rcases h2.2 with ⟨_, h0⟩ | ⟨g, cp, cur, hv, hB, hg, hc, hm, hcs, htk⟩
  · omega
  · simp only [Value.slice.injEq] at hv
    obtain ⟨rfl, _, rfl⟩ := hv
    have hlt : g < w.heap.size := (Array.getElem?_eq_some_iff.1 hg).1
    refine ⟨g, css.getD i [], rfl, hlt, fun j u hu => ?_, (h3 i hi).1, (h3 i hi).2.v⟩
    have hj : j < 7 := by
      have := (List.getElem?_eq_some_iff.1 hu).1
      rw [(h3 i hi).1] at this
      exact this
    have hf := flat7 css i j (fun k hk => (h3 k (by omega)).1) (by omega) hj
    rw [hu, ← htk, List.getElem?_take_of_lt (by omega)] at hf
    rw [cell_of_row w g (i * 7 + j) cur _ _ hg]
    simpa using hf
theorem FramesV.form {B : Nat} {w : World} {v : Value} {fs : List FrameL} (h : FramesV B w v fs) : ∃ a cap, v = .slice a fs.length cap := by
  obtain ⟨css, _, h2, _⟩ := h
  obtain ⟨a, cap, e, _⟩ := own_form h2
  exact ⟨a, cap, e⟩
theorem FramesV.len {B : Nat} {w : World} {v : Value} {fs : List FrameL} (h : FramesV B w v fs) : fs.length ≤ maxLen := by
  obtain ⟨css, _, h2, _⟩ := h
  rcases h2.2 with ⟨_, h0⟩ | ⟨g, cp, cur, _, _, _, hc, hm, _⟩
  · omega
  · omega

end Go.Proofs.Ytgdkjjmnoikhdab
