/-
  Plain mathematics of an order: ring by ring, the least first.
-/
import Derived.Test.YtkoefoccbjhoiabGRing
set_option linter.unusedVariables false
set_option linter.unusedSimpArgs false
namespace Go.Proofs.Ytkoefoccbjhoiab
open Go.RowKit

theorem sameAs_refl (R : Nat → Nat → Bool) (n : Nat) : sameAs R n n = true := sameB_iff.2 fun _ _ => rfl
theorem sameAs_symm {R : Nat → Nat → Bool} {n m : Nat} (h : sameAs R n m = true) : sameAs R m n = true := sameB_iff.2 fun i hi => (sameB_iff.1 h i hi).symm
theorem sameAs_trans {R : Nat → Nat → Bool} {n m k : Nat} (h : sameAs R n m = true) (h' : sameAs R m k = true) : sameAs R n k = true := sameB_iff.2 fun i hi => (sameB_iff.1 h i hi).trans (sameB_iff.1 h' i hi)
theorem mem_ring {R : Nat → Nat → Bool} {n m : Nat} : m ∈ ringN R n ↔ m < 32 ∧ sameAs R n m = true := by
  unfold ringN
  rw [List.mem_filter, List.mem_range]
theorem ring_nodup (R : Nat → Nat → Bool) (n : Nat) : (ringN R n).Nodup := List.Pairwise.filter _ List.nodup_range
theorem ring_len (R : Nat → Nat → Bool) (n : Nat) : (ringN R n).length ≤ 32 := by
  unfold ringN
  have := List.length_filter_le (sameAs R n) (List.range 32)
  simpa using this

/-- Those that are placed behind j rounds, in their order. -/
def outAt (R : Nat → Nat → Bool) (T : Nat → Nat) : Nat → List Nat
  | 0 => []
  | j + 1 => outAt R T j ++ nextL R T (fun i => (outAt R T j).contains i)
def orderN (R : Nat → Nat → Bool) (T : Nat → Nat) : List Nat := outAt R T 32

theorem next_some {R : Nat → Nat → Bool} {T : Nat → Nat} {placed : Nat → Bool} {n : Nat} (h : nextN R T placed = some n) : n < 32 ∧ mayB R T placed n = true ∧ ∀ m, m < n → mayB R T placed m = false := by
  unfold nextN at h
  rw [List.find?_range_eq_some] at h
  obtain ⟨h1, h2, h3⟩ := h
  exact ⟨List.mem_range.1 h2, h1, fun m hm => by simpa using h3 m hm⟩
theorem nextN_none {R : Nat → Nat → Bool} {T : Nat → Nat} {placed : Nat → Bool} (h : nextN R T placed = none) : ∀ m, m < 32 → mayB R T placed m = false := by
  intro m hm
  unfold nextN at h
  rw [List.find?_eq_none] at h
  simpa using h m (List.mem_range.2 hm)
theorem next_nil {R : Nat → Nat → Bool} {T : Nat → Nat} {placed : Nat → Bool} (h : nextL R T placed = []) : nextN R T placed = none := by
  cases hq : nextN R T placed with
  | none => rfl
  | some n =>
    unfold nextL at h
    rw [hq] at h
    have : n ∈ ringN R n := mem_ring.2 ⟨(next_some hq).1, sameAs_refl R n⟩
    simp only at h
    rw [h] at this
    simp at this
theorem may_not {R : Nat → Nat → Bool} {T : Nat → Nat} {placed : Nat → Bool} {n : Nat} (h : mayB R T placed n = true) : 0 < T n ∧ placed n = false ∧ freeTo R placed n 32 = true := by
  unfold mayB at h
  simp at h
  exact ⟨h.1.1, h.1.2, h.2⟩

structure Placed (R : Nat → Nat → Bool) (out : List Nat) : Prop where
  nodup : out.Nodup
  lt : ∀ x ∈ out, x < 32
  rings : ∀ x y, y < 32 → sameAs R x y = true → x ∈ out → y ∈ out

theorem placed_next {R : Nat → Nat → Bool} {T : Nat → Nat} {out : List Nat} (h : Placed R out) : Placed R (out ++ nextL R T (fun i => out.contains i)) := by
  cases hq : nextN R T (fun i => out.contains i) with
  | none =>
    have : nextL R T (fun i => out.contains i) = [] := by unfold nextL; rw [hq]
    rw [this, List.append_nil]
    exact h
  | some n =>
    have e : nextL R T (fun i => out.contains i) = ringN R n := by unfold nextL; rw [hq]
    obtain ⟨h1, h2, _⟩ := next_some hq
    have hn : n ∉ out := by simpa using (may_not h2).2.1
    rw [e]
    refine ⟨?_, ?_, ?_⟩
    · rw [List.nodup_append]
      refine ⟨h.nodup, ring_nodup R n, fun a ha b hb e => ?_⟩
      subst e
      exact hn (h.rings a n h1 (sameAs_symm (mem_ring.1 hb).2) ha)
    · intro x hx
      rcases List.mem_append.1 hx with hx | hx
      · exact h.lt x hx
      · exact (mem_ring.1 hx).1
    · intro x y hy hs hx
      rcases List.mem_append.1 hx with hx | hx
      · exact List.mem_append_left _ (h.rings x y hy hs hx)
      · exact List.mem_append_right _ (mem_ring.2 ⟨hy, sameAs_trans (mem_ring.1 hx).2 hs⟩)
theorem placed_at (R : Nat → Nat → Bool) (T : Nat → Nat) : ∀ j, Placed R (outAt R T j)
  | 0 => ⟨.nil, by simp [outAt], by simp [outAt]⟩
  | j + 1 => placed_next (placed_at R T j)

theorem len_lt : ∀ (N : Nat) (l : List Nat), l.Nodup → (∀ x ∈ l, x < N) → l.length ≤ N
  | 0, l, _, h => by
    cases l with
    | nil => simp
    | cons a l => have := h a (by simp); omega
  | N + 1, l, hd, h => by
    have h1 := len_lt N (l.erase N) (hd.erase N) (fun x hx => by
      have hm := (List.Nodup.mem_erase_iff hd).1 hx
      have := h x hm.2
      have := hm.1
      omega)
    have := List.length_erase_le (a := N) (l := l)
    by_cases hm : N ∈ l
    · rw [List.length_erase_of_mem hm] at h1
      omega
    · rw [List.erase_of_not_mem hm] at h1
      omega
theorem Placed.len {R : Nat → Nat → Bool} {out : List Nat} (h : Placed R out) : out.length ≤ 32 := len_lt 32 out h.nodup h.lt

theorem outAt_stays {R : Nat → Nat → Bool} {T : Nat → Nat} {j : Nat} (h : nextL R T (fun i => (outAt R T j).contains i) = []) : ∀ i, outAt R T (j + i) = outAt R T j
  | 0 => rfl
  | i + 1 => by
    have ih := outAt_stays h i
    show outAt R T (j + i) ++ nextL R T (fun k => (outAt R T (j + i)).contains k) = _
    rw [ih, h, List.append_nil]
theorem order_at {R : Nat → Nat → Bool} {T : Nat → Nat} {j : Nat} (hj : j ≤ (outAt R T j).length) (h : nextL R T (fun i => (outAt R T j).contains i) = []) : orderN R T = outAt R T j := by
  have := (placed_at R T j).len
  unfold orderN
  obtain ⟨i, hi⟩ : ∃ i, 32 = j + i := ⟨32 - j, by omega⟩
  rw [hi]
  exact outAt_stays h i

end Go.Proofs.Ytkoefoccbjhoiab
