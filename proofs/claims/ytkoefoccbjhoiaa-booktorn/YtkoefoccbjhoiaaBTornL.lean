/-
  Plain facts for BookTorn: which records are written; texts in memory, one by one.
-/
import Derived.Test.YtkoefoccbjhoiaaBTexts
set_option linter.unusedVariables false
set_option linter.unusedSimpArgs false
namespace Go.Proofs.Ytkoefoccbjhoiaa
open Go.RowKit

def okB (s : List UInt8) : Bool := decide (0 < s.length ∧ s.length ≤ 400)
def wnt (zs : List (List UInt8)) (k : Nat) : List (List UInt8) := (zs.take k).filter okB
theorem wnt_hit {zs : List (List UInt8)} {k : Nat} {q : List UInt8} (hk : k < zs.length) (hq : zs.getD k [] = q) (h : okB q = true) : wnt zs (k + 1) = wnt zs k ++ [q] := by
  have : zs[k] = q := by rw [← hq]; simp [List.getD, hk]
  unfold wnt
  rw [List.take_succ_eq_append_getElem hk, List.filter_append, this]
  simp [h]
theorem wnt_miss {zs : List (List UInt8)} {k : Nat} {q : List UInt8} (hk : k < zs.length) (hq : zs.getD k [] = q) (h : okB q = false) : wnt zs (k + 1) = wnt zs k := by
  have : zs[k] = q := by rw [← hq]; simp [List.getD, hk]
  unfold wnt
  rw [List.take_succ_eq_append_getElem hk, List.filter_append, this]
  simp [h]
theorem wnt_ok {zs : List (List UInt8)} {k : Nat} : ∀ s ∈ wnt zs k, RecOk s := by
  intro s hs
  have := (List.mem_filter.1 hs).2
  unfold okB at this
  unfold RecOk
  exact of_decide_eq_true this
theorem wnt_len (zs : List (List UInt8)) (k : Nat) : (wnt zs k).length ≤ k := by
  unfold wnt
  have h1 := List.length_filter_le okB (zs.take k)
  have h2 := List.length_take_le k zs
  omega
theorem recs_most : ∀ {rs : List (List UInt8)}, (∀ s ∈ rs, RecOk s) → (recs rs).length ≤ 402 * rs.length
  | [], _ => by simp [recs]
  | s :: rs, h => by
    have h1 := (h s (List.mem_cons_self ..)).2
    have h2 := recs_most (rs := rs) fun x hx => h x (List.mem_cons_of_mem _ hx)
    rw [recs_cons, List.length_append, rc_len, List.length_cons]
    omega
theorem wErr_hit {l q : List UInt8} (hl : l.length ≤ 30000) (h : okB q = true) : wErr l q = 0 := by
  unfold okB at h
  simp only [decide_eq_true_eq] at h
  unfold wErr
  rw [if_neg (by omega), if_neg (by omega), if_neg (by omega)]
theorem wErr_miss {l q : List UInt8} (hl : l.length ≤ 30000) (h : okB q = false) : wErr l q = 1 := by
  unfold okB at h
  simp only [decide_eq_false_iff_not] at h
  unfold wErr
  rw [if_neg (by omega), if_pos (by omega)]
theorem wOut_hit {l q : List UInt8} (h : wErr l q = 0) : wOut l q = l ++ rc q := by unfold wOut; rw [if_pos h]

theorem TxAt.get {B : Nat} {w wr : World} {a : Option Addr} {zs : List (List UInt8)} (h : TxAt B w a zs) (hB : Below B w wr) {k : Nat} (hk : k < zs.length) : ∃ q, Hid (zs.getD k [] = q) ∧ ∃ b off, a = some ⟨b, off, none⟩ ∧ wr.cell? ⟨b, off + k, none⟩ = some (.string (str q)) := by
  rcases h with rfl | ⟨b, off, rfl, hb, hc⟩
  · simp at hk
  · obtain ⟨q, h1, h2⟩ := TxAt.at hc hb hB hk
    exact ⟨q, h1, b, off, rfl, h2⟩
theorem getD_app {zs : List (List UInt8)} {s : List UInt8} {k : Nat} (h : k < zs.length) : (zs ++ [s]).getD k [] = zs.getD k [] := by
  simp [List.getD, List.getElem?_append_left h]
theorem getD_last {zs : List (List UInt8)} {s : List UInt8} : (zs ++ [s]).getD zs.length [] = s := by
  simp [List.getD]

end Go.Proofs.Ytkoefoccbjhoiaa
