/-
  What package graph's Order answers, by what hangs on what alone.
-/
import Derived.Test.YtkoefoccbjhoiabGSpec
set_option linter.unusedVariables false
set_option linter.unusedSimpArgs false
namespace Go.Proofs.Ytkoefoccbjhoiab
open Go.RowKit

theorem Hangs.lt {g : GraphL} {x y : Nat} (h : Hangs g.adj x y) (hx : x < 32) : y < 32 := by
  induction h using Hangs.ind with
  | refl => exact hx
  | step a _ ih => exact ih (g.adj_lt _ _ a)
theorem clo_hang (g : GraphL) {n : Nat} (hn : n < 32) : Clo (hangB g) (hangB g n) := by
  have lt : ∀ x, hangB g n x = true → x < 32 := fun x hx => ((hangB_iff g hn x).1 hx).lt hn
  refine ⟨fun x hx _ => (hangB_iff g hx x).2 (.refl x), fun x y z hx h1 h2 => ?_, fun x y hx h1 => ?_, lt⟩
  · have hx' := lt x hx
    have h1' := (hangB_iff g hx' y).1 h1
    have hy := h1'.lt hx'
    exact (hangB_iff g hx' z).2 (h1'.trans ((hangB_iff g hy z).1 h2))
  · have hx' := lt x hx
    exact (hangB_iff g hn y).2 (((hangB_iff g hn x).1 hx).trans ((hangB_iff g hx' y).1 h1))

theorem end_row (g : GraphL) {n x : Nat} (hn : n < 32) (hx : Hangs g.adj n x) (j : Nat) : (endOf g n).reach x j = hangB g x j := by
  rw [Bool.eq_iff_iff, hangB_iff g (hx.lt hn) j]
  exact (search_whole g.adj_lt hn).2.1 x hx j
theorem end_same (g : GraphL) {n x m : Nat} (hn : n < 32) (hx : Hangs g.adj n x) (hm : m < 32) : sameAs (endOf g n).reach x m = (hangB g x m && hangB g m x) := by
  have hx' := hx.lt hn
  rw [Bool.eq_iff_iff, Bool.and_eq_true]
  unfold sameAs
  rw [sameB_iff]
  constructor
  · intro h
    have h1 : (endOf g n).reach m x = true := by
      rw [← h x hx', end_row g hn hx]
      exact (hangB_iff g hx' x).2 (.refl x)
    have hmn : Hangs g.adj n m := by
      cases Classical.em (Hangs g.adj n m) with
      | inl h => exact h
      | inr h2 =>
        have := (search_whole g.adj_lt hn).2.2 m h2 x
        unfold endOf at h1
        rw [this] at h1
        cases h1
    rw [end_row g hn hmn] at h1
    refine ⟨?_, h1⟩
    have h2 := h m hm
    rw [end_row g hn hx, end_row g hn hmn] at h2
    rw [h2]
    exact (hangB_iff g hm m).2 (.refl m)
  · rintro ⟨h1, h2⟩ j _
    have h1' := (hangB_iff g hx' m).1 h1
    have h2' := (hangB_iff g hm x).1 h2
    rw [end_row g hn hx, end_row g hn (hx.trans h1'), Bool.eq_iff_iff, hangB_iff g hx', hangB_iff g hm]
    exact ⟨fun h => h2'.trans h, fun h => h1'.trans h⟩
theorem end_met (g : GraphL) {n : Nat} (hn : n < 32) (x : Nat) : decide (0 < (endOf g n).turn x) = hangB g n x := by
  rw [Bool.eq_iff_iff, decide_eq_true_iff, hangB_iff g hn x, ← (search_whole g.adj_lt hn).1 x]
  unfold endOf
  omega
theorem end_may (g : GraphL) {n x : Nat} (hn : n < 32) (placed : Nat → Bool) : mayB (endOf g n).reach (endOf g n).turn placed x = mayS (hangB g) (hangB g n) placed x := by
  unfold mayB mayS
  rw [end_met g hn]
  cases hd : hangB g n x
  · rfl
  · have hx := (hangB_iff g hn x).1 hd
    have hx' := hx.lt hn
    congr 1
    unfold freeTo
    rw [Bool.eq_iff_iff, List.all_eq_true, List.all_eq_true]
    constructor
    · intro h m hm
      have := h m hm
      rw [end_row g hn hx, end_same g hn hx (List.mem_range.1 hm)] at this
      cases hxm : hangB g x m
      · simp
      · rw [hxm] at this
        simpa using this
    · intro h m hm
      have := h m hm
      rw [end_row g hn hx, end_same g hn hx (List.mem_range.1 hm)]
      cases hxm : hangB g x m
      · simp
      · rw [hxm] at this
        simpa using this
theorem end_ring (g : GraphL) {n x : Nat} (hn : n < 32) (hd : hangB g n x = true) : ringN (endOf g n).reach x = ringS (hangB g) x := by
  unfold ringN ringS
  exact List.filter_congr fun m hm => end_same g hn ((hangB_iff g hn x).1 hd) (List.mem_range.1 hm)
theorem end_next (g : GraphL) {n : Nat} (hn : n < 32) (placed : Nat → Bool) : nextL (endOf g n).reach (endOf g n).turn placed = nextS (hangB g) (hangB g n) placed := by
  have e : mayB (endOf g n).reach (endOf g n).turn placed = mayS (hangB g) (hangB g n) placed := funext fun x => end_may g hn placed
  unfold nextL nextN nextS
  rw [e]
  cases hq : (List.range 32).find? (mayS (hangB g) (hangB g n) placed) with
  | none => rfl
  | some x =>
    have := List.find?_some hq
    exact end_ring g hn (mayS_iff.1 this).1
theorem end_out (g : GraphL) {n : Nat} (hn : n < 32) : ∀ j, outAt (endOf g n).reach (endOf g n).turn j = outS (hangB g) (hangB g n) j
  | 0 => rfl
  | j + 1 => by
    show outAt (endOf g n).reach (endOf g n).turn j ++ _ = outS (hangB g) (hangB g n) j ++ _
    rw [end_out g hn j, end_next g hn]
/-- THE ORDER. -/
theorem order_spec (g : GraphL) {n : Nat} (hn : n < 32) : orderNat g n = outS (hangB g) (hangB g n) 32 := end_out g hn 32

theorem knowsB_iff {g : GraphL} {S : Nat → Bool} : knowsB g S 32 = true ↔ ∀ i, i < 32 → S i = true → g.known i = true := by
  unfold knowsB
  simp only [List.all_eq_true, List.mem_range, Bool.or_eq_true, Bool.not_eq_true']
  constructor
  · intro h i hi hs
    rcases h i hi with h | h
    · rw [hs] at h; cases h
    · exact h
  · intro h i hi
    cases hs : S i
    · exact Or.inl rfl
    · exact Or.inr (h i hi hs)

end Go.Proofs.Ytkoefoccbjhoiab
