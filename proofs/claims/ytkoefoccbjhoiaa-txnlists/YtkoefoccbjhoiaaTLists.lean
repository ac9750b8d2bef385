/-
  The walk of TxnLists: it answers true at all lists, and writes nothing that was there.
-/
import Derived.Test.YtkoefoccbjhoiaaRefLists
import Derived.Test.YtkoefoccbjhoiaaCopy
import Derived.Test.YtkoefoccbjhoiaaOpen
import Derived.Test.YtkoefoccbjhoiaaCounts
set_option linter.unusedVariables false
set_option linter.unusedSimpArgs false
namespace Go.Proofs.Ytkoefoccbjhoiaa
open Go.RowKit

set_option maxRecDepth 100000 in
set_option maxHeartbeats 400000 in
theorem lists_walk (a : Option Addr) (cap : Nat) (zs : List Int) (a' : Option Addr) (cap' : Nat) (ys : List Int) (w : World) (hl : zs.length ≤ maxLen) (hz : IntsAt w.heap.size w a zs) (_ : ∀ x ∈ zs, Fits x) (hn : a = none → zs.length = 0 ∧ cap = 0) (hr : zs.length * 8 ≤ 140737488351232)
    (hl' : ys.length ≤ maxLen) (hy : IntsAt w.heap.size w a' ys) (_ : ∀ x ∈ ys, Fits x) (hn' : a' = none → ys.length = 0 ∧ cap' = 0) (hr' : ys.length * 8 ≤ 140737488351232) :
    Calls Try.prog 4 #[.slice a zs.length cap, .slice a' ys.length cap'] w fun e w' => e = .returned (.bool true) ∧ Below w.heap.size w w' := by
  obtain ⟨i0, hi, hz0, hz1, hz2⟩ := info_parts Try.infoInt
  have hul : (unionL zs ys).length ≤ maxLen := by have := unionTo_len (unionB zs ys) 32; unfold maxLen unionL; omega
  go_enter Try.func4, Try.ntmps4
  go_wp2_with fail
  refine (rising_any _ _ _ _ hl hz).mono ?_
  rintro e w1 ⟨rfl, hw⟩
  subst hw
  go_wp2_with fail
  refine (isRising_any _ _ _ _ hl hz).mono ?_
  rintro e w1 ⟨rfl, hw⟩
  subst hw
  have g1 : (risingFrom (-1) zs == risingFrom (-1) zs) = true := by simp
  go_wp2_with (at_builtin; refine wpList_copy_ints (by rfl) _ _ 32 rfl 3 i0 Try.underlying32 hi hz0 hz1 hz2 rfl a cap zs rfl hn hz (by omega) ?_)
  intro v1 w2 hown1 hb1
  obtain ⟨a1, c1, rfl, hx1⟩ := IntsAt.of_owns hown1
  have hy1 : IntsAt w2.heap.size w2 a' ys := (hy.later hb1).mono hb1.size
  go_wp2_with (at_builtin; refine wpList_copy_ints (by rfl) _ _ 32 rfl 3 i0 Try.underlying32 hi hz0 hz1 hz2 rfl a' cap' ys rfl hn' hy1 (by omega) ?_)
  intro v2 w3 hown2 hb2
  obtain ⟨a2, c2, rfl, hx2⟩ := IntsAt.of_owns hown2
  have hx3 : IntsAt w3.heap.size w3 a1 zs := (hx1.later hb2).mono hb2.size
  have hb3 := hb1.trans (hb2.mono hb1.size)
  clear hown1 hown2 hb1 hb2 hx1 hy1
  go_wp2_with fail
  refine (union_any _ _ _ _ _ _ _ hl hx3 hl' hx2).mono ?_
  rintro e w4 ⟨v3, rfl, hown3, hb4⟩
  obtain ⟨a3, c3, rfl, hu3⟩ := IntsAt.of_owns hown3
  have hb5 := hb3.trans (hb4.mono hb3.size)
  have hz5 : IntsAt w4.heap.size w4 a zs := (hz.later hb5).mono hb5.size
  have hy5 : IntsAt w4.heap.size w4 a' ys := (hy.later hb5).mono hb5.size
  clear hown3 hb3 hb4 hx2 hx3
  go_wp2_with fail
  refine (unionOf_any _ _ _ _ _ _ _ hl hz5 hl' hy5).mono ?_
  rintro e w5 ⟨v4, rfl, hown4, hb6⟩
  obtain ⟨a4, c4, rfl, hu4⟩ := IntsAt.of_owns hown4
  have hu5 : IntsAt w5.heap.size w5 a3 (unionL zs ys) := (hu3.later hb6).mono hb6.size
  have hb7 := hb5.trans (hb6.mono hb5.size)
  clear hown4 hb5 hb6 hu3 hz5 hy5
  go_wp2_with fail
  refine (sameNumbers_any _ _ _ _ _ _ hul hu5 hu4).mono ?_
  rintro e w6 ⟨rfl, hb8⟩
  have hb9 := hb7.trans (hb8.mono hb7.size)
  clear hb7 hb8 hu4 hu5
  go_wp2_with fail
  refine (law_counts _).mono ?_
  rintro e w7 ⟨rfl, hb10⟩
  have hb11 := hb9.trans (hb10.mono hb9.size)
  clear hb9 hb10
  go_wp2
  go_ret
  exact ⟨rfl, hb11⟩

end Go.Proofs.Ytkoefoccbjhoiaa
