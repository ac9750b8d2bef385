/-
  The walk of TxnBoth: it answers true at all operations, and writes nothing that was there.
-/
import Derived.Test.YtkoefoccbjhoiaaConfl
import Derived.Test.YtkoefoccbjhoiaaOpen
import Derived.Test.YtkoefoccbjhoiaaCounts
set_option linter.unusedVariables false
set_option linter.unusedSimpArgs false
namespace Go.Proofs.Ytkoefoccbjhoiaa
open Go.RowKit

set_option maxRecDepth 100000 in
set_option maxHeartbeats 400000 in
theorem both_walk (a : Option Addr) (cap : Nat) (zs : List OpL) (a' : Option Addr) (cap' : Nat) (ys : List OpL) (s : Int) (w : World) (hl : zs.length ≤ maxLen) (hz : OpsAt w a zs) (_ : ∀ o ∈ zs, FitsOp o) (hl' : ys.length ≤ maxLen) (hy : OpsAt w a' ys) (_ : ∀ o ∈ ys, FitsOp o) (_ : Fits s) :
    Calls Try.prog 5 #[.slice a zs.length cap, .slice a' ys.length cap', .int .i64 s] w fun e w' => e = .returned (.bool true) ∧ Below w.heap.size w w' := by
  go_enter Try.func5, Try.ntmps5
  go_wp2_with fail
  refine (conflict_any _ _ _ _ _ _ _ _ hl hz hl' hy).mono ?_
  rintro e w1 ⟨rfl, hb1⟩
  go_wp2_with fail
  refine (conflict_any _ _ _ _ _ _ _ _ hl' (hy.later hb1) hl (hz.later hb1)).mono ?_
  rintro e w2 ⟨rfl, hb2⟩
  have hb3 := hb1.trans (hb2.mono hb1.size)
  clear hb1 hb2
  rw [conflict_comm ys zs s]
  cases tc : conflictL zs ys s
  · go_wp2_with fail
    refine (keep_counts _).mono ?_
    rintro e w3 ⟨rfl, hb4⟩
    have hb5 := hb3.trans (hb4.mono hb3.size)
    clear hb4 hb3
    go_wp2
    go_ret
    exact ⟨rfl, hb5⟩
  · obtain ⟨t1, t2⟩ := conflict_touches tc
    have T1 : Hid (touchesL zs s = true) := t1
    have T2 : Hid (touchesL ys s = true) := t2
    clear t1 t2 tc
    go_wp2_with fail
    refine (touches_any _ _ _ _ _ hl (hz.later hb3)).mono ?_
    rintro e w3 ⟨rfl, hb4⟩
    have hb5 := hb3.trans (hb4.mono hb3.size)
    clear hb4 hb3
    rw [T1.out]
    go_wp2_with fail
    refine (touches_any _ _ _ _ _ hl' (hy.later hb5)).mono ?_
    rintro e w4 ⟨rfl, hb6⟩
    have hb7 := hb5.trans (hb6.mono hb5.size)
    clear hb5 hb6
    rw [T2.out]
    go_wp2_with fail
    refine (keep_counts _).mono ?_
    rintro e w5 ⟨rfl, hb8⟩
    have hb9 := hb7.trans (hb8.mono hb7.size)
    clear hb7 hb8
    go_wp2
    go_ret
    exact ⟨rfl, hb9⟩

end Go.Proofs.Ytkoefoccbjhoiaa
