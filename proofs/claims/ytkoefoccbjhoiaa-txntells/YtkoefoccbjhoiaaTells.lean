/-
  The walk of TxnTells: it answers true at all operations and numbers, and writes nothing that was there.
-/
import Derived.Test.YtkoefoccbjhoiaaIsOps
import Derived.Test.YtkoefoccbjhoiaaWay
import Derived.Test.YtkoefoccbjhoiaaRefSmall
import Derived.Test.YtkoefoccbjhoiaaOpen
import Derived.Test.YtkoefoccbjhoiaaCounts
import Derived.Deep.RegionWith
set_option linter.unusedVariables false
set_option linter.unusedSimpArgs false
namespace Go.Proofs.Ytkoefoccbjhoiaa
open Go.RowKit

set_option maxRecDepth 100000 in
set_option maxHeartbeats 1000000 in
theorem tells_walk (a : Option Addr) (cap : Nat) (zs : List OpL) (a' : Option Addr) (cap' : Nat) (ys : List OpL) (s n v : Int) (w : World) (hl : zs.length ≤ maxLen) (hz : OpsAt w a zs) (_ : ∀ o ∈ zs, FitsOp o) (hcap : zs.length ≤ cap) (hl' : ys.length ≤ maxLen) (hy : OpsAt w a' ys) (_ : ∀ o ∈ ys, FitsOp o) (_ : ys.length ≤ cap') (_ : Fits s) (_ : Fits n) (_ : Fits v) :
    Calls Try.prog 3 #[.slice a zs.length cap, .slice a' ys.length cap', .int .i64 s, .int .i64 n, .int .i64 v] w fun e w' => e = .returned (.bool true) ∧ Below w.heap.size w w' := by
  go_enter Try.func3, Try.ntmps3
  go_wp2_with fail
  refine (goodOps_any _ _ _ _ hl hz).mono ?_
  rintro e w1 ⟨rfl, hb1⟩
  go_wp2_with fail
  refine (isOps_any _ _ _ _ hl (hz.later hb1) hcap).mono ?_
  rintro e w2 ⟨rfl, hc⟩
  have hb2 := hb1.trans (hc.mono hb1.size)
  clear hb1 hc
  have g1 : (goodOpsL zs != goodOpsL zs) = false := by simp
  go_wp2_with fail
  refine (touches_any _ _ _ _ _ hl (hz.later hb2)).mono ?_
  rintro e w3 ⟨rfl, hc⟩
  have hb3 := hb2.trans (hc.mono hb2.size)
  clear hb2 hc
  go_wp2_with fail
  refine (touchesShard_any _ _ _ _ _ hl (hz.later hb3)).mono ?_
  rintro e w4 ⟨rfl, hc⟩
  have hb4 := hb3.trans (hc.mono hb3.size)
  clear hb3 hc
  have g2 : (touchesL zs s != touchesL zs s) = false := by simp
  go_wp2_with fail
  refine (conflict_any _ _ _ _ _ _ _ _ hl (hz.later hb4) hl' (hy.later hb4)).mono ?_
  rintro e w5 ⟨rfl, hc⟩
  have hb5 := hb4.trans (hc.mono hb4.size)
  clear hb4 hc
  go_wp2_with fail
  refine (inWay_any _ _ _ _ _ _ _ _ hl (hz.later hb5) hl' (hy.later hb5)).mono ?_
  rintro e w6 ⟨rfl, hc⟩
  have hb6 := hb5.trans (hc.mono hb5.size)
  clear hb5 hc
  rw [way_conflict]
  have g3 : (conflictL zs ys s != conflictL zs ys s) = false := by simp
  go_wp2_with fail
  refine (shard_any _ _).mono ?_
  rintro e w7 ⟨rfl, hw⟩
  subst hw
  go_wp2_with fail
  refine (shardOf_any _ _).mono ?_
  rintro e w7 ⟨rfl, hw⟩
  subst hw
  have g4 : (n % 2 != n % 2) = false := by simp
  go_wp2_with fail
  refine (of_any _ _).mono ?_
  rintro e w7 ⟨rfl, hw⟩
  subst hw
  go_wp2_with fail
  refine (ofNode_any _ _).mono ?_
  rintro e w7 ⟨rfl, hw⟩
  subst hw
  have g5 : (ofL n != ofL n) = false := by simp
  go_wp2_with fail
  unfold maxLen at hl
  rcases hz with rfl | ⟨b, off, rfl, hb, hc⟩
  · refine wp_loop_rounds 1 ?_; rw [rounds_succ]
    go_wp2_with fail
    refine (law_counts _).mono ?_
    rintro e w8 ⟨rfl, hc⟩
    have hb8 := hb6.trans (hc.mono hb6.size)
    go_wp2
    go_ret
    exact ⟨rfl, hb8⟩
  go_loopw [54] (fun i wr => ∃ k : Nat, k ≤ zs.length ∧ i = .int .i64 k ∧ Below w.heap.size w wr) (fun i _ => zs.length - (intOf i).toNat)
  case atStart => exact ⟨0, Nat.zero_le _, rfl, hb6⟩
  case round =>
    obtain ⟨k, hk, rfl, hBw⟩ := hrel
    have hsz := hBw.size
    by_cases hlt : k < zs.length
    · obtain ⟨q0, q1, q2, Hq, e0, e1, e2⟩ := OpsAt.at hc hb hBw hlt
      clear hc
      go_wp2_with fail
      have hb0 : Below w.heap.size w (wr.alloc (.cells #[.int .i64 q0, .int .i64 q1, .int .i64 q2] 28)) := hBw.alloc hsz _
      clear e0 e1 e2 Hq
      go_region_with (first
        | (go_at_call 25; refine (do_any v q0 q1 q2 _).mono ?_; rintro e wd ⟨rfl, hbd⟩; have d0 := hbd.cell (p := ⟨wr.heap.size, 0, none⟩) (by simp <;> omega); have d1 := hbd.cell (p := ⟨wr.heap.size, 1, none⟩) (by simp <;> omega); have d2 := hbd.cell (p := ⟨wr.heap.size, 2, none⟩) (by simp <;> omega); have ds := hbd.size; simp [*] at d0 d1 d2 ds)
        | (go_at_call 26; refine (doOp_any v q0 q1 q2 _).mono ?_; rintro e wr2 ⟨rfl, hbr⟩; have r0 := hbr.cell (p := ⟨wr.heap.size, 0, none⟩) (by simp <;> omega); have r1 := hbr.cell (p := ⟨wr.heap.size, 1, none⟩) (by simp <;> omega); have r2 := hbr.cell (p := ⟨wr.heap.size, 2, none⟩) (by simp <;> omega); have rs := hbr.size; simp [*] at r0 r1 r2 rs))
      all_goals
        go_wp2
        go_roundw
        case rel => exact ⟨k + 1, by omega, by go_num, (hb0.drew.trans (hbd.mono (by simp; omega))).trans (hbr.mono (by omega))⟩
        case measure => simp [intOf]; omega
    · go_wp2_with fail
      refine (law_counts _).mono ?_
      rintro e w8 ⟨rfl, hc⟩
      have hb8 := hBw.trans (hc.mono hsz)
      go_wp2
      go_ret
      exact ⟨rfl, hb8⟩

end Go.Proofs.Ytkoefoccbjhoiaa
