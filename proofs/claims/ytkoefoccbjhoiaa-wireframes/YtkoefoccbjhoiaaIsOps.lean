/-
  The contract of the document's own IsOps.
-/
import Derived.Test.YtkoefoccbjhoiaaGood
set_option linter.unusedVariables false
set_option linter.unusedSimpArgs false
namespace Go.Proofs.Ytkoefoccbjhoiaa
open Go.RowKit

theorem isops_bad {zs : List OpL} {k : Nat} {q0 q1 q2 : Int} (hk : k < zs.length) (hq : zs.getD k (0, 0, 0) = (q0, q1, q2)) (h : goodB (q0, q1, q2) = false) : goodOpsL zs = false := by
  unfold goodOpsL
  rw [range_miss hk (goodAt_no1 hq h), Bool.and_false]
theorem isops_twice {zs : List OpL} {k j : Nat} {q0 q1 q2 p0 p1 p2 : Int} (hk : k < zs.length) (hq : zs.getD k (0, 0, 0) = (q0, q1, q2)) (hj : j < k) (hp : zs.getD j (0, 0, 0) = (p0, p1, p2)) (h : (p1 == q1) = true) : goodOpsL zs = false := by
  have : goodAt zs k = false := by
    unfold goodAt
    rw [hq]
    have : (zs.take k).any (keyB q1) = true := by
      refine List.any_eq_true.2 ⟨(p0, p1, p2), ?_, h⟩
      have hg : zs[j]'(by omega) = (p0, p1, p2) := by rw [← hp]; simp [List.getD, show j < zs.length by omega]
      rw [← hg]
      exact List.mem_take_iff_getElem.2 ⟨j, by omega, rfl⟩
    simp [this]
  unfold goodOpsL
  rw [range_miss hk this, Bool.and_false]

theorem goodB_no {q0 q1 q2 : Int} (h : goodB (q0, q1, q2) = false) (c1 : ¬ q0 < 1) (c2 : ¬ 3 < q0) (c3 : ¬ q1 < 0) (c4 : ¬ 7 < q1) (c5 : ¬ 1099511627776 < q2) (c6 : ¬ q2 < -1099511627776) : (q0 == 1) = true ∧ (q2 != 0) = true := by
  have D := of_decide_eq_false h
  simp only at D
  have e : q0 = 1 := by omega
  have e2 : q2 ≠ 0 := by omega
  simp [e, e2]
theorem goodB_yes {q0 q1 q2 : Int} (h : goodB (q0, q1, q2) = true) : ¬ q0 < 1 ∧ ¬ 3 < q0 ∧ ¬ q1 < 0 ∧ ¬ 7 < q1 ∧ ¬ 1099511627776 < q2 ∧ ¬ q2 < -1099511627776 ∧ ((q0 == 1) = true ∧ (q2 != 0) = false ∨ (q0 == 1) = false) := by
  have D := of_decide_eq_true h
  simp only at D
  refine ⟨by omega, by omega, by omega, by omega, by omega, by omega, ?_⟩
  by_cases e : q0 = 1
  · have e2 : q2 = 0 := by omega
    left; simp [e, e2]
  · right; simpa using e
theorem isops_end {zs : List OpL} {k : Nat} (hk : ¬ k < zs.length) (hk' : k ≤ zs.length) (h : (List.range k).all (goodAt zs) = true) : goodOpsL zs = decide (1 ≤ zs.length ∧ zs.length ≤ 4) := by
  have : k = zs.length := by omega
  subst this
  unfold goodOpsL
  rw [h, Bool.and_true]
theorem isops_next {zs : List OpL} {k j : Nat} {q0 q1 q2 : Int} (hq : zs.getD k (0, 0, 0) = (q0, q1, q2)) (h : goodB (q0, q1, q2) = true) (hj : ¬ j < k) (hj' : j ≤ k) (hn : (zs.take j).any (keyB q1) = false) (hall : (List.range k).all (goodAt zs) = true) : (List.range (k + 1)).all (goodAt zs) = true := by
  have : j = k := by omega
  subst this
  refine range_step hall ?_
  unfold goodAt
  rw [hq]
  simp only [h, hn, Bool.not_false, Bool.and_true]

set_option maxRecDepth 100000 in
set_option maxHeartbeats 1000000 in
theorem isOps_any (a : Option Addr) (cap : Nat) (zs : List OpL) (w : World) (hl : zs.length ≤ maxLen) (hz : OpsAt w a zs) (hcap : zs.length ≤ cap) :
    Calls Try.prog 16 #[.slice a zs.length cap] w fun e w' => e = .returned (.bool (goodOpsL zs)) ∧ Below w.heap.size w w' := by
  unfold maxLen at hl
  rcases hz with rfl | ⟨b, off, rfl, hb, hc⟩
  · go_enter Try.func16, Try.ntmps16
    go_wp2
    refine wp_loop_rounds 1 ?_; rw [rounds_succ]
    go_wp2
    go_ret
    exact ⟨rfl, Below.refl _ _⟩
  go_enter Try.func16, Try.ntmps16
  go_wp2
  go_loopw [9] (fun i wr => ∃ k : Nat, k ≤ zs.length ∧ i = .int .i64 k ∧ Hid ((List.range k).all (goodAt zs) = true) ∧ Below w.heap.size w wr) (fun i _ => zs.length - (intOf i).toNat)
  case atStart => exact ⟨0, Nat.zero_le _, rfl, rfl, Below.refl _ _⟩
  case round =>
    obtain ⟨wo, hwo⟩ : ∃ wo, wo = wr := ⟨_, rfl⟩
    subst hwo
    obtain ⟨k, hk, rfl, hall, hBw⟩ := hrel
    have hsz := hBw.size
    by_cases hlt : k < zs.length
    · obtain ⟨q0, q1, q2, Hq, e0, e1, e2⟩ := OpsAt.at hc hb hBw hlt
      cases tg : goodB (q0, q1, q2)
      · have N : Hid (goodOpsL zs = false) := isops_bad hlt Hq.out tg
        clear hc
        by_cases c1 : q0 < 1
        · go_wp2
          go_ret
          exact ⟨ret_bool N.out.symm, hBw.alloc hsz _⟩
        by_cases c2 : 3 < q0
        · go_wp2
          go_ret
          exact ⟨ret_bool N.out.symm, hBw.alloc hsz _⟩
        by_cases c3 : q1 < 0
        · go_wp2
          go_ret
          exact ⟨ret_bool N.out.symm, hBw.alloc hsz _⟩
        by_cases c4 : 7 < q1
        · go_wp2
          go_ret
          exact ⟨ret_bool N.out.symm, hBw.alloc hsz _⟩
        by_cases c5 : 1099511627776 < q2
        · go_wp2
          go_ret
          exact ⟨ret_bool N.out.symm, hBw.alloc hsz _⟩
        by_cases c6 : q2 < -1099511627776
        · go_wp2
          go_ret
          exact ⟨ret_bool N.out.symm, hBw.alloc hsz _⟩
        obtain ⟨c7, c8⟩ := goodB_no tg c1 c2 c3 c4 c5 c6
        go_wp2
        go_ret
        exact ⟨ret_bool N.out.symm, hBw.alloc hsz _⟩
      · obtain ⟨c1, c2, c3, c4, c5, c6, c7⟩ := goodB_yes tg
        have hw : Below w.heap.size w (wo.alloc (.cells #[.int .i64 q0, .int .i64 q1, .int .i64 q2] 28)) := hBw.alloc hsz _
        have TG : Hid (goodB (q0, q1, q2) = true) := tg
        have HC : Hid (∀ i, i < zs.length → w.cell? ⟨b, off + i * 3, none⟩ = some (.int .i64 (zs.getD i (0, 0, 0)).1) ∧ w.cell? ⟨b, off + i * 3 + 1, none⟩ = some (.int .i64 (zs.getD i (0, 0, 0)).2.1) ∧ w.cell? ⟨b, off + i * 3 + 2, none⟩ = some (.int .i64 (zs.getD i (0, 0, 0)).2.2)) := hc
        clear tg hc
        rcases c7 with ⟨c7, c8⟩ | c7
        all_goals
          go_wp2
          go_loopw [56] (fun i wr => ∃ j : Nat, j ≤ k ∧ i = .int .i64 j ∧ Hid ((zs.take j).any (keyB q1) = false) ∧ Below (wo.heap.size + 1) (wo.alloc (.cells #[.int .i64 q0, .int .i64 q1, .int .i64 q2] 28)) wr) (fun i _ => k - (intOf i).toNat)
          case atStart => exact ⟨0, Nat.zero_le _, rfl, rfl, Below.refl _ _⟩
          case round =>
            obtain ⟨j, hj, rfl, hno, hBx⟩ := hrel
            have hBv : Below w.heap.size w wr := hw.trans (hBx.mono (by omega))
            have hsx := hBv.size
            have hsy : wo.heap.size < wr.heap.size := by have := hBx.size; simp at this; omega
            by_cases hjt : j < k
            · obtain ⟨p0, p1, p2, Hp, f0, f1, f2⟩ := OpsAt.at HC.out hb hBv (Nat.lt_trans hjt hlt)
              have g1 := hBx.cell (p := ⟨wo.heap.size, 1, none⟩) (by simp)
              simp at g1
              clear e0 e1 e2
              cases t1 : p1 == q1
              · go_wp2
                go_roundw
                case rel => exact ⟨j + 1, by omega, by go_num, any_step (Nat.lt_trans hjt hlt) Hp.out hno.out t1, hBx.alloc (by omega) _⟩
                case measure => simp [intOf]; omega
              · have N : Hid (goodOpsL zs = false) := isops_twice hlt Hq.out hjt Hp.out t1
                go_wp2
                go_ret
                exact ⟨ret_bool N.out.symm, hBv.alloc hsx _⟩
            · have Y : Hid ((List.range (k + 1)).all (goodAt zs) = true) := isops_next Hq.out TG.out hjt hj hno.out hall.out
              go_wp2
              go_roundw
              case rel => exact ⟨k + 1, by omega, by go_num, Y, hBv⟩
              case measure => simp [intOf]; omega
    · have N : Hid (goodOpsL zs = decide (1 ≤ zs.length ∧ zs.length ≤ 4)) := isops_end hlt hk hall.out
      by_cases z1 : 0 < zs.length
      · by_cases z2 : zs.length < 5
        · go_wp2
          go_ret
          exact ⟨ret_bool (by rw [N.out, Bool.eq_iff_iff]; simp; omega), hBw⟩
        · go_wp2
          go_ret
          exact ⟨ret_bool (by rw [N.out, Bool.eq_iff_iff]; simp; omega), hBw⟩
      · go_wp2
        go_ret
        exact ⟨ret_bool (by rw [N.out, Bool.eq_iff_iff]; simp; omega), hBw⟩

end Go.Proofs.Ytkoefoccbjhoiaa
