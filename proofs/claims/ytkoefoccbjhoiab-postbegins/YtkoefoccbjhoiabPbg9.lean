/-
  The contract of the document's own IsOps.
  The contracts of the document's own SameCase (of cases that are alike; against nothing) and IsCase.
-/
import Derived.Test.YtkoefoccbjhoiabPbg2
import Derived.Test.YtkoefoccbjhoiabPbg6
import Derived.Test.YtkoefoccbjhoiabPbg8
set_option linter.unusedVariables false
set_option linter.unusedSimpArgs false
namespace Go.Proofs.Ytkoefoccbjhoiab
open Go.RowKit

theorem isops_bad {zs : List OpL} {k : Nat} {q0 q1 q2 : Int} (hk : k < zs.length) (hq : zs.getD k (0, 0, 0) = (q0, q1, q2)) (h : goodB (q0, q1, q2) = false) : goodOpsL zs = false := by
  unfold goodOpsL
  rw [range_miss hk (goodAt_no1 hq h), Bool.and_false]
theorem isops_twice {zs : List OpL} {k j : Nat} {q0 q1 q2 p0 p1 p2 : Int} (hk : k < zs.length) (hq : zs.getD k (0, 0, 0) = (q0, q1, q2)) (hj : j < k) (hp : zs.getD j (0, 0, 0) = (p0, p1, p2)) (h : (p1 == q1) = true) : goodOpsL zs = false := by
  have : goodAt zs k = false := by
    unfold goodAt
    rw [hq]
    have : (zs.take k).any (keyB q1) = true := by
      refine List.any_eq_true.2 ⟨(p0, p1, p2), ?_, h⟩
      have hg : zs[j]'(by omega) = (p0, p1, p2) := by rw [← hp]; simp [List.getD, show j < zs.length by omega]
      rw [← hg]
      exact List.mem_take_iff_getElem.2 ⟨j, by omega, rfl⟩
    simp [this]
  unfold goodOpsL
  rw [range_miss hk this, Bool.and_false]

theorem goodB_no {q0 q1 q2 : Int} (h : goodB (q0, q1, q2) = false) (c1 : ¬ q0 < 1) (c2 : ¬ 3 < q0) (c3 : ¬ q1 < 0) (c4 : ¬ 7 < q1) (c5 : ¬ 1099511627776 < q2) (c6 : ¬ q2 < -1099511627776) : (q0 == 1) = true ∧ (q2 != 0) = true := by
  have D := of_decide_eq_false h
  simp only at D
  have e : q0 = 1 := by omega
  have e2 : q2 ≠ 0 := by omega
  simp [e, e2]
theorem goodB_yes {q0 q1 q2 : Int} (h : goodB (q0, q1, q2) = true) : ¬ q0 < 1 ∧ ¬ 3 < q0 ∧ ¬ q1 < 0 ∧ ¬ 7 < q1 ∧ ¬ 1099511627776 < q2 ∧ ¬ q2 < -1099511627776 ∧ ((q0 == 1) = true ∧ (q2 != 0) = false ∨ (q0 == 1) = false) := by
  have D := of_decide_eq_true h
  simp only at D
  refine ⟨by omega, by omega, by omega, by omega, by omega, by omega, ?_⟩
  by_cases e : q0 = 1
  · have e2 : q2 = 0 := by omega
    left; simp [e, e2]
  · right; simpa using e
theorem isops_end {zs : List OpL} {k : Nat} (hk : ¬ k < zs.length) (hk' : k ≤ zs.length) (h : (List.range k).all (goodAt zs) = true) : goodOpsL zs = decide (1 ≤ zs.length ∧ zs.length ≤ 4) := by
  have : k = zs.length := by omega
  subst this
  unfold goodOpsL
  rw [h, Bool.and_true]
theorem isops_next {zs : List OpL} {k j : Nat} {q0 q1 q2 : Int} (hq : zs.getD k (0, 0, 0) = (q0, q1, q2)) (h : goodB (q0, q1, q2) = true) (hj : ¬ j < k) (hj' : j ≤ k) (hn : (zs.take j).any (keyB q1) = false) (hall : (List.range k).all (goodAt zs) = true) : (List.range (k + 1)).all (goodAt zs) = true := by
  have : j = k := by omega
  subst this
  refine range_step hall ?_
  unfold goodAt
  rw [hq]
  simp only [h, hn, Bool.not_false, Bool.and_true]

set_option maxRecDepth 100000 in
set_option maxHeartbeats 1000000 in
theorem isOps_any (a : Option Addr) (cap : Nat) (zs : List OpL) (w : World) (hl : zs.length ≤ maxLen) (hz : OpsAt w a zs) (hcap : zs.length ≤ cap) :
    Calls Try.prog 78 #[.slice a zs.length cap] w fun e w' => e = .returned (.bool (goodOpsL zs)) ∧ Below w.heap.size w w' := by
  unfold maxLen at hl
  rcases hz with rfl | ⟨b, off, rfl, hb, hc⟩
  · go_enter Try.func78, Try.ntmps78
    go_wp2
    refine wp_loop_rounds 1 ?_; rw [rounds_succ]
    go_wp2
    go_ret
    exact ⟨rfl, Below.refl _ _⟩
  go_enter Try.func78, Try.ntmps78
  go_wp2
  go_loopw [9] (fun i wr => ∃ k : Nat, k ≤ zs.length ∧ i = .int .i64 k ∧ Hid ((List.range k).all (goodAt zs) = true) ∧ Below w.heap.size w wr) (fun i _ => zs.length - (intOf i).toNat)
  case atStart => exact ⟨0, Nat.zero_le _, rfl, rfl, Below.refl _ _⟩
  case round =>
    obtain ⟨wo, hwo⟩ : ∃ wo, wo = wr := ⟨_, rfl⟩
    subst hwo
    obtain ⟨k, hk, rfl, hall, hBw⟩ := hrel
    have hsz := hBw.size
    by_cases hlt : k < zs.length
    · obtain ⟨q0, q1, q2, Hq, e0, e1, e2⟩ := OpsAt.at hc hb hBw hlt
      cases tg : goodB (q0, q1, q2)
      · have N : Hid (goodOpsL zs = false) := isops_bad hlt Hq.out tg
        clear hc
        by_cases c1 : q0 < 1
        · go_wp2
          go_ret
          exact ⟨ret_bool N.out.symm, hBw.alloc hsz _⟩
        by_cases c2 : 3 < q0
        · go_wp2
          go_ret
          exact ⟨ret_bool N.out.symm, hBw.alloc hsz _⟩
        by_cases c3 : q1 < 0
        · go_wp2
          go_ret
          exact ⟨ret_bool N.out.symm, hBw.alloc hsz _⟩
        by_cases c4 : 7 < q1
        · go_wp2
          go_ret
          exact ⟨ret_bool N.out.symm, hBw.alloc hsz _⟩
        by_cases c5 : 1099511627776 < q2
        · go_wp2
          go_ret
          exact ⟨ret_bool N.out.symm, hBw.alloc hsz _⟩
        by_cases c6 : q2 < -1099511627776
        · go_wp2
          go_ret
          exact ⟨ret_bool N.out.symm, hBw.alloc hsz _⟩
        obtain ⟨c7, c8⟩ := goodB_no tg c1 c2 c3 c4 c5 c6
        go_wp2
        go_ret
        exact ⟨ret_bool N.out.symm, hBw.alloc hsz _⟩
      · obtain ⟨c1, c2, c3, c4, c5, c6, c7⟩ := goodB_yes tg
        have hw : Below w.heap.size w (wo.alloc (.cells #[.int .i64 q0, .int .i64 q1, .int .i64 q2] 108)) := hBw.alloc hsz _
        have TG : Hid (goodB (q0, q1, q2) = true) := tg
        have HC : Hid (∀ i, i < zs.length → w.cell? ⟨b, off + i * 3, none⟩ = some (.int .i64 (zs.getD i (0, 0, 0)).1) ∧ w.cell? ⟨b, off + i * 3 + 1, none⟩ = some (.int .i64 (zs.getD i (0, 0, 0)).2.1) ∧ w.cell? ⟨b, off + i * 3 + 2, none⟩ = some (.int .i64 (zs.getD i (0, 0, 0)).2.2)) := hc
        clear tg hc
        rcases c7 with ⟨c7, c8⟩ | c7
        all_goals
          go_wp2
          go_loopw [56] (fun i wr => ∃ j : Nat, j ≤ k ∧ i = .int .i64 j ∧ Hid ((zs.take j).any (keyB q1) = false) ∧ Below (wo.heap.size + 1) (wo.alloc (.cells #[.int .i64 q0, .int .i64 q1, .int .i64 q2] 108)) wr) (fun i _ => k - (intOf i).toNat)
          case atStart => exact ⟨0, Nat.zero_le _, rfl, rfl, Below.refl _ _⟩
          case round =>
            obtain ⟨j, hj, rfl, hno, hBx⟩ := hrel
            have hBv : Below w.heap.size w wr := hw.trans (hBx.mono (by omega))
            have hsx := hBv.size
            have hsy : wo.heap.size < wr.heap.size := by have := hBx.size; simp at this; omega
            by_cases hjt : j < k
            · obtain ⟨p0, p1, p2, Hp, f0, f1, f2⟩ := OpsAt.at HC.out hb hBv (Nat.lt_trans hjt hlt)
              have g1 := hBx.cell (p := ⟨wo.heap.size, 1, none⟩) (by simp)
              simp at g1
              clear e0 e1 e2
              cases t1 : p1 == q1
              · go_wp2
                go_roundw
                case rel => exact ⟨j + 1, by omega, by go_num, any_step (Nat.lt_trans hjt hlt) Hp.out hno.out t1, hBx.alloc (by omega) _⟩
                case measure => simp [intOf]; omega
              · have N : Hid (goodOpsL zs = false) := isops_twice hlt Hq.out hjt Hp.out t1
                go_wp2
                go_ret
                exact ⟨ret_bool N.out.symm, hBv.alloc hsx _⟩
            · have Y : Hid ((List.range (k + 1)).all (goodAt zs) = true) := isops_next Hq.out TG.out hjt hj hno.out hall.out
              go_wp2
              go_roundw
              case rel => exact ⟨k + 1, by omega, by go_num, Y, hBv⟩
              case measure => simp [intOf]; omega
    · have N : Hid (goodOpsL zs = decide (1 ≤ zs.length ∧ zs.length ≤ 4)) := isops_end hlt hk hall.out
      by_cases z1 : 0 < zs.length
      · by_cases z2 : zs.length < 5
        · go_wp2
          go_ret
          exact ⟨ret_bool (by rw [N.out, Bool.eq_iff_iff]; simp; omega), hBw⟩
        · go_wp2
          go_ret
          exact ⟨ret_bool (by rw [N.out, Bool.eq_iff_iff]; simp; omega), hBw⟩
      · go_wp2
        go_ret
        exact ⟨ret_bool (by rw [N.out, Bool.eq_iff_iff]; simp; omega), hBw⟩

end Go.Proofs.Ytkoefoccbjhoiab

namespace Go.Proofs.Ytkoefoccbjhoiab
open Go.RowKit

/-- Alike, as far as a case goes. -/
structure AlikeC (c e : CaseL) : Prop where
  begun : c.begun = e.begun
  fixed : c.fixed = e.fixed
  ops : c.ops = e.ops
  told : ∀ i, i < 6 → c.told i = e.told i
  known : ∀ i, i < 6 → c.known i = e.known i
  deps : c.deps = e.deps
  has : ∀ i, i < 4 → c.has i = e.has i
  vals : ∀ i, i < 4 → c.vals i = e.vals i
theorem AlikeC.refl (c : CaseL) : AlikeC c c := ⟨rfl, rfl, rfl, fun _ _ => rfl, fun _ _ => rfl, rfl, fun _ _ => rfl, fun _ _ => rfl⟩
set_option maxRecDepth 100000 in
set_option maxHeartbeats 400000 in
theorem sameNumbers_empty (a : Option Addr) (cap : Nat) (zs : List Int) (b : Option Addr) (cap' : Nat) (w : World) (h : SlInts w a cap zs) :
    Calls Try.prog 35 #[.slice a zs.length cap, .slice b 0 cap'] w fun e w' => e = .returned (.bool zs.isEmpty) ∧ Below w.heap.size w w' := by
  cases zs with
  | nil => exact sameNumbers_any a cap [] b cap' w h.2.1 h.1 (Or.inl rfl)
  | cons z r =>
    have hl := h.2.1
    unfold maxLen at hl
    have hne : (((z :: r).length : Int) != 0) = true := by simp; omega
    have E : Hid ((z :: r).isEmpty = false) := rfl
    generalize z :: r = l at *
    go_enter Try.func35, Try.ntmps35
    go_wp2
    go_ret
    exact ⟨ret_bool E.out.symm, Below.refl _ _⟩
set_option maxRecDepth 100000 in
set_option maxHeartbeats 400000 in
theorem sameOps_empty (a : Option Addr) (cap : Nat) (zs : List OpL) (b : Option Addr) (cap' : Nat) (w : World) (h : SlOps w a cap zs) :
    Calls Try.prog 82 #[.slice a zs.length cap, .slice b 0 cap'] w fun e w' => e = .returned (.bool zs.isEmpty) ∧ Below w.heap.size w w' := by
  cases zs with
  | nil => exact ref_sameOps_any a cap [] b cap' w h.2.1 h.1 (Or.inl rfl)
  | cons z r =>
    have hl := h.2.1
    unfold maxLen at hl
    have hne : (((z :: r).length : Int) != 0) = true := by simp; omega
    have E : Hid ((z :: r).isEmpty = false) := rfl
    generalize z :: r = l at *
    go_enter Try.func82, Try.ntmps82
    go_wp2
    go_ret
    exact ⟨ret_bool E.out.symm, Below.refl _ _⟩

set_option maxRecDepth 100000 in
set_option maxHeartbeats 2000000 in
theorem ref_sameCase_any (gr : Array Value) (c : CaseL) (hr : Array Value) (e : CaseL) (w : World) (h : CaseV w gr c) (h' : CaseV w hr e) (hs : AlikeC c e) :
    Calls Try.prog 47 #[.agg gr, .agg hr] w fun r w' => r = .returned (.bool true) ∧ Below w.heap.size w w' := by
  have HA : Hid (AlikeC c e) := hs
  clear hs
  obtain ⟨W, hW⟩ : ∃ W, W = (w.alloc (.cells gr 73)).alloc (.cells hr 73) := ⟨_, rfl⟩
  have hb : Below w.heap.size w W := by rw [hW]; exact ((Below.refl _ _).alloc (Nat.le_refl _) _).alloc (by rw [size_push]; omega) _
  have hzW : W.heap.size = w.heap.size + 2 := by rw [hW, size_push, size_push]
  have hB1 : InBox w.heap.size W gr c := by rw [hW]; exact (InBox.new h).later ((Below.refl _ _).alloc (Nat.le_refl _) _)
  have hB2 : InBox (w.heap.size + 1) W hr e := by
    rw [hW, ← size_push w (.cells gr 73)]
    exact InBox.new (h'.later ((Below.refl _ _).alloc (Nat.le_refl _) _))
  have HW : Hid (W = (w.alloc (.cells gr 73)).alloc (.cells hr 73)) := hW
  have HB1 : Hid (InBox w.heap.size W gr c) := hB1
  have HB2 : Hid (InBox (w.heap.size + 1) W hr e) := hB2
  have p0 := hB1.begun
  have p0' := hB2.begun
  have p1 := hB1.fixed
  have p1' := hB2.fixed
  obtain ⟨a2, c2, p2, hs2, hl2⟩ := hB1.ops
  obtain ⟨b2, d2, p2', hs2', hl2'⟩ := hB2.ops
  clear hW hB1 hB2 h h'
  rw [HA.out.begun] at p0
  rw [HA.out.fixed] at p1
  rw [HA.out.ops] at p2 hs2
  have bb : (e.begun == e.begun) = true := by simp
  have ff : (e.fixed == e.fixed) = true := by simp
  go_enter Try.func47, Try.ntmps47
  go_upto_region 1 with fail
  rw [← HW.out]
  clear HW
  go_wp2_with fail
  refine (ref_sameOps_any a2 c2 e.ops b2 d2 W hs2.2.1 hs2.1 hs2'.1).mono ?_
  rintro e1 w1 ⟨rfl, hb1⟩
  have HX1 : Hid (InBox w.heap.size w1 gr c) := HB1.out.later hb1
  have HX2 : Hid (InBox (w.heap.size + 1) w1 hr e) := HB2.out.later hb1
  have hw1 : Below w.heap.size w w1 := hb.trans (hb1.mono (by omega))
  have hz1 := hb1.size
  clear hb1 p0 p0' p1 p1' p2 p2'
  obtain ⟨A1, hA1⟩ : ∃ A, A = bools 6 c.told := ⟨_, rfl⟩
  obtain ⟨ZA1, hZA1⟩ : ∃ A, A = bools 6 e.told := ⟨_, rfl⟩
  have rA1 := HX1.out.rTold
  have rZA1 := HX2.out.rTold
  have zA1 := row_six c.told
  have zZA1 := row_six e.told
  have eA1 := fun w => run_equalIn_bools 9998 Try.underlying69 Try.underlying4 Try.infoBool c.told e.told w
  rw [← hA1] at rA1 zA1 eA1
  rw [← hZA1] at rZA1 zZA1 eA1
  clear hA1 hZA1
  obtain ⟨A2, hA2⟩ : ∃ A, A = bools 6 c.known := ⟨_, rfl⟩
  obtain ⟨ZA2, hZA2⟩ : ∃ A, A = bools 6 e.known := ⟨_, rfl⟩
  have rA2 := HX1.out.rKnown
  have rZA2 := HX2.out.rKnown
  have zA2 := row_six c.known
  have zZA2 := row_six e.known
  have eA2 := fun w => run_equalIn_bools 9998 Try.underlying69 Try.underlying4 Try.infoBool c.known e.known w
  rw [← hA2] at rA2 zA2 eA2
  rw [← hZA2] at rZA2 zZA2 eA2
  clear hA2 hZA2
  have g6 := Try.sixGuard
  have g4 := Try.fourGuard
  have gI := Try.fourIGuard
  obtain ⟨a5, c5, q5, hs5, _⟩ := HX1.out.deps
  obtain ⟨b5, d5, q5', hs5', _⟩ := HX2.out.deps
  rw [HA.out.deps] at q5 hs5
  rw [sameB_iff.2 HA.out.told] at eA1
  rw [sameB_iff.2 HA.out.known] at eA2
  go_wp2_with (first
    | ((with_reducible apply wpl_mid rA1); (· rfl); (· exact zA1); (· rfl); simp only [Act.put, List.setIfInBounds_toArray, List.set_cons_zero, List.set_cons_succ])
    | ((with_reducible apply wpl_mid rZA1); (· rfl); (· exact zZA1); (· rfl); simp only [Act.put, List.setIfInBounds_toArray, List.set_cons_zero, List.set_cons_succ])
    | ((with_reducible apply wpl_mid rA2); (· rfl); (· exact zA2); (· rfl); simp only [Act.put, List.setIfInBounds_toArray, List.set_cons_zero, List.set_cons_succ])
    | ((with_reducible apply wpl_mid rZA2); (· rfl); (· exact zZA2); (· rfl); simp only [Act.put, List.setIfInBounds_toArray, List.set_cons_zero, List.set_cons_succ])
    | fail)
  refine (sameNumbers_any a5 c5 e.deps b5 d5 w1 hs5.2.1 hs5.1 hs5'.1).mono ?_
  rintro e2 w2 ⟨rfl, hb2⟩
  have HY1 : Hid (InBox w.heap.size w2 gr c) := HX1.out.later hb2
  have HY2 : Hid (InBox (w.heap.size + 1) w2 hr e) := HX2.out.later hb2
  have hw2 : Below w.heap.size w w2 := hw1.trans (hb2.mono (by omega))
  clear hb2 q5 q5'
  clear rA1 rZA1 zA1 zZA1 eA1 rA2 rZA2 zA2 zZA2 eA2
  obtain ⟨A3, hA3⟩ : ∃ A, A = bools 4 c.has := ⟨_, rfl⟩
  obtain ⟨ZA3, hZA3⟩ : ∃ A, A = bools 4 e.has := ⟨_, rfl⟩
  have rA3 := HY1.out.rHas
  have rZA3 := HY2.out.rHas
  have zA3 := row_four c.has
  have zZA3 := row_four e.has
  have eA3 := fun w => run_equalIn_bools 9998 Try.underlying70 Try.underlying4 Try.infoBool c.has e.has w
  rw [← hA3] at rA3 zA3 eA3
  rw [← hZA3] at rZA3 zZA3 eA3
  clear hA3 hZA3
  obtain ⟨A4, hA4⟩ : ∃ A, A = (rowF 4 fun i => Value.int .i64 (c.vals i)) := ⟨_, rfl⟩
  obtain ⟨ZA4, hZA4⟩ : ∃ A, A = (rowF 4 fun i => Value.int .i64 (e.vals i)) := ⟨_, rfl⟩
  have rA4 := HY1.out.rVals
  have rZA4 := HY2.out.rVals
  have zA4 := row_fourI c.vals
  have zZA4 := row_fourI e.vals
  have eA4 := fun w => run_equalIn_rows 9998 Try.underlying71 Try.underlying3 Try.infoInt1 c.vals e.vals w
  rw [← hA4] at rA4 zA4 eA4
  rw [← hZA4] at rZA4 zZA4 eA4
  clear hA4 hZA4
  rw [sameB_iff.2 HA.out.has] at eA3
  rw [sameI_iff.2 HA.out.vals] at eA4
  go_wp2_with (first
    | ((with_reducible apply wpl_mid rA3); (· rfl); (· exact zA3); (· rfl); simp only [Act.put, List.setIfInBounds_toArray, List.set_cons_zero, List.set_cons_succ])
    | ((with_reducible apply wpl_mid rZA3); (· rfl); (· exact zZA3); (· rfl); simp only [Act.put, List.setIfInBounds_toArray, List.set_cons_zero, List.set_cons_succ])
    | ((with_reducible apply wpl_mid rA4); (· rfl); (· exact zA4); (· rfl); simp only [Act.put, List.setIfInBounds_toArray, List.set_cons_zero, List.set_cons_succ])
    | ((with_reducible apply wpl_mid rZA4); (· rfl); (· exact zZA4); (· rfl); simp only [Act.put, List.setIfInBounds_toArray, List.set_cons_zero, List.set_cons_succ])
    | fail)
  go_ret
  exact ⟨rfl, hw2⟩

set_option maxRecDepth 100000 in
set_option maxHeartbeats 2000000 in
theorem sameZ_0 (gr : Array Value) (c : CaseL) (hr : Array Value) (e : CaseL) (w : World) (h : CaseV w gr c) (h' : CaseV w hr e) (he : e = zeroC) (tb : c.begun = false) (tf : c.fixed = true) :
    Calls Try.prog 47 #[.agg gr, .agg hr] w fun r w' => r = .returned (.bool false) ∧ Below w.heap.size w w' := by
  have HE : Hid (e.begun = false ∧ e.fixed = false ∧ e.ops = [] ∧ e.deps = []) := by rw [he]; exact ⟨rfl, rfl, rfl, rfl⟩
  have Htb : Hid (c.begun = false) := tb
  have Htf : Hid (c.fixed = true) := tf
  clear he tb tf
  obtain ⟨W, hW⟩ : ∃ W, W = (w.alloc (.cells gr 73)).alloc (.cells hr 73) := ⟨_, rfl⟩
  have hb : Below w.heap.size w W := by rw [hW]; exact ((Below.refl _ _).alloc (Nat.le_refl _) _).alloc (by rw [size_push]; omega) _
  have hzW : W.heap.size = w.heap.size + 2 := by rw [hW, size_push, size_push]
  have hB1 : InBox w.heap.size W gr c := by rw [hW]; exact (InBox.new h).later ((Below.refl _ _).alloc (Nat.le_refl _) _)
  have hB2 : InBox (w.heap.size + 1) W hr e := by
    rw [hW, ← size_push w (.cells gr 73)]
    exact InBox.new (h'.later ((Below.refl _ _).alloc (Nat.le_refl _) _))
  have HW : Hid (W = (w.alloc (.cells gr 73)).alloc (.cells hr 73)) := hW
  have HB1 : Hid (InBox w.heap.size W gr c) := hB1
  have HB2 : Hid (InBox (w.heap.size + 1) W hr e) := hB2
  have p0 := hB1.begun
  have p0' := hB2.begun
  have p1 := hB1.fixed
  have p1' := hB2.fixed
  obtain ⟨a2, c2, p2, hs2, hl2⟩ := hB1.ops
  obtain ⟨b2, d2, p2', hs2', hl2'⟩ := hB2.ops
  clear hW hB1 hB2 h h'
  rw [Htb.out] at p0
  rw [Htf.out] at p1
  rw [HE.out.1] at p0'
  rw [HE.out.2.1] at p1'
  go_enter Try.func47, Try.ntmps47
  go_upto_region 1 with fail
  rw [← HW.out]
  clear HW
  clear p2 p2'
  go_wp2
  go_ret
  exact ⟨rfl, hb⟩

set_option maxRecDepth 100000 in
set_option maxHeartbeats 2000000 in
theorem sameZ_1 (gr : Array Value) (c : CaseL) (hr : Array Value) (e : CaseL) (w : World) (h : CaseV w gr c) (h' : CaseV w hr e) (he : e = zeroC) (tb : c.begun = false) (tf : c.fixed = false) (tp : c.ops.isEmpty = false) :
    Calls Try.prog 47 #[.agg gr, .agg hr] w fun r w' => r = .returned (.bool false) ∧ Below w.heap.size w w' := by
  have HE : Hid (e.begun = false ∧ e.fixed = false ∧ e.ops = [] ∧ e.deps = []) := by rw [he]; exact ⟨rfl, rfl, rfl, rfl⟩
  have Htb : Hid (c.begun = false) := tb
  have Htf : Hid (c.fixed = false) := tf
  have Htp : Hid (c.ops.isEmpty = false) := tp
  clear he tb tf tp
  obtain ⟨W, hW⟩ : ∃ W, W = (w.alloc (.cells gr 73)).alloc (.cells hr 73) := ⟨_, rfl⟩
  have hb : Below w.heap.size w W := by rw [hW]; exact ((Below.refl _ _).alloc (Nat.le_refl _) _).alloc (by rw [size_push]; omega) _
  have hzW : W.heap.size = w.heap.size + 2 := by rw [hW, size_push, size_push]
  have hB1 : InBox w.heap.size W gr c := by rw [hW]; exact (InBox.new h).later ((Below.refl _ _).alloc (Nat.le_refl _) _)
  have hB2 : InBox (w.heap.size + 1) W hr e := by
    rw [hW, ← size_push w (.cells gr 73)]
    exact InBox.new (h'.later ((Below.refl _ _).alloc (Nat.le_refl _) _))
  have HW : Hid (W = (w.alloc (.cells gr 73)).alloc (.cells hr 73)) := hW
  have HB1 : Hid (InBox w.heap.size W gr c) := hB1
  have HB2 : Hid (InBox (w.heap.size + 1) W hr e) := hB2
  have p0 := hB1.begun
  have p0' := hB2.begun
  have p1 := hB1.fixed
  have p1' := hB2.fixed
  obtain ⟨a2, c2, p2, hs2, hl2⟩ := hB1.ops
  obtain ⟨b2, d2, p2', hs2', hl2'⟩ := hB2.ops
  clear hW hB1 hB2 h h'
  rw [Htb.out] at p0
  rw [Htf.out] at p1
  rw [HE.out.1] at p0'
  rw [HE.out.2.1] at p1'
  go_enter Try.func47, Try.ntmps47
  go_upto_region 1 with fail
  rw [← HW.out]
  clear HW
  have hl0 : e.ops.length = 0 := by rw [HE.out.2.2.1]; rfl
  rw [hl0] at p2'
  clear hl0
  have htp : c.ops.isEmpty = false := Htp.out
  go_wp2_with fail
  refine (sameOps_empty a2 c2 c.ops b2 d2 W hs2).mono ?_
  rintro e1 w1 ⟨rfl, hb1⟩
  have HX1 : Hid (InBox w.heap.size w1 gr c) := HB1.out.later hb1
  have HX2 : Hid (InBox (w.heap.size + 1) w1 hr e) := HB2.out.later hb1
  have hw1 : Below w.heap.size w w1 := hb.trans (hb1.mono (by omega))
  have hz1 := hb1.size
  clear hb1 p0 p0' p1 p1' p2 p2'
  go_wp2
  go_ret
  exact ⟨rfl, hw1⟩

set_option maxRecDepth 100000 in
set_option maxHeartbeats 2000000 in
theorem sameZ_2 (gr : Array Value) (c : CaseL) (hr : Array Value) (e : CaseL) (w : World) (h : CaseV w gr c) (h' : CaseV w hr e) (he : e = zeroC) (tb : c.begun = false) (tf : c.fixed = false) (tp : c.ops.isEmpty = true) (t1 : sameB 6 c.told e.told = false) :
    Calls Try.prog 47 #[.agg gr, .agg hr] w fun r w' => r = .returned (.bool false) ∧ Below w.heap.size w w' := by
  have HE : Hid (e.begun = false ∧ e.fixed = false ∧ e.ops = [] ∧ e.deps = []) := by rw [he]; exact ⟨rfl, rfl, rfl, rfl⟩
  have Htb : Hid (c.begun = false) := tb
  have Htf : Hid (c.fixed = false) := tf
  have Htp : Hid (c.ops.isEmpty = true) := tp
  have Ht1 : Hid (sameB 6 c.told e.told = false) := t1
  clear he tb tf tp t1
  obtain ⟨W, hW⟩ : ∃ W, W = (w.alloc (.cells gr 73)).alloc (.cells hr 73) := ⟨_, rfl⟩
  have hb : Below w.heap.size w W := by rw [hW]; exact ((Below.refl _ _).alloc (Nat.le_refl _) _).alloc (by rw [size_push]; omega) _
  have hzW : W.heap.size = w.heap.size + 2 := by rw [hW, size_push, size_push]
  have hB1 : InBox w.heap.size W gr c := by rw [hW]; exact (InBox.new h).later ((Below.refl _ _).alloc (Nat.le_refl _) _)
  have hB2 : InBox (w.heap.size + 1) W hr e := by
    rw [hW, ← size_push w (.cells gr 73)]
    exact InBox.new (h'.later ((Below.refl _ _).alloc (Nat.le_refl _) _))
  have HW : Hid (W = (w.alloc (.cells gr 73)).alloc (.cells hr 73)) := hW
  have HB1 : Hid (InBox w.heap.size W gr c) := hB1
  have HB2 : Hid (InBox (w.heap.size + 1) W hr e) := hB2
  have p0 := hB1.begun
  have p0' := hB2.begun
  have p1 := hB1.fixed
  have p1' := hB2.fixed
  obtain ⟨a2, c2, p2, hs2, hl2⟩ := hB1.ops
  obtain ⟨b2, d2, p2', hs2', hl2'⟩ := hB2.ops
  clear hW hB1 hB2 h h'
  rw [Htb.out] at p0
  rw [Htf.out] at p1
  rw [HE.out.1] at p0'
  rw [HE.out.2.1] at p1'
  go_enter Try.func47, Try.ntmps47
  go_upto_region 1 with fail
  rw [← HW.out]
  clear HW
  have hl0 : e.ops.length = 0 := by rw [HE.out.2.2.1]; rfl
  rw [hl0] at p2'
  clear hl0
  have htp : c.ops.isEmpty = true := Htp.out
  go_wp2_with fail
  refine (sameOps_empty a2 c2 c.ops b2 d2 W hs2).mono ?_
  rintro e1 w1 ⟨rfl, hb1⟩
  have HX1 : Hid (InBox w.heap.size w1 gr c) := HB1.out.later hb1
  have HX2 : Hid (InBox (w.heap.size + 1) w1 hr e) := HB2.out.later hb1
  have hw1 : Below w.heap.size w w1 := hb.trans (hb1.mono (by omega))
  have hz1 := hb1.size
  clear hb1 p0 p0' p1 p1' p2 p2'
  obtain ⟨A1, hA1⟩ : ∃ A, A = bools 6 c.told := ⟨_, rfl⟩
  obtain ⟨ZA1, hZA1⟩ : ∃ A, A = bools 6 e.told := ⟨_, rfl⟩
  have rA1 := HX1.out.rTold
  have rZA1 := HX2.out.rTold
  have zA1 := row_six c.told
  have zZA1 := row_six e.told
  have eA1 := fun w => run_equalIn_bools 9998 Try.underlying69 Try.underlying4 Try.infoBool c.told e.told w
  rw [← hA1] at rA1 zA1 eA1
  rw [← hZA1] at rZA1 zZA1 eA1
  clear hA1 hZA1
  have g6 := Try.sixGuard
  have g4 := Try.fourGuard
  have gI := Try.fourIGuard
  rw [Ht1.out] at eA1
  go_wp2_with (first
    | ((with_reducible apply wpl_mid rA1); (· rfl); (· exact zA1); (· rfl); simp only [Act.put, List.setIfInBounds_toArray, List.set_cons_zero, List.set_cons_succ])
    | ((with_reducible apply wpl_mid rZA1); (· rfl); (· exact zZA1); (· rfl); simp only [Act.put, List.setIfInBounds_toArray, List.set_cons_zero, List.set_cons_succ])
    | fail)
  go_ret
  exact ⟨rfl, hw1⟩

set_option maxRecDepth 100000 in
set_option maxHeartbeats 2000000 in
theorem sameZ_3 (gr : Array Value) (c : CaseL) (hr : Array Value) (e : CaseL) (w : World) (h : CaseV w gr c) (h' : CaseV w hr e) (he : e = zeroC) (tb : c.begun = false) (tf : c.fixed = false) (tp : c.ops.isEmpty = true) (t1 : sameB 6 c.told e.told = true) (t2 : sameB 6 c.known e.known = false) :
    Calls Try.prog 47 #[.agg gr, .agg hr] w fun r w' => r = .returned (.bool false) ∧ Below w.heap.size w w' := by
  have HE : Hid (e.begun = false ∧ e.fixed = false ∧ e.ops = [] ∧ e.deps = []) := by rw [he]; exact ⟨rfl, rfl, rfl, rfl⟩
  have Htb : Hid (c.begun = false) := tb
  have Htf : Hid (c.fixed = false) := tf
  have Htp : Hid (c.ops.isEmpty = true) := tp
  have Ht1 : Hid (sameB 6 c.told e.told = true) := t1
  have Ht2 : Hid (sameB 6 c.known e.known = false) := t2
  clear he tb tf tp t1 t2
  obtain ⟨W, hW⟩ : ∃ W, W = (w.alloc (.cells gr 73)).alloc (.cells hr 73) := ⟨_, rfl⟩
  have hb : Below w.heap.size w W := by rw [hW]; exact ((Below.refl _ _).alloc (Nat.le_refl _) _).alloc (by rw [size_push]; omega) _
  have hzW : W.heap.size = w.heap.size + 2 := by rw [hW, size_push, size_push]
  have hB1 : InBox w.heap.size W gr c := by rw [hW]; exact (InBox.new h).later ((Below.refl _ _).alloc (Nat.le_refl _) _)
  have hB2 : InBox (w.heap.size + 1) W hr e := by
    rw [hW, ← size_push w (.cells gr 73)]
    exact InBox.new (h'.later ((Below.refl _ _).alloc (Nat.le_refl _) _))
  have HW : Hid (W = (w.alloc (.cells gr 73)).alloc (.cells hr 73)) := hW
  have HB1 : Hid (InBox w.heap.size W gr c) := hB1
  have HB2 : Hid (InBox (w.heap.size + 1) W hr e) := hB2
  have p0 := hB1.begun
  have p0' := hB2.begun
  have p1 := hB1.fixed
  have p1' := hB2.fixed
  obtain ⟨a2, c2, p2, hs2, hl2⟩ := hB1.ops
  obtain ⟨b2, d2, p2', hs2', hl2'⟩ := hB2.ops
  clear hW hB1 hB2 h h'
  rw [Htb.out] at p0
  rw [Htf.out] at p1
  rw [HE.out.1] at p0'
  rw [HE.out.2.1] at p1'
  go_enter Try.func47, Try.ntmps47
  go_upto_region 1 with fail
  rw [← HW.out]
  clear HW
  have hl0 : e.ops.length = 0 := by rw [HE.out.2.2.1]; rfl
  rw [hl0] at p2'
  clear hl0
  have htp : c.ops.isEmpty = true := Htp.out
  go_wp2_with fail
  refine (sameOps_empty a2 c2 c.ops b2 d2 W hs2).mono ?_
  rintro e1 w1 ⟨rfl, hb1⟩
  have HX1 : Hid (InBox w.heap.size w1 gr c) := HB1.out.later hb1
  have HX2 : Hid (InBox (w.heap.size + 1) w1 hr e) := HB2.out.later hb1
  have hw1 : Below w.heap.size w w1 := hb.trans (hb1.mono (by omega))
  have hz1 := hb1.size
  clear hb1 p0 p0' p1 p1' p2 p2'
  obtain ⟨A1, hA1⟩ : ∃ A, A = bools 6 c.told := ⟨_, rfl⟩
  obtain ⟨ZA1, hZA1⟩ : ∃ A, A = bools 6 e.told := ⟨_, rfl⟩
  have rA1 := HX1.out.rTold
  have rZA1 := HX2.out.rTold
  have zA1 := row_six c.told
  have zZA1 := row_six e.told
  have eA1 := fun w => run_equalIn_bools 9998 Try.underlying69 Try.underlying4 Try.infoBool c.told e.told w
  rw [← hA1] at rA1 zA1 eA1
  rw [← hZA1] at rZA1 zZA1 eA1
  clear hA1 hZA1
  obtain ⟨A2, hA2⟩ : ∃ A, A = bools 6 c.known := ⟨_, rfl⟩
  obtain ⟨ZA2, hZA2⟩ : ∃ A, A = bools 6 e.known := ⟨_, rfl⟩
  have rA2 := HX1.out.rKnown
  have rZA2 := HX2.out.rKnown
  have zA2 := row_six c.known
  have zZA2 := row_six e.known
  have eA2 := fun w => run_equalIn_bools 9998 Try.underlying69 Try.underlying4 Try.infoBool c.known e.known w
  rw [← hA2] at rA2 zA2 eA2
  rw [← hZA2] at rZA2 zZA2 eA2
  clear hA2 hZA2
  have g6 := Try.sixGuard
  have g4 := Try.fourGuard
  have gI := Try.fourIGuard
  rw [Ht1.out] at eA1
  rw [Ht2.out] at eA2
  go_wp2_with (first
    | ((with_reducible apply wpl_mid rA1); (· rfl); (· exact zA1); (· rfl); simp only [Act.put, List.setIfInBounds_toArray, List.set_cons_zero, List.set_cons_succ])
    | ((with_reducible apply wpl_mid rZA1); (· rfl); (· exact zZA1); (· rfl); simp only [Act.put, List.setIfInBounds_toArray, List.set_cons_zero, List.set_cons_succ])
    | ((with_reducible apply wpl_mid rA2); (· rfl); (· exact zA2); (· rfl); simp only [Act.put, List.setIfInBounds_toArray, List.set_cons_zero, List.set_cons_succ])
    | ((with_reducible apply wpl_mid rZA2); (· rfl); (· exact zZA2); (· rfl); simp only [Act.put, List.setIfInBounds_toArray, List.set_cons_zero, List.set_cons_succ])
    | fail)
  go_ret
  exact ⟨rfl, hw1⟩

set_option maxRecDepth 100000 in
set_option maxHeartbeats 2000000 in
theorem sameZ_4 (gr : Array Value) (c : CaseL) (hr : Array Value) (e : CaseL) (w : World) (h : CaseV w gr c) (h' : CaseV w hr e) (he : e = zeroC) (tb : c.begun = false) (tf : c.fixed = false) (tp : c.ops.isEmpty = true) (t1 : sameB 6 c.told e.told = true) (t2 : sameB 6 c.known e.known = true) (td : c.deps.isEmpty = false) :
    Calls Try.prog 47 #[.agg gr, .agg hr] w fun r w' => r = .returned (.bool false) ∧ Below w.heap.size w w' := by
  have HE : Hid (e.begun = false ∧ e.fixed = false ∧ e.ops = [] ∧ e.deps = []) := by rw [he]; exact ⟨rfl, rfl, rfl, rfl⟩
  have Htb : Hid (c.begun = false) := tb
  have Htf : Hid (c.fixed = false) := tf
  have Htp : Hid (c.ops.isEmpty = true) := tp
  have Ht1 : Hid (sameB 6 c.told e.told = true) := t1
  have Ht2 : Hid (sameB 6 c.known e.known = true) := t2
  have Htd : Hid (c.deps.isEmpty = false) := td
  clear he tb tf tp t1 t2 td
  obtain ⟨W, hW⟩ : ∃ W, W = (w.alloc (.cells gr 73)).alloc (.cells hr 73) := ⟨_, rfl⟩
  have hb : Below w.heap.size w W := by rw [hW]; exact ((Below.refl _ _).alloc (Nat.le_refl _) _).alloc (by rw [size_push]; omega) _
  have hzW : W.heap.size = w.heap.size + 2 := by rw [hW, size_push, size_push]
  have hB1 : InBox w.heap.size W gr c := by rw [hW]; exact (InBox.new h).later ((Below.refl _ _).alloc (Nat.le_refl _) _)
  have hB2 : InBox (w.heap.size + 1) W hr e := by
    rw [hW, ← size_push w (.cells gr 73)]
    exact InBox.new (h'.later ((Below.refl _ _).alloc (Nat.le_refl _) _))
  have HW : Hid (W = (w.alloc (.cells gr 73)).alloc (.cells hr 73)) := hW
  have HB1 : Hid (InBox w.heap.size W gr c) := hB1
  have HB2 : Hid (InBox (w.heap.size + 1) W hr e) := hB2
  have p0 := hB1.begun
  have p0' := hB2.begun
  have p1 := hB1.fixed
  have p1' := hB2.fixed
  obtain ⟨a2, c2, p2, hs2, hl2⟩ := hB1.ops
  obtain ⟨b2, d2, p2', hs2', hl2'⟩ := hB2.ops
  clear hW hB1 hB2 h h'
  rw [Htb.out] at p0
  rw [Htf.out] at p1
  rw [HE.out.1] at p0'
  rw [HE.out.2.1] at p1'
  go_enter Try.func47, Try.ntmps47
  go_upto_region 1 with fail
  rw [← HW.out]
  clear HW
  have hl0 : e.ops.length = 0 := by rw [HE.out.2.2.1]; rfl
  rw [hl0] at p2'
  clear hl0
  have htp : c.ops.isEmpty = true := Htp.out
  go_wp2_with fail
  refine (sameOps_empty a2 c2 c.ops b2 d2 W hs2).mono ?_
  rintro e1 w1 ⟨rfl, hb1⟩
  have HX1 : Hid (InBox w.heap.size w1 gr c) := HB1.out.later hb1
  have HX2 : Hid (InBox (w.heap.size + 1) w1 hr e) := HB2.out.later hb1
  have hw1 : Below w.heap.size w w1 := hb.trans (hb1.mono (by omega))
  have hz1 := hb1.size
  clear hb1 p0 p0' p1 p1' p2 p2'
  obtain ⟨A1, hA1⟩ : ∃ A, A = bools 6 c.told := ⟨_, rfl⟩
  obtain ⟨ZA1, hZA1⟩ : ∃ A, A = bools 6 e.told := ⟨_, rfl⟩
  have rA1 := HX1.out.rTold
  have rZA1 := HX2.out.rTold
  have zA1 := row_six c.told
  have zZA1 := row_six e.told
  have eA1 := fun w => run_equalIn_bools 9998 Try.underlying69 Try.underlying4 Try.infoBool c.told e.told w
  rw [← hA1] at rA1 zA1 eA1
  rw [← hZA1] at rZA1 zZA1 eA1
  clear hA1 hZA1
  obtain ⟨A2, hA2⟩ : ∃ A, A = bools 6 c.known := ⟨_, rfl⟩
  obtain ⟨ZA2, hZA2⟩ : ∃ A, A = bools 6 e.known := ⟨_, rfl⟩
  have rA2 := HX1.out.rKnown
  have rZA2 := HX2.out.rKnown
  have zA2 := row_six c.known
  have zZA2 := row_six e.known
  have eA2 := fun w => run_equalIn_bools 9998 Try.underlying69 Try.underlying4 Try.infoBool c.known e.known w
  rw [← hA2] at rA2 zA2 eA2
  rw [← hZA2] at rZA2 zZA2 eA2
  clear hA2 hZA2
  have g6 := Try.sixGuard
  have g4 := Try.fourGuard
  have gI := Try.fourIGuard
  rw [Ht1.out] at eA1
  rw [Ht2.out] at eA2
  obtain ⟨a5, c5, q5, hs5, _⟩ := HX1.out.deps
  obtain ⟨b5, d5, q5', hs5', _⟩ := HX2.out.deps
  have hd0 : e.deps.length = 0 := by rw [HE.out.2.2.2]; rfl
  rw [hd0] at q5'
  clear hd0
  have htd : c.deps.isEmpty = false := Htd.out
  go_wp2_with (first
    | ((with_reducible apply wpl_mid rA1); (· rfl); (· exact zA1); (· rfl); simp only [Act.put, List.setIfInBounds_toArray, List.set_cons_zero, List.set_cons_succ])
    | ((with_reducible apply wpl_mid rZA1); (· rfl); (· exact zZA1); (· rfl); simp only [Act.put, List.setIfInBounds_toArray, List.set_cons_zero, List.set_cons_succ])
    | ((with_reducible apply wpl_mid rA2); (· rfl); (· exact zA2); (· rfl); simp only [Act.put, List.setIfInBounds_toArray, List.set_cons_zero, List.set_cons_succ])
    | ((with_reducible apply wpl_mid rZA2); (· rfl); (· exact zZA2); (· rfl); simp only [Act.put, List.setIfInBounds_toArray, List.set_cons_zero, List.set_cons_succ])
    | fail)
  refine (sameNumbers_empty a5 c5 c.deps b5 d5 w1 hs5).mono ?_
  rintro e2 w2 ⟨rfl, hb2⟩
  have HY1 : Hid (InBox w.heap.size w2 gr c) := HX1.out.later hb2
  have HY2 : Hid (InBox (w.heap.size + 1) w2 hr e) := HX2.out.later hb2
  have hw2 : Below w.heap.size w w2 := hw1.trans (hb2.mono (by omega))
  clear hb2 q5 q5'
  go_wp2
  go_ret
  exact ⟨rfl, hw2⟩

set_option maxRecDepth 100000 in
set_option maxHeartbeats 2000000 in
theorem sameZ_5 (gr : Array Value) (c : CaseL) (hr : Array Value) (e : CaseL) (w : World) (h : CaseV w gr c) (h' : CaseV w hr e) (he : e = zeroC) (tb : c.begun = false) (tf : c.fixed = false) (tp : c.ops.isEmpty = true) (t1 : sameB 6 c.told e.told = true) (t2 : sameB 6 c.known e.known = true) (td : c.deps.isEmpty = true) (t3 : sameB 4 c.has e.has = false) :
    Calls Try.prog 47 #[.agg gr, .agg hr] w fun r w' => r = .returned (.bool false) ∧ Below w.heap.size w w' := by
  have HE : Hid (e.begun = false ∧ e.fixed = false ∧ e.ops = [] ∧ e.deps = []) := by rw [he]; exact ⟨rfl, rfl, rfl, rfl⟩
  have Htb : Hid (c.begun = false) := tb
  have Htf : Hid (c.fixed = false) := tf
  have Htp : Hid (c.ops.isEmpty = true) := tp
  have Ht1 : Hid (sameB 6 c.told e.told = true) := t1
  have Ht2 : Hid (sameB 6 c.known e.known = true) := t2
  have Htd : Hid (c.deps.isEmpty = true) := td
  have Ht3 : Hid (sameB 4 c.has e.has = false) := t3
  clear he tb tf tp t1 t2 td t3
  obtain ⟨W, hW⟩ : ∃ W, W = (w.alloc (.cells gr 73)).alloc (.cells hr 73) := ⟨_, rfl⟩
  have hb : Below w.heap.size w W := by rw [hW]; exact ((Below.refl _ _).alloc (Nat.le_refl _) _).alloc (by rw [size_push]; omega) _
  have hzW : W.heap.size = w.heap.size + 2 := by rw [hW, size_push, size_push]
  have hB1 : InBox w.heap.size W gr c := by rw [hW]; exact (InBox.new h).later ((Below.refl _ _).alloc (Nat.le_refl _) _)
  have hB2 : InBox (w.heap.size + 1) W hr e := by
    rw [hW, ← size_push w (.cells gr 73)]
    exact InBox.new (h'.later ((Below.refl _ _).alloc (Nat.le_refl _) _))
  have HW : Hid (W = (w.alloc (.cells gr 73)).alloc (.cells hr 73)) := hW
  have HB1 : Hid (InBox w.heap.size W gr c) := hB1
  have HB2 : Hid (InBox (w.heap.size + 1) W hr e) := hB2
  have p0 := hB1.begun
  have p0' := hB2.begun
  have p1 := hB1.fixed
  have p1' := hB2.fixed
  obtain ⟨a2, c2, p2, hs2, hl2⟩ := hB1.ops
  obtain ⟨b2, d2, p2', hs2', hl2'⟩ := hB2.ops
  clear hW hB1 hB2 h h'
  rw [Htb.out] at p0
  rw [Htf.out] at p1
  rw [HE.out.1] at p0'
  rw [HE.out.2.1] at p1'
  go_enter Try.func47, Try.ntmps47
  go_upto_region 1 with fail
  rw [← HW.out]
  clear HW
  have hl0 : e.ops.length = 0 := by rw [HE.out.2.2.1]; rfl
  rw [hl0] at p2'
  clear hl0
  have htp : c.ops.isEmpty = true := Htp.out
  go_wp2_with fail
  refine (sameOps_empty a2 c2 c.ops b2 d2 W hs2).mono ?_
  rintro e1 w1 ⟨rfl, hb1⟩
  have HX1 : Hid (InBox w.heap.size w1 gr c) := HB1.out.later hb1
  have HX2 : Hid (InBox (w.heap.size + 1) w1 hr e) := HB2.out.later hb1
  have hw1 : Below w.heap.size w w1 := hb.trans (hb1.mono (by omega))
  have hz1 := hb1.size
  clear hb1 p0 p0' p1 p1' p2 p2'
  obtain ⟨A1, hA1⟩ : ∃ A, A = bools 6 c.told := ⟨_, rfl⟩
  obtain ⟨ZA1, hZA1⟩ : ∃ A, A = bools 6 e.told := ⟨_, rfl⟩
  have rA1 := HX1.out.rTold
  have rZA1 := HX2.out.rTold
  have zA1 := row_six c.told
  have zZA1 := row_six e.told
  have eA1 := fun w => run_equalIn_bools 9998 Try.underlying69 Try.underlying4 Try.infoBool c.told e.told w
  rw [← hA1] at rA1 zA1 eA1
  rw [← hZA1] at rZA1 zZA1 eA1
  clear hA1 hZA1
  obtain ⟨A2, hA2⟩ : ∃ A, A = bools 6 c.known := ⟨_, rfl⟩
  obtain ⟨ZA2, hZA2⟩ : ∃ A, A = bools 6 e.known := ⟨_, rfl⟩
  have rA2 := HX1.out.rKnown
  have rZA2 := HX2.out.rKnown
  have zA2 := row_six c.known
  have zZA2 := row_six e.known
  have eA2 := fun w => run_equalIn_bools 9998 Try.underlying69 Try.underlying4 Try.infoBool c.known e.known w
  rw [← hA2] at rA2 zA2 eA2
  rw [← hZA2] at rZA2 zZA2 eA2
  clear hA2 hZA2
  have g6 := Try.sixGuard
  have g4 := Try.fourGuard
  have gI := Try.fourIGuard
  rw [Ht1.out] at eA1
  rw [Ht2.out] at eA2
  obtain ⟨a5, c5, q5, hs5, _⟩ := HX1.out.deps
  obtain ⟨b5, d5, q5', hs5', _⟩ := HX2.out.deps
  have hd0 : e.deps.length = 0 := by rw [HE.out.2.2.2]; rfl
  rw [hd0] at q5'
  clear hd0
  have htd : c.deps.isEmpty = true := Htd.out
  go_wp2_with (first
    | ((with_reducible apply wpl_mid rA1); (· rfl); (· exact zA1); (· rfl); simp only [Act.put, List.setIfInBounds_toArray, List.set_cons_zero, List.set_cons_succ])
    | ((with_reducible apply wpl_mid rZA1); (· rfl); (· exact zZA1); (· rfl); simp only [Act.put, List.setIfInBounds_toArray, List.set_cons_zero, List.set_cons_succ])
    | ((with_reducible apply wpl_mid rA2); (· rfl); (· exact zA2); (· rfl); simp only [Act.put, List.setIfInBounds_toArray, List.set_cons_zero, List.set_cons_succ])
    | ((with_reducible apply wpl_mid rZA2); (· rfl); (· exact zZA2); (· rfl); simp only [Act.put, List.setIfInBounds_toArray, List.set_cons_zero, List.set_cons_succ])
    | fail)
  refine (sameNumbers_empty a5 c5 c.deps b5 d5 w1 hs5).mono ?_
  rintro e2 w2 ⟨rfl, hb2⟩
  have HY1 : Hid (InBox w.heap.size w2 gr c) := HX1.out.later hb2
  have HY2 : Hid (InBox (w.heap.size + 1) w2 hr e) := HX2.out.later hb2
  have hw2 : Below w.heap.size w w2 := hw1.trans (hb2.mono (by omega))
  clear hb2 q5 q5'
  clear rA1 rZA1 zA1 zZA1 eA1 rA2 rZA2 zA2 zZA2 eA2
  obtain ⟨A3, hA3⟩ : ∃ A, A = bools 4 c.has := ⟨_, rfl⟩
  obtain ⟨ZA3, hZA3⟩ : ∃ A, A = bools 4 e.has := ⟨_, rfl⟩
  have rA3 := HY1.out.rHas
  have rZA3 := HY2.out.rHas
  have zA3 := row_four c.has
  have zZA3 := row_four e.has
  have eA3 := fun w => run_equalIn_bools 9998 Try.underlying70 Try.underlying4 Try.infoBool c.has e.has w
  rw [← hA3] at rA3 zA3 eA3
  rw [← hZA3] at rZA3 zZA3 eA3
  clear hA3 hZA3
  rw [Ht3.out] at eA3
  go_wp2_with (first
    | ((with_reducible apply wpl_mid rA3); (· rfl); (· exact zA3); (· rfl); simp only [Act.put, List.setIfInBounds_toArray, List.set_cons_zero, List.set_cons_succ])
    | ((with_reducible apply wpl_mid rZA3); (· rfl); (· exact zZA3); (· rfl); simp only [Act.put, List.setIfInBounds_toArray, List.set_cons_zero, List.set_cons_succ])
    | fail)
  go_ret
  exact ⟨rfl, hw2⟩

set_option maxRecDepth 100000 in
set_option maxHeartbeats 2000000 in
theorem sameZ_6 (gr : Array Value) (c : CaseL) (hr : Array Value) (e : CaseL) (w : World) (h : CaseV w gr c) (h' : CaseV w hr e) (he : e = zeroC) (tb : c.begun = false) (tf : c.fixed = false) (tp : c.ops.isEmpty = true) (t1 : sameB 6 c.told e.told = true) (t2 : sameB 6 c.known e.known = true) (td : c.deps.isEmpty = true) (t3 : sameB 4 c.has e.has = true) :
    Calls Try.prog 47 #[.agg gr, .agg hr] w fun r w' => r = .returned (.bool (sameI 4 c.vals e.vals)) ∧ Below w.heap.size w w' := by
  have HE : Hid (e.begun = false ∧ e.fixed = false ∧ e.ops = [] ∧ e.deps = []) := by rw [he]; exact ⟨rfl, rfl, rfl, rfl⟩
  have Htb : Hid (c.begun = false) := tb
  have Htf : Hid (c.fixed = false) := tf
  have Htp : Hid (c.ops.isEmpty = true) := tp
  have Ht1 : Hid (sameB 6 c.told e.told = true) := t1
  have Ht2 : Hid (sameB 6 c.known e.known = true) := t2
  have Htd : Hid (c.deps.isEmpty = true) := td
  have Ht3 : Hid (sameB 4 c.has e.has = true) := t3
  clear he tb tf tp t1 t2 td t3
  obtain ⟨W, hW⟩ : ∃ W, W = (w.alloc (.cells gr 73)).alloc (.cells hr 73) := ⟨_, rfl⟩
  have hb : Below w.heap.size w W := by rw [hW]; exact ((Below.refl _ _).alloc (Nat.le_refl _) _).alloc (by rw [size_push]; omega) _
  have hzW : W.heap.size = w.heap.size + 2 := by rw [hW, size_push, size_push]
  have hB1 : InBox w.heap.size W gr c := by rw [hW]; exact (InBox.new h).later ((Below.refl _ _).alloc (Nat.le_refl _) _)
  have hB2 : InBox (w.heap.size + 1) W hr e := by
    rw [hW, ← size_push w (.cells gr 73)]
    exact InBox.new (h'.later ((Below.refl _ _).alloc (Nat.le_refl _) _))
  have HW : Hid (W = (w.alloc (.cells gr 73)).alloc (.cells hr 73)) := hW
  have HB1 : Hid (InBox w.heap.size W gr c) := hB1
  have HB2 : Hid (InBox (w.heap.size + 1) W hr e) := hB2
  have p0 := hB1.begun
  have p0' := hB2.begun
  have p1 := hB1.fixed
  have p1' := hB2.fixed
  obtain ⟨a2, c2, p2, hs2, hl2⟩ := hB1.ops
  obtain ⟨b2, d2, p2', hs2', hl2'⟩ := hB2.ops
  clear hW hB1 hB2 h h'
  rw [Htb.out] at p0
  rw [Htf.out] at p1
  rw [HE.out.1] at p0'
  rw [HE.out.2.1] at p1'
  go_enter Try.func47, Try.ntmps47
  go_upto_region 1 with fail
  rw [← HW.out]
  clear HW
  have hl0 : e.ops.length = 0 := by rw [HE.out.2.2.1]; rfl
  rw [hl0] at p2'
  clear hl0
  have htp : c.ops.isEmpty = true := Htp.out
  go_wp2_with fail
  refine (sameOps_empty a2 c2 c.ops b2 d2 W hs2).mono ?_
  rintro e1 w1 ⟨rfl, hb1⟩
  have HX1 : Hid (InBox w.heap.size w1 gr c) := HB1.out.later hb1
  have HX2 : Hid (InBox (w.heap.size + 1) w1 hr e) := HB2.out.later hb1
  have hw1 : Below w.heap.size w w1 := hb.trans (hb1.mono (by omega))
  have hz1 := hb1.size
  clear hb1 p0 p0' p1 p1' p2 p2'
  obtain ⟨A1, hA1⟩ : ∃ A, A = bools 6 c.told := ⟨_, rfl⟩
  obtain ⟨ZA1, hZA1⟩ : ∃ A, A = bools 6 e.told := ⟨_, rfl⟩
  have rA1 := HX1.out.rTold
  have rZA1 := HX2.out.rTold
  have zA1 := row_six c.told
  have zZA1 := row_six e.told
  have eA1 := fun w => run_equalIn_bools 9998 Try.underlying69 Try.underlying4 Try.infoBool c.told e.told w
  rw [← hA1] at rA1 zA1 eA1
  rw [← hZA1] at rZA1 zZA1 eA1
  clear hA1 hZA1
  obtain ⟨A2, hA2⟩ : ∃ A, A = bools 6 c.known := ⟨_, rfl⟩
  obtain ⟨ZA2, hZA2⟩ : ∃ A, A = bools 6 e.known := ⟨_, rfl⟩
  have rA2 := HX1.out.rKnown
  have rZA2 := HX2.out.rKnown
  have zA2 := row_six c.known
  have zZA2 := row_six e.known
  have eA2 := fun w => run_equalIn_bools 9998 Try.underlying69 Try.underlying4 Try.infoBool c.known e.known w
  rw [← hA2] at rA2 zA2 eA2
  rw [← hZA2] at rZA2 zZA2 eA2
  clear hA2 hZA2
  have g6 := Try.sixGuard
  have g4 := Try.fourGuard
  have gI := Try.fourIGuard
  rw [Ht1.out] at eA1
  rw [Ht2.out] at eA2
  obtain ⟨a5, c5, q5, hs5, _⟩ := HX1.out.deps
  obtain ⟨b5, d5, q5', hs5', _⟩ := HX2.out.deps
  have hd0 : e.deps.length = 0 := by rw [HE.out.2.2.2]; rfl
  rw [hd0] at q5'
  clear hd0
  have htd : c.deps.isEmpty = true := Htd.out
  go_wp2_with (first
    | ((with_reducible apply wpl_mid rA1); (· rfl); (· exact zA1); (· rfl); simp only [Act.put, List.setIfInBounds_toArray, List.set_cons_zero, List.set_cons_succ])
    | ((with_reducible apply wpl_mid rZA1); (· rfl); (· exact zZA1); (· rfl); simp only [Act.put, List.setIfInBounds_toArray, List.set_cons_zero, List.set_cons_succ])
    | ((with_reducible apply wpl_mid rA2); (· rfl); (· exact zA2); (· rfl); simp only [Act.put, List.setIfInBounds_toArray, List.set_cons_zero, List.set_cons_succ])
    | ((with_reducible apply wpl_mid rZA2); (· rfl); (· exact zZA2); (· rfl); simp only [Act.put, List.setIfInBounds_toArray, List.set_cons_zero, List.set_cons_succ])
    | fail)
  refine (sameNumbers_empty a5 c5 c.deps b5 d5 w1 hs5).mono ?_
  rintro e2 w2 ⟨rfl, hb2⟩
  have HY1 : Hid (InBox w.heap.size w2 gr c) := HX1.out.later hb2
  have HY2 : Hid (InBox (w.heap.size + 1) w2 hr e) := HX2.out.later hb2
  have hw2 : Below w.heap.size w w2 := hw1.trans (hb2.mono (by omega))
  clear hb2 q5 q5'
  clear rA1 rZA1 zA1 zZA1 eA1 rA2 rZA2 zA2 zZA2 eA2
  obtain ⟨A3, hA3⟩ : ∃ A, A = bools 4 c.has := ⟨_, rfl⟩
  obtain ⟨ZA3, hZA3⟩ : ∃ A, A = bools 4 e.has := ⟨_, rfl⟩
  have rA3 := HY1.out.rHas
  have rZA3 := HY2.out.rHas
  have zA3 := row_four c.has
  have zZA3 := row_four e.has
  have eA3 := fun w => run_equalIn_bools 9998 Try.underlying70 Try.underlying4 Try.infoBool c.has e.has w
  rw [← hA3] at rA3 zA3 eA3
  rw [← hZA3] at rZA3 zZA3 eA3
  clear hA3 hZA3
  obtain ⟨A4, hA4⟩ : ∃ A, A = (rowF 4 fun i => Value.int .i64 (c.vals i)) := ⟨_, rfl⟩
  obtain ⟨ZA4, hZA4⟩ : ∃ A, A = (rowF 4 fun i => Value.int .i64 (e.vals i)) := ⟨_, rfl⟩
  have rA4 := HY1.out.rVals
  have rZA4 := HY2.out.rVals
  have zA4 := row_fourI c.vals
  have zZA4 := row_fourI e.vals
  have eA4 := fun w => run_equalIn_rows 9998 Try.underlying71 Try.underlying3 Try.infoInt1 c.vals e.vals w
  rw [← hA4] at rA4 zA4 eA4
  rw [← hZA4] at rZA4 zZA4 eA4
  clear hA4 hZA4
  rw [Ht3.out] at eA3
  go_wp2_with (first
    | ((with_reducible apply wpl_mid rA3); (· rfl); (· exact zA3); (· rfl); simp only [Act.put, List.setIfInBounds_toArray, List.set_cons_zero, List.set_cons_succ])
    | ((with_reducible apply wpl_mid rZA3); (· rfl); (· exact zZA3); (· rfl); simp only [Act.put, List.setIfInBounds_toArray, List.set_cons_zero, List.set_cons_succ])
    | ((with_reducible apply wpl_mid rA4); (· rfl); (· exact zA4); (· rfl); simp only [Act.put, List.setIfInBounds_toArray, List.set_cons_zero, List.set_cons_succ])
    | ((with_reducible apply wpl_mid rZA4); (· rfl); (· exact zZA4); (· rfl); simp only [Act.put, List.setIfInBounds_toArray, List.set_cons_zero, List.set_cons_succ])
    | fail)
  go_ret
  exact ⟨rfl, hw2⟩

theorem ref_sameCase_zero (gr : Array Value) (c : CaseL) (hr : Array Value) (w : World) (h : CaseV w gr c) (h' : CaseV w hr zeroC) (tb : c.begun = false) :
    Calls Try.prog 47 #[.agg gr, .agg hr] w fun r w' => r = .returned (.bool (goodCB c)) ∧ Below w.heap.size w w' := by
  have E : goodCB c = (!c.fixed && (c.ops.isEmpty && (sameB 6 c.told zeroC.told && (sameB 6 c.known zeroC.known && (c.deps.isEmpty && (sameB 4 c.has zeroC.has && sameI 4 c.vals zeroC.vals)))))) := by
    rw [zero_good tb, isZeroB]
    have e1 : decide (c.ops.length + c.deps.length = 0) = (c.ops.isEmpty && c.deps.isEmpty) := by
      cases c.ops <;> cases c.deps <;> simp
    rw [e1]
    show (!c.fixed && (c.ops.isEmpty && c.deps.isEmpty && (sameB 6 c.told zeroC.told && (sameB 6 c.known zeroC.known && (sameB 4 c.has zeroC.has && sameI 4 c.vals zeroC.vals))))) = _
    cases c.ops.isEmpty <;> cases c.deps.isEmpty <;> cases sameB 6 c.told zeroC.told <;> cases sameB 6 c.known zeroC.known <;> simp
  cases tf : c.fixed
  · cases tp : c.ops.isEmpty
    · rw [E, tf, tp]; exact sameZ_1 gr c hr zeroC w h h' rfl tb tf tp
    · cases t1 : sameB 6 c.told zeroC.told
      · rw [E, tf, tp, t1]; exact sameZ_2 gr c hr zeroC w h h' rfl tb tf tp t1
      · cases t2 : sameB 6 c.known zeroC.known
        · rw [E, tf, tp, t1, t2]; exact sameZ_3 gr c hr zeroC w h h' rfl tb tf tp t1 t2
        · cases td : c.deps.isEmpty
          · rw [E, tf, tp, t1, t2, td]; exact sameZ_4 gr c hr zeroC w h h' rfl tb tf tp t1 t2 td
          · cases t3 : sameB 4 c.has zeroC.has
            · rw [E, tf, tp, t1, t2, td, t3]; exact sameZ_5 gr c hr zeroC w h h' rfl tb tf tp t1 t2 td t3
            · rw [E, tf, tp, t1, t2, td, t3]; exact sameZ_6 gr c hr zeroC w h h' rfl tb tf tp t1 t2 td t3
  · rw [E, tf]; exact sameZ_0 gr c hr zeroC w h h' rfl tb tf

set_option maxRecDepth 100000 in
set_option maxHeartbeats 1000000 in
theorem ref_isCase (gr : Array Value) (c : CaseL) (w : World) (h : CaseV w gr c) :
    Calls Try.prog 51 #[.agg gr] w fun e w' => e = .returned (.bool (goodCB c)) ∧ Below w.heap.size w w' := by
  obtain ⟨W, hW⟩ : ∃ W, W = w.alloc (.cells gr 73) := ⟨_, rfl⟩
  have hb : Below w.heap.size w W := by rw [hW]; exact (Below.refl _ _).alloc (Nat.le_refl _) _
  have hB : InBox w.heap.size W gr c := by rw [hW]; exact InBox.new h
  have rB := hB.row
  have tB := hB.case.row
  have HB : Hid (InBox w.heap.size W gr c) := hB
  have HW : Hid (W = w.alloc (.cells gr 73)) := hW
  have q0 := hB.begun
  obtain ⟨a2, c2, q2, hs2, hl2⟩ := hB.ops
  obtain ⟨a5, c5, q5, hs5, hl5⟩ := hB.deps
  obtain ⟨zr, hzr⟩ : ∃ zr, zr = rowF 24 zcv := ⟨_, rfl⟩
  have HZL : Hid ((#[.bool false, .bool false, .slice none 0 0, .bool false, .bool false, .bool false, .bool false, .bool false, .bool false, .bool false, .bool false, .bool false, .bool false, .bool false, .bool false, .slice none 0 0, .bool false, .bool false, .bool false, .bool false, .int .i64 0, .int .i64 0, .int .i64 0, .int .i64 0] : Array Value) = zr) := by unfold Hid; rw [hzr]; rfl
  have HZC : Hid (CaseV W zr zeroC) := by unfold Hid; rw [hzr]; exact zero_case W
  clear hW hB h hzr
  cases t0 : c.begun
  · have HT : Hid (c.begun = false) := t0
    rw [t0] at q0
    clear t0
    go_enter Try.func51, Try.ntmps51
    go_upto_region 1 with fail
    rw [← HW.out]
    clear HW
    go_wp2_with (first
      | ((with_reducible apply wpl_row rB); (· rfl); (· exact tB); (· rfl); simp only [Act.put, List.setIfInBounds_toArray, List.set_cons_zero, List.set_cons_succ])
      | fail)
    rw [HZL.out]
    refine (ref_sameCase_zero gr c zr W HB.out.case HZC.out HT.out).mono ?_
    rintro e w1 ⟨rfl, hb1⟩
    have hb2 := hb.trans (hb1.mono hb.size)
    clear hb1
    go_wp2
    go_ret
    exact ⟨rfl, hb2⟩
  · have HE : Hid (goodCB c = (goodOpsL c.ops && risingFrom (-1) c.deps)) := good_parts t0
    rw [t0] at q0
    go_enter Try.func51, Try.ntmps51
    go_upto_region 1 with fail
    rw [← HW.out]
    clear HW
    go_wp2_with fail
    refine (isOps_any a2 c2 c.ops W hs2.2.1 hs2.1 hs2.2.2.1).mono ?_
    rintro e w1 ⟨rfl, hb1⟩
    have hb2 := hb.trans (hb1.mono hb.size)
    have hs5' := hs5.later hb1
    have p5 : w1.cell? ⟨w.heap.size, 15, none⟩ = some (.slice a5 c.deps.length c5) := by rw [hb1.cell (p := ⟨w.heap.size, 15, none⟩) HB.out.lt]; exact q5
    have hz1 := hb1.size
    clear hb1 q0 q2 q5
    cases t1 : goodOpsL c.ops
    · have HF : Hid (goodCB c = false) := by unfold Hid; rw [HE.out, t1]; rfl
      go_wp2
      go_ret
      exact ⟨ret_bool HF.out.symm, hb2⟩
    · have HF : Hid (goodCB c = risingFrom (-1) c.deps) := by unfold Hid; rw [HE.out, t1]; rfl
      go_wp2_with fail
      refine (isRising_any a5 c5 c.deps w1 hs5'.2.1 hs5'.1).mono ?_
      rintro e w2 ⟨rfl, hw⟩
      subst hw
      go_wp2
      go_ret
      exact ⟨ret_bool HF.out.symm, hb2⟩

end Go.Proofs.Ytkoefoccbjhoiab
