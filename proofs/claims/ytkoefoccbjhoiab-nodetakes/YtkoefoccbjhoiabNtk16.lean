/-
  The contract of the document's own IsOps.
  The contracts of the document's own SameNumbers and SameOps, held against nothing.
  The contracts of the document's own SameEntry (held against nothing) and IsNode.
  The document's own answer of being in the way, and ours.
-/
import Derived.Test.YtkoefoccbjhoiabNtk2
import Derived.Test.YtkoefoccbjhoiabNtk15
import Derived.Test.YtkoefoccbjhoiabNtk11
namespace Go.Proofs.Ytkoefoccbjhoiab
open Go.RowKit

theorem isops_bad {zs : List OpL} {k : Nat} {q0 q1 q2 : Int} (hk : k < zs.length) (hq : zs.getD k (0, 0, 0) = (q0, q1, q2)) (h : goodB (q0, q1, q2) = false) : goodOpsL zs = false := by
  unfold goodOpsL
  rw [range_miss hk (goodAt_no1 hq h), Bool.and_false]
theorem isops_twice {zs : List OpL} {k j : Nat} {q0 q1 q2 p0 p1 p2 : Int} (hk : k < zs.length) (hq : zs.getD k (0, 0, 0) = (q0, q1, q2)) (hj : j < k) (hp : zs.getD j (0, 0, 0) = (p0, p1, p2)) (h : (p1 == q1) = true) : goodOpsL zs = false := by
  have : goodAt zs k = false := by
    unfold goodAt
    rw [hq]
    have : (zs.take k).any (keyB q1) = true := by
      refine List.any_eq_true.2 ⟨(p0, p1, p2), ?_, h⟩
      have hg : zs[j]'(by omega) = (p0, p1, p2) := by rw [← hp]; simp [List.getD, show j < zs.length by omega]
      rw [← hg]
      exact List.mem_take_iff_getElem.2 ⟨j, by omega, rfl⟩
    simp [this]
  unfold goodOpsL
  rw [range_miss hk this, Bool.and_false]

theorem goodB_no {q0 q1 q2 : Int} (h : goodB (q0, q1, q2) = false) (c1 : ¬ q0 < 1) (c2 : ¬ 3 < q0) (c3 : ¬ q1 < 0) (c4 : ¬ 7 < q1) (c5 : ¬ 1099511627776 < q2) (c6 : ¬ q2 < -1099511627776) : (q0 == 1) = true ∧ (q2 != 0) = true := by
  have D := of_decide_eq_false h
  simp only at D
  have e : q0 = 1 := by omega
  have e2 : q2 ≠ 0 := by omega
  simp [e, e2]
theorem goodB_yes {q0 q1 q2 : Int} (h : goodB (q0, q1, q2) = true) : ¬ q0 < 1 ∧ ¬ 3 < q0 ∧ ¬ q1 < 0 ∧ ¬ 7 < q1 ∧ ¬ 1099511627776 < q2 ∧ ¬ q2 < -1099511627776 ∧ ((q0 == 1) = true ∧ (q2 != 0) = false ∨ (q0 == 1) = false) := by
  have D := of_decide_eq_true h
  simp only at D
  refine ⟨by omega, by omega, by omega, by omega, by omega, by omega, ?_⟩
  by_cases e : q0 = 1
  · have e2 : q2 = 0 := by omega
    left; simp [e, e2]
  · right; simpa using e
theorem isops_end {zs : List OpL} {k : Nat} (hk : ¬ k < zs.length) (hk' : k ≤ zs.length) (h : (List.range k).all (goodAt zs) = true) : goodOpsL zs = decide (1 ≤ zs.length ∧ zs.length ≤ 4) := by
  have : k = zs.length := by omega
  subst this
  unfold goodOpsL
  rw [h, Bool.and_true]
theorem isops_next {zs : List OpL} {k j : Nat} {q0 q1 q2 : Int} (hq : zs.getD k (0, 0, 0) = (q0, q1, q2)) (h : goodB (q0, q1, q2) = true) (hj : ¬ j < k) (hj' : j ≤ k) (hn : (zs.take j).any (keyB q1) = false) (hall : (List.range k).all (goodAt zs) = true) : (List.range (k + 1)).all (goodAt zs) = true := by
  have : j = k := by omega
  subst this
  refine range_step hall ?_
  unfold goodAt
  rw [hq]
  simp only [h, hn, Bool.not_false, Bool.and_true]

set_option maxRecDepth 100000 in
set_option maxHeartbeats 1000000 in
theorem isOps_any (a : Option Addr) (cap : Nat) (zs : List OpL) (w : World) (hl : zs.length ≤ maxLen) (hz : OpsAt w a zs) (hcap : zs.length ≤ cap) :
    Calls Try.prog 78 #[.slice a zs.length cap] w fun e w' => e = .returned (.bool (goodOpsL zs)) ∧ Below w.heap.size w w' := by
  unfold maxLen at hl
  rcases hz with rfl | ⟨b, off, rfl, hb, hc⟩
  · go_enter Try.func78, Try.ntmps78
    go_wp2
    refine wp_loop_rounds 1 ?_; rw [rounds_succ]
    go_wp2
    go_ret
    exact ⟨rfl, Below.refl _ _⟩
  go_enter Try.func78, Try.ntmps78
  go_wp2
  go_loopw [9] (fun i wr => ∃ k : Nat, k ≤ zs.length ∧ i = .int .i64 k ∧ Hid ((List.range k).all (goodAt zs) = true) ∧ Below w.heap.size w wr) (fun i _ => zs.length - (intOf i).toNat)
  case atStart => exact ⟨0, Nat.zero_le _, rfl, rfl, Below.refl _ _⟩
  case round =>
    obtain ⟨wo, hwo⟩ : ∃ wo, wo = wr := ⟨_, rfl⟩
    subst hwo
    obtain ⟨k, hk, rfl, hall, hBw⟩ := hrel
    have hsz := hBw.size
    by_cases hlt : k < zs.length
    · obtain ⟨q0, q1, q2, Hq, e0, e1, e2⟩ := OpsAt.at hc hb hBw hlt
      cases tg : goodB (q0, q1, q2)
      · have N : Hid (goodOpsL zs = false) := isops_bad hlt Hq.out tg
        clear hc
        by_cases c1 : q0 < 1
        · go_wp2
          go_ret
          exact ⟨ret_bool N.out.symm, hBw.alloc hsz _⟩
        by_cases c2 : 3 < q0
        · go_wp2
          go_ret
          exact ⟨ret_bool N.out.symm, hBw.alloc hsz _⟩
        by_cases c3 : q1 < 0
        · go_wp2
          go_ret
          exact ⟨ret_bool N.out.symm, hBw.alloc hsz _⟩
        by_cases c4 : 7 < q1
        · go_wp2
          go_ret
          exact ⟨ret_bool N.out.symm, hBw.alloc hsz _⟩
        by_cases c5 : 1099511627776 < q2
        · go_wp2
          go_ret
          exact ⟨ret_bool N.out.symm, hBw.alloc hsz _⟩
        by_cases c6 : q2 < -1099511627776
        · go_wp2
          go_ret
          exact ⟨ret_bool N.out.symm, hBw.alloc hsz _⟩
        obtain ⟨c7, c8⟩ := goodB_no tg c1 c2 c3 c4 c5 c6
        go_wp2
        go_ret
        exact ⟨ret_bool N.out.symm, hBw.alloc hsz _⟩
      · obtain ⟨c1, c2, c3, c4, c5, c6, c7⟩ := goodB_yes tg
        have hw : Below w.heap.size w (wo.alloc (.cells #[.int .i64 q0, .int .i64 q1, .int .i64 q2] 108)) := hBw.alloc hsz _
        have TG : Hid (goodB (q0, q1, q2) = true) := tg
        have HC : Hid (∀ i, i < zs.length → w.cell? ⟨b, off + i * 3, none⟩ = some (.int .i64 (zs.getD i (0, 0, 0)).1) ∧ w.cell? ⟨b, off + i * 3 + 1, none⟩ = some (.int .i64 (zs.getD i (0, 0, 0)).2.1) ∧ w.cell? ⟨b, off + i * 3 + 2, none⟩ = some (.int .i64 (zs.getD i (0, 0, 0)).2.2)) := hc
        clear tg hc
        rcases c7 with ⟨c7, c8⟩ | c7
        all_goals
          go_wp2
          go_loopw [56] (fun i wr => ∃ j : Nat, j ≤ k ∧ i = .int .i64 j ∧ Hid ((zs.take j).any (keyB q1) = false) ∧ Below (wo.heap.size + 1) (wo.alloc (.cells #[.int .i64 q0, .int .i64 q1, .int .i64 q2] 108)) wr) (fun i _ => k - (intOf i).toNat)
          case atStart => exact ⟨0, Nat.zero_le _, rfl, rfl, Below.refl _ _⟩
          case round =>
            obtain ⟨j, hj, rfl, hno, hBx⟩ := hrel
            have hBv : Below w.heap.size w wr := hw.trans (hBx.mono (by omega))
            have hsx := hBv.size
            have hsy : wo.heap.size < wr.heap.size := by have := hBx.size; simp at this; omega
            by_cases hjt : j < k
            · obtain ⟨p0, p1, p2, Hp, f0, f1, f2⟩ := OpsAt.at HC.out hb hBv (Nat.lt_trans hjt hlt)
              have g1 := hBx.cell (p := ⟨wo.heap.size, 1, none⟩) (by simp)
              simp at g1
              clear e0 e1 e2
              cases t1 : p1 == q1
              · go_wp2
                go_roundw
                case rel => exact ⟨j + 1, by omega, by go_num, any_step (Nat.lt_trans hjt hlt) Hp.out hno.out t1, hBx.alloc (by omega) _⟩
                case measure => simp [intOf]; omega
              · have N : Hid (goodOpsL zs = false) := isops_twice hlt Hq.out hjt Hp.out t1
                go_wp2
                go_ret
                exact ⟨ret_bool N.out.symm, hBv.alloc hsx _⟩
            · have Y : Hid ((List.range (k + 1)).all (goodAt zs) = true) := isops_next Hq.out TG.out hjt hj hno.out hall.out
              go_wp2
              go_roundw
              case rel => exact ⟨k + 1, by omega, by go_num, Y, hBv⟩
              case measure => simp [intOf]; omega
    · have N : Hid (goodOpsL zs = decide (1 ≤ zs.length ∧ zs.length ≤ 4)) := isops_end hlt hk hall.out
      by_cases z1 : 0 < zs.length
      · by_cases z2 : zs.length < 5
        · go_wp2
          go_ret
          exact ⟨ret_bool (by rw [N.out, Bool.eq_iff_iff]; simp; omega), hBw⟩
        · go_wp2
          go_ret
          exact ⟨ret_bool (by rw [N.out, Bool.eq_iff_iff]; simp; omega), hBw⟩
      · go_wp2
        go_ret
        exact ⟨ret_bool (by rw [N.out, Bool.eq_iff_iff]; simp; omega), hBw⟩

end Go.Proofs.Ytkoefoccbjhoiab

namespace Go.Proofs.Ytkoefoccbjhoiab
open Go.RowKit

set_option maxRecDepth 100000 in
set_option maxHeartbeats 400000 in
theorem sameNumbers_zero (a : Option Addr) (cap : Nat) (zs : List Int) (w : World) (h : SlInts w a cap zs) :
    Calls Try.prog 35 #[.slice a zs.length cap, .slice none 0 0] w fun e w' => e = .returned (.bool zs.isEmpty) ∧ Below w.heap.size w w' := by
  cases zs with
  | nil => exact sameNumbers_any a cap [] none 0 w h.2.1 h.1 (Or.inl rfl)
  | cons z r =>
    have hl := h.2.1
    unfold maxLen at hl
    have hne : (((z :: r).length : Int) != 0) = true := by simp; omega
    have E : Hid ((z :: r).isEmpty = false) := rfl
    generalize z :: r = l at *
    go_enter Try.func35, Try.ntmps35
    go_wp2
    go_ret
    exact ⟨ret_bool E.out.symm, Below.refl _ _⟩
set_option maxRecDepth 100000 in
set_option maxHeartbeats 400000 in
theorem sameOps_zero (a : Option Addr) (cap : Nat) (zs : List OpL) (w : World) (h : SlOps w a cap zs) :
    Calls Try.prog 82 #[.slice a zs.length cap, .slice none 0 0] w fun e w' => e = .returned (.bool zs.isEmpty) ∧ Below w.heap.size w w' := by
  cases zs with
  | nil => exact ref_sameOps_any a cap [] none 0 w h.2.1 h.1 (Or.inl rfl)
  | cons z r =>
    have hl := h.2.1
    unfold maxLen at hl
    have hne : (((z :: r).length : Int) != 0) = true := by simp; omega
    have E : Hid ((z :: r).isEmpty = false) := rfl
    generalize z :: r = l at *
    go_enter Try.func82, Try.ntmps82
    go_wp2
    go_ret
    exact ⟨ret_bool E.out.symm, Below.refl _ _⟩

end Go.Proofs.Ytkoefoccbjhoiab

namespace Go.Proofs.Ytkoefoccbjhoiab
open Go.RowKit

set_option maxRecDepth 100000 in
set_option maxHeartbeats 1000000 in
theorem sameEntry_zero (v : Value) (e : EntryL) (n : Nat) (w : World) (h : EntV w v e) (hs : e.state = 0) :
    Calls Try.prog 75 #[v, .agg #[.int .i64 0, .slice none 0 0, .slice none 0 0, .slice none 0 0, .slice none 0 0, .slice none 0 0]] w fun r w' => r = .returned (.bool (entB e n)) ∧ Below w.heap.size w w' := by
  obtain ⟨a1, c1, a2, c2, a3, c3, a4, c4, a5, c5, rfl, x1, x2, x3, x4, x5, _⟩ := h
  have HE : Hid (entB e n = (e.ops.isEmpty && e.first.isEmpty && e.deps.isEmpty && e.ats.isEmpty && e.vals.isEmpty)) := by unfold entB Hid; rw [if_pos hs]
  obtain ⟨W, hW⟩ : ∃ W, W = (w.alloc (.cells #[.int .i64 e.state, .slice a1 e.ops.length c1, .slice a2 e.first.length c2, .slice a3 e.deps.length c3, .slice a4 e.ats.length c4, .slice a5 e.vals.length c5] 37)).alloc (.cells #[.int .i64 0, .slice none 0 0, .slice none 0 0, .slice none 0 0, .slice none 0 0, .slice none 0 0] 37) := ⟨_, rfl⟩
  obtain ⟨r0, r1⟩ := two_rows w (.cells #[.int .i64 e.state, .slice a1 e.ops.length c1, .slice a2 e.first.length c2, .slice a3 e.deps.length c3, .slice a4 e.ats.length c4, .slice a5 e.vals.length c5] 37) (.cells #[.int .i64 0, .slice none 0 0, .slice none 0 0, .slice none 0 0, .slice none 0 0, .slice none 0 0] 37)
  rw [← hW] at r0 r1
  have hb : Below w.heap.size w W := by rw [hW]; exact ((Below.refl _ _).alloc (Nat.le_refl _) _).alloc (by rw [size_push]; omega) _
  have hzW : W.heap.size = w.heap.size + 2 := by rw [hW, size_push, size_push]
  have es : (e.state == 0) = true := by simpa using hs
  have HW : Hid (W = (w.alloc (.cells #[.int .i64 e.state, .slice a1 e.ops.length c1, .slice a2 e.first.length c2, .slice a3 e.deps.length c3, .slice a4 e.ats.length c4, .slice a5 e.vals.length c5] 37)).alloc (.cells #[.int .i64 0, .slice none 0 0, .slice none 0 0, .slice none 0 0, .slice none 0 0, .slice none 0 0] 37)) := hW
  have KC : Hid (∀ wx, Below W.heap.size W wx → (wx.heap[w.heap.size]? = some (.cells #[.int .i64 e.state, .slice a1 e.ops.length c1, .slice a2 e.first.length c2, .slice a3 e.deps.length c3, .slice a4 e.ats.length c4, .slice a5 e.vals.length c5] 37 (0, 0)) ∧ wx.heap[w.heap.size + 1]? = some (.cells #[.int .i64 0, .slice none 0 0, .slice none 0 0, .slice none 0 0, .slice none 0 0, .slice none 0 0] 37 (0, 0)))) := fun wx hx => ⟨by rw [hx.block _ (by omega)]; exact r0, by rw [hx.block _ (by omega)]; exact r1⟩
  clear hW r0 r1 hs
  go_enter Try.func75, Try.ntmps75
  go_upto_region 1 with fail
  rw [← HW.out]
  clear HW
  obtain ⟨r0, r1⟩ := KC.out W (Below.refl _ _)
  have p0 : W.cell? ⟨w.heap.size, 0, none⟩ = some (.int .i64 e.state) := by rw [cell_of_row _ _ _ _ _ _ r0]; rfl
  have p1 : W.cell? ⟨w.heap.size + 1, 0, none⟩ = some (.int .i64 0) := by rw [cell_of_row _ _ _ _ _ _ r1]; rfl
  have hb0 : Below W.heap.size W W := Below.refl _ _
  have hw0 : Below w.heap.size w W := hb
  have q1 : W.cell? ⟨w.heap.size, 1, none⟩ = some (.slice a1 e.ops.length c1) := by rw [cell_of_row _ _ _ _ _ _ r0]; rfl
  have z1 : W.cell? ⟨w.heap.size + 1, 1, none⟩ = some (.slice none 0 0) := by rw [cell_of_row _ _ _ _ _ _ r1]; rfl
  clear r0 r1
  go_wp2_with fail
  refine (sameOps_zero a1 c1 e.ops W (x1.later hw0)).mono ?_
  rintro r w1 ⟨rfl, hx1⟩
  have hb1 : Below W.heap.size W w1 := hb0.trans (hx1.mono hb0.size)
  have hw1 : Below w.heap.size w w1 := hb.trans (hb1.mono (by omega))
  clear hx1 q1 z1
  cases t1 : e.ops.isEmpty
  · have N : Hid (entB e n = false) := by unfold Hid; rw [HE.out, t1]; simp
    go_wp2
    go_ret
    exact ⟨ret_bool N.out.symm, hw1⟩
  obtain ⟨r0, r1⟩ := KC.out w1 hb1
  have q2 : w1.cell? ⟨w.heap.size, 2, none⟩ = some (.slice a2 e.first.length c2) := by rw [cell_of_row _ _ _ _ _ _ r0]; rfl
  have z2 : w1.cell? ⟨w.heap.size + 1, 2, none⟩ = some (.slice none 0 0) := by rw [cell_of_row _ _ _ _ _ _ r1]; rfl
  clear r0 r1
  go_wp2_with fail
  refine (sameNumbers_zero a2 c2 e.first w1 (x2.later hw1)).mono ?_
  rintro r w2 ⟨rfl, hx2⟩
  have hb2 : Below W.heap.size W w2 := hb1.trans (hx2.mono hb1.size)
  have hw2 : Below w.heap.size w w2 := hb.trans (hb2.mono (by omega))
  clear hx2 q2 z2
  cases t2 : e.first.isEmpty
  · have N : Hid (entB e n = false) := by unfold Hid; rw [HE.out, t2]; simp
    go_wp2
    go_ret
    exact ⟨ret_bool N.out.symm, hw2⟩
  obtain ⟨r0, r1⟩ := KC.out w2 hb2
  have q3 : w2.cell? ⟨w.heap.size, 3, none⟩ = some (.slice a3 e.deps.length c3) := by rw [cell_of_row _ _ _ _ _ _ r0]; rfl
  have z3 : w2.cell? ⟨w.heap.size + 1, 3, none⟩ = some (.slice none 0 0) := by rw [cell_of_row _ _ _ _ _ _ r1]; rfl
  clear r0 r1
  go_wp2_with fail
  refine (sameNumbers_zero a3 c3 e.deps w2 (x3.later hw2)).mono ?_
  rintro r w3 ⟨rfl, hx3⟩
  have hb3 : Below W.heap.size W w3 := hb2.trans (hx3.mono hb2.size)
  have hw3 : Below w.heap.size w w3 := hb.trans (hb3.mono (by omega))
  clear hx3 q3 z3
  cases t3 : e.deps.isEmpty
  · have N : Hid (entB e n = false) := by unfold Hid; rw [HE.out, t3]; simp
    go_wp2
    go_ret
    exact ⟨ret_bool N.out.symm, hw3⟩
  obtain ⟨r0, r1⟩ := KC.out w3 hb3
  have q4 : w3.cell? ⟨w.heap.size, 4, none⟩ = some (.slice a4 e.ats.length c4) := by rw [cell_of_row _ _ _ _ _ _ r0]; rfl
  have z4 : w3.cell? ⟨w.heap.size + 1, 4, none⟩ = some (.slice none 0 0) := by rw [cell_of_row _ _ _ _ _ _ r1]; rfl
  clear r0 r1
  go_wp2_with fail
  refine (sameNumbers_zero a4 c4 e.ats w3 (x4.later hw3)).mono ?_
  rintro r w4 ⟨rfl, hx4⟩
  have hb4 : Below W.heap.size W w4 := hb3.trans (hx4.mono hb3.size)
  have hw4 : Below w.heap.size w w4 := hb.trans (hb4.mono (by omega))
  clear hx4 q4 z4
  cases t4 : e.ats.isEmpty
  · have N : Hid (entB e n = false) := by unfold Hid; rw [HE.out, t4]; simp
    go_wp2
    go_ret
    exact ⟨ret_bool N.out.symm, hw4⟩
  obtain ⟨r0, r1⟩ := KC.out w4 hb4
  have q5 : w4.cell? ⟨w.heap.size, 5, none⟩ = some (.slice a5 e.vals.length c5) := by rw [cell_of_row _ _ _ _ _ _ r0]; rfl
  have z5 : w4.cell? ⟨w.heap.size + 1, 5, none⟩ = some (.slice none 0 0) := by rw [cell_of_row _ _ _ _ _ _ r1]; rfl
  clear r0 r1
  go_wp2_with fail
  refine (sameNumbers_zero a5 c5 e.vals w4 (x5.later hw4)).mono ?_
  rintro r w5 ⟨rfl, hx5⟩
  have hb5 : Below W.heap.size W w5 := hb4.trans (hx5.mono hb4.size)
  have hw5 : Below w.heap.size w w5 := hb.trans (hb5.mono (by omega))
  clear hx5 q5 z5
  cases t5 : e.vals.isEmpty
  · have N : Hid (entB e n = false) := by unfold Hid; rw [HE.out, t5]; simp
    go_wp2
    go_ret
    exact ⟨ret_bool N.out.symm, hw5⟩
  have N : Hid (entB e n = true) := by unfold Hid; rw [HE.out, t1, t2, t3, t4, t5]; rfl
  go_wp2
  go_ret
  exact ⟨ret_bool N.out.symm, hw5⟩

/-- An entry that is not what it may be. -/
theorem ent_bad {e : EntryL} {n : Nat} (h0 : e.state ≠ 0) (h : Fine e n → False) : entB e n = false := by
  cases t : entB e n
  · rfl
  · rcases entB_iff.1 t with e1 | e1
    · exact absurd (by rw [e1]; rfl) h0
    · exact (h e1).elim
theorem count_at {l : List Int} {j : Nat} {q : Int} (hj : j < l.length) (hq : l.getD j 0 = q) (x : Int) : (l.take (j + 1)).count x = (l.take j).count x + if q = x then 1 else 0 := by
  have e : l[j] = q := by rw [← hq]; simp [List.getD, hj]
  rw [List.take_succ_eq_append_getElem hj, List.count_append, e]
  by_cases h : q = x
  · subst h; simp
  · rw [if_neg h, List.count_cons_of_ne h]; simp
def entP (s : NodeL) (n : Nat) : Bool := entB (s.ent n) n && decide (s.order.count (n : Int) = if (s.ent n).state = 3 then 1 else 0)
theorem goodNB_def (s : NodeL) : goodNB s = ((List.range 32).all (entP s) && s.order.all fun x => decide (0 ≤ x ∧ x < 32)) := rfl
theorem entP_bad {s : NodeL} {k : Nat} (hk : k < 32) (h : entP s k = false) : goodNB s = false := by
  rw [goodNB_def, all_range_miss hk h]; rfl
theorem entP_ent {s : NodeL} {k : Nat} (h : entB (s.ent k) k = false) : entP s k = false := by unfold entP; rw [h]; rfl
theorem entP_cnt {s : NodeL} {k : Nat} (h : ¬ s.order.count (k : Int) = if (s.ent k).state = 3 then 1 else 0) : entP s k = false := by unfold entP; rw [decide_eq_false h, Bool.and_false]
theorem entP_ok {s : NodeL} {k : Nat} (h : entB (s.ent k) k = true) (h2 : s.order.count (k : Int) = if (s.ent k).state = 3 then 1 else 0) : entP s k = true := by unfold entP; rw [h, decide_eq_true h2]; rfl

set_option maxRecDepth 100000 in
set_option maxHeartbeats 4000000 in
theorem isNode_ref (nv : Nat → Value) (s : NodeL) (w : World) (h : NodeC (· < w.heap.size) w nv s) :
    Calls Try.prog 28 #[.agg (rowF 201 nv)] w fun r w' => r = .returned (.bool (goodNB s)) ∧ Below w.heap.size w w' := by
  obtain ⟨gr, hgr⟩ : ∃ gr, gr = rowF 201 nv := ⟨_, rfl⟩
  rw [← hgr]
  obtain ⟨ao, co, eo, ho⟩ := h.order.sl
  have hlo : s.order.length ≤ 140737488355328 := by
    obtain ⟨_, _, _, _, hl, _⟩ := h.order
    omega
  have HG : Hid (gr = rowF 201 nv) := hgr
  have HN : Hid (NodeC (· < w.heap.size) w nv s) := h
  obtain ⟨W, hW⟩ : ∃ W, W = w.alloc (.cells gr 41) := ⟨_, rfl⟩
  have hb : Below w.heap.size w W := by rw [hW]; exact (Below.refl _ _).alloc (Nat.le_refl _) _
  have hzW : W.heap.size = w.heap.size + 1 := by rw [hW]; exact size_push _ _
  have r0 : W.heap[w.heap.size]? = some (.cells gr 41 (0, 0)) := by rw [hW]; exact heap_new _ _
  have HBlk : Hid (BlkAt 201 W w.heap.size nv) := ⟨41, by rw [← HG.out]; exact r0⟩
  have HR : W.rangeAt w.heap.size 0 (rowF 192 nv).toList := by
    have := BlkAt.range HBlk.out (o := 0) (n := 192) (by omega)
    simpa [rowF] using this
  obtain ⟨er, her⟩ : ∃ er, er = (rowF 192 nv).toList := ⟨_, rfl⟩
  have hsizeE : (Try.prog.info? 38).map (·.size) = some er.length := by rw [her, rowF_toList]; exact Try.infoEnts
  rw [← her] at HR
  have HER : Hid (er.toArray = rowF 192 nv) := by unfold Hid; rw [her]
  have HEO : Hid (nv 192 = .slice ao s.order.length co) := eo
  have HO : Hid (IntsAt w.heap.size w ao s.order) := ho.1
  have HW : Hid (W = w.alloc (.cells gr 41)) := hW
  clear her h hgr hW eo ho r0
  go_enter Try.func28, Try.ntmps28
  go_upto_region 1 with fail
  rw [← HW.out]
  go_wp2_with (refine wpList_load_mid rfl 38 _ rfl w.heap.size 0 rfl er _ HR Try.underlying38 rfl hsizeE ?_)
  generalize er.toArray = ea at *
  clear HR hsizeE HW
  go_loopw [15] (fun i wr => ∃ k : Nat, k ≤ 32 ∧ i = .int .i64 k ∧ Hid ((List.range k).all (entP s) = true) ∧ Below W.heap.size W wr) (fun i _ => 32 - (intOf i).toNat)
  case atStart => exact ⟨0, Nat.zero_le _, rfl, rfl, Below.refl _ _⟩
  case round =>
    obtain ⟨k, hk, rfl, hall, hB⟩ := hrel
    have hbw : Below w.heap.size w wr := hb.trans (hB.mono (by omega))
    have hsz := hB.size
    have qo : wr.cell? ⟨w.heap.size, 192, none⟩ = some (.slice ao s.order.length co) := by
      have h1 : BlkAt 201 wr w.heap.size nv := HBlk.out.later hB (by omega)
      rw [h1.cell (by omega), HEO.out]
    have HOr : Hid (IntsAt w.heap.size wr ao s.order) := HO.out.later hbw
    by_cases hlt : k < 32
    · have hi := fun wx => run_index_ents nv hlt wx
      obtain ⟨a1, c1, a2, c2, a3, c3, a4, c4, a5, c5, ev, x1, x2, x3, x4, x5, l1, l2, l3, l4, l5⟩ := (HN.out.es.ent k hlt).v
      rw [← HER.out, ev] at hi
      clear ev
      have n1 : (0 : Int) ≤ (k : Int) ∧ (k : Int) < 32 := by omega
      go_upto_region 4 with fail
      clear hi
      obtain ⟨X, hX⟩ : ∃ X, X = wr.alloc (.cells #[.int .i64 (s.ent k).state, .slice a1 (s.ent k).ops.length c1, .slice a2 (s.ent k).first.length c2, .slice a3 (s.ent k).deps.length c3, .slice a4 (s.ent k).ats.length c4, .slice a5 (s.ent k).vals.length c5] 37) := ⟨_, rfl⟩
      rw [← hX]
      have hbX : Below wr.heap.size wr X := by rw [hX]; exact (Below.refl _ _).alloc (Nat.le_refl _) _
      have rX : X.heap[wr.heap.size]? = some (.cells #[.int .i64 (s.ent k).state, .slice a1 (s.ent k).ops.length c1, .slice a2 (s.ent k).first.length c2, .slice a3 (s.ent k).deps.length c3, .slice a4 (s.ent k).ats.length c4, .slice a5 (s.ent k).vals.length c5] 37 (0, 0)) := by rw [hX]; exact heap_new _ _
      have hXw : Below w.heap.size w X := hbw.trans (hbX.mono (by omega))
      have hXW : Below W.heap.size W X := hB.trans (hbX.mono (by omega))
      have hzX : X.heap.size = wr.heap.size + 1 := by rw [hX]; exact size_push _ _
      have p0 : X.cell? ⟨wr.heap.size, 0, none⟩ = some (.int .i64 (s.ent k).state) := by rw [cell_of_row _ _ _ _ _ _ rX]; rfl
      have qX : X.cell? ⟨w.heap.size, 192, none⟩ = some (.slice ao s.order.length co) := by rw [hbX.cell (p := ⟨w.heap.size, 192, none⟩) (by show w.heap.size < _; omega)]; exact qo
      have HOX : Hid (IntsAt w.heap.size X ao s.order) := HO.out.later hXw
      have HX1 : Hid (SlOps X a1 c1 (s.ent k).ops) := x1.later hXw
      have HX2 : Hid (SlInts X a2 c2 (s.ent k).first) := x2.later hXw
      have HX3 : Hid (SlInts X a3 c3 (s.ent k).deps) := x3.later hXw
      have HX4 : Hid (SlInts X a4 c4 (s.ent k).ats) := x4.later hXw
      have HX5 : Hid (SlInts X a5 c5 (s.ent k).vals) := x5.later hXw
      have HRX : Hid (X.heap[wr.heap.size]? = some (.cells #[.int .i64 (s.ent k).state, .slice a1 (s.ent k).ops.length c1, .slice a2 (s.ent k).first.length c2, .slice a3 (s.ent k).deps.length c3, .slice a4 (s.ent k).ats.length c4, .slice a5 (s.ent k).vals.length c5] 37 (0, 0))) := rX
      clear hX hbX qo HOr x1 x2 x3 x4 x5 rX
      go_wp2_with fail
      go_loop [5, 22] (fun t i => ∃ (j c : Nat), j ≤ s.order.length ∧ i = .int .i64 j ∧ t = .int .i64 c ∧ c ≤ j ∧ Hid (c = (s.order.take j).count (k : Int))) (fun _ i => s.order.length - (intOf i).toNat)
      case atStart => exact ⟨0, 0, Nat.zero_le _, rfl, rfl, Nat.le_refl _, by unfold Hid; simp⟩
      case round =>
        obtain ⟨j, cn, hj, rfl, rfl, hcj, hcn⟩ := hrel
        by_cases hlj : j < s.order.length
        · rcases HOX.out with e | ⟨b, off, rfl, hbb, hc⟩
          · rw [e] at hlj; simp at hlj
          have e0 := hc j hlj
          obtain ⟨q, hq⟩ : ∃ q, q = s.order.getD j 0 := ⟨_, rfl⟩
          rw [← hq] at e0
          have HQ : Hid (s.order.getD j 0 = q) := hq.symm
          clear hc hq
          by_cases tq : q = (k : Int)
          · have dq : (q == (k : Int)) = true := by simpa using tq
            have HC : Hid (cn + 1 = (s.order.take (j + 1)).count (k : Int)) := by unfold Hid; rw [count_at hlj HQ.out, if_pos tq, ← hcn.out]
            clear tq
            go_wp2
            go_round
            case rel => exact ⟨j + 1, cn + 1, by omega, by go_num, by go_num, by omega, HC⟩
            case measure => simp [intOf]; omega
          · have dq : (q == (k : Int)) = false := by simpa using tq
            have HC : Hid (cn = (s.order.take (j + 1)).count (k : Int)) := by unfold Hid; rw [count_at hlj HQ.out, if_neg tq, ← hcn.out]; rfl
            clear tq
            go_wp2
            go_round
            case rel => exact ⟨j + 1, cn, by omega, by go_num, rfl, by omega, HC⟩
            case measure => simp [intOf]; omega
        · obtain rfl : j = s.order.length := by omega
          have HCN : Hid (s.order.count (k : Int) = cn) := by
            have := hcn.out
            rw [List.take_length] at this
            exact this.symm
          obtain ⟨ci, hci⟩ : ∃ ci : Int, ci = (cn : Int) := ⟨_, rfl⟩
          rw [← hci]
          have HCI : Hid (ci = (cn : Int)) := hci
          clear hcn hci HOX
          by_cases g0 : (s.ent k).state < 0
          · have N : Hid (goodNB s = false) := entP_bad hlt (entP_ent (ent_bad (by omega) (fun F => by have := F.st; omega)))
            have d0 : decide ((s.ent k).state < 0) = true := decide_eq_true g0
            clear g0
            go_wp2
            go_ret
            exact ⟨ret_bool N.out.symm, hXw⟩
          have d0 : decide ((s.ent k).state < 0) = false := decide_eq_false g0
          by_cases g3 : 3 < (s.ent k).state
          · have N : Hid (goodNB s = false) := entP_bad hlt (entP_ent (ent_bad (by omega) (fun F => by have := F.st; omega)))
            have d3 : decide (3 < (s.ent k).state) = true := decide_eq_true g3
            clear g0 g3
            go_wp2
            go_ret
            exact ⟨ret_bool N.out.symm, hXw⟩
          have d3 : decide (3 < (s.ent k).state) = false := decide_eq_false g3
          by_cases s3 : (s.ent k).state = 3
          · have S3 : Hid ((s.ent k).state = 3) := s3
            have b3 : ((s.ent k).state == 3) = true := by simpa using s3
            have c3' : ((s.ent k).state != 3) = false := by simpa using s3
            have z0 : ((s.ent k).state == 0) = false := by simp; omega
            have S0 : Hid ((s.ent k).state ≠ 0) := by unfold Hid; omega
            clear s3 g0 g3
            by_cases tc : ci = 1
            · have m1 : (ci != 1) = false := by simpa using tc
              have CNT : Hid (s.order.count (k : Int) = if (s.ent k).state = 3 then 1 else 0) := by unfold Hid; rw [if_pos S3.out, HCN.out]; have := HCI.out; omega
              clear tc
              have p1 : X.cell? ⟨wr.heap.size, 1, none⟩ = some (.slice a1 (s.ent k).ops.length c1) := by rw [cell_of_row _ _ _ _ _ _ HRX.out]; rfl
              have p2 : X.cell? ⟨wr.heap.size, 2, none⟩ = some (.slice a2 (s.ent k).first.length c2) := by rw [cell_of_row _ _ _ _ _ _ HRX.out]; rfl
              have p3 : X.cell? ⟨wr.heap.size, 3, none⟩ = some (.slice a3 (s.ent k).deps.length c3) := by rw [cell_of_row _ _ _ _ _ _ HRX.out]; rfl
              have p4 : X.cell? ⟨wr.heap.size, 4, none⟩ = some (.slice a4 (s.ent k).ats.length c4) := by rw [cell_of_row _ _ _ _ _ _ HRX.out]; rfl
              have p5 : X.cell? ⟨wr.heap.size, 5, none⟩ = some (.slice a5 (s.ent k).vals.length c5) := by rw [cell_of_row _ _ _ _ _ _ HRX.out]; rfl
              go_wp2_with fail
              refine (isOps_any a1 c1 (s.ent k).ops X HX1.out.2.1 HX1.out.1 HX1.out.2.2.1).mono ?_
              rintro r w1 ⟨rfl, hb1⟩
              have hw1 : Below w.heap.size w w1 := hXw.trans (hb1.mono (by omega))
              have hW1 : Below W.heap.size W w1 := hXW.trans (hb1.mono (by omega))
              have HR1 : Hid (w1.heap[wr.heap.size]? = some (.cells #[.int .i64 (s.ent k).state, .slice a1 (s.ent k).ops.length c1, .slice a2 (s.ent k).first.length c2, .slice a3 (s.ent k).deps.length c3, .slice a4 (s.ent k).ats.length c4, .slice a5 (s.ent k).vals.length c5] 37 (0, 0))) := by unfold Hid; rw [hb1.block _ (by omega)]; exact HRX.out
              have y0 : w1.cell? ⟨wr.heap.size, 0, none⟩ = some (.int .i64 (s.ent k).state) := by rw [cell_of_row _ _ _ _ _ _ HR1.out]; rfl
              have y1 : w1.cell? ⟨wr.heap.size, 1, none⟩ = some (.slice a1 (s.ent k).ops.length c1) := by rw [cell_of_row _ _ _ _ _ _ HR1.out]; rfl
              have y2 : w1.cell? ⟨wr.heap.size, 2, none⟩ = some (.slice a2 (s.ent k).first.length c2) := by rw [cell_of_row _ _ _ _ _ _ HR1.out]; rfl
              have y3 : w1.cell? ⟨wr.heap.size, 3, none⟩ = some (.slice a3 (s.ent k).deps.length c3) := by rw [cell_of_row _ _ _ _ _ _ HR1.out]; rfl
              have y4 : w1.cell? ⟨wr.heap.size, 4, none⟩ = some (.slice a4 (s.ent k).ats.length c4) := by rw [cell_of_row _ _ _ _ _ _ HR1.out]; rfl
              have y5 : w1.cell? ⟨wr.heap.size, 5, none⟩ = some (.slice a5 (s.ent k).vals.length c5) := by rw [cell_of_row _ _ _ _ _ _ HR1.out]; rfl
              have HY2 : Hid (SlInts w1 a2 c2 (s.ent k).first) := HX2.out.later hb1
              have HY3 : Hid (SlInts w1 a3 c3 (s.ent k).deps) := HX3.out.later hb1
              have HY4 : Hid (SlInts w1 a4 c4 (s.ent k).ats) := HX4.out.later hb1
              have HY5 : Hid (SlInts w1 a5 c5 (s.ent k).vals) := HX5.out.later hb1
              clear hb1 p0 p1 p2 p3 p4 p5 qX HX1 HX2 HX3 HX4 HX5 HRX
              cases t1 : goodOpsL (s.ent k).ops
              · have N : Hid (goodNB s = false) := entP_bad hlt (entP_ent (ent_bad S0.out (fun F => by have := F.ops; rw [t1] at this; cases this)))
                go_wp2
                go_ret
                exact ⟨ret_bool N.out.symm, hw1⟩
              go_wp2_with fail
              refine (isRising_any a2 c2 (s.ent k).first _ HY2.out.2.1 HY2.out.1).mono ?_
              rintro r w2 ⟨rfl, hw2⟩
              rw [hw2]
              clear hw2
              cases t2 : risingFrom (-1) (s.ent k).first
              · have N : Hid (goodNB s = false) := entP_bad hlt (entP_ent (ent_bad S0.out (fun F => by have := F.first.1; rw [t2] at this; cases this)))
                go_wp2
                go_ret
                exact ⟨ret_bool N.out.symm, hw1⟩
              go_wp2_with fail
              refine (isRising_any a3 c3 (s.ent k).deps _ HY3.out.2.1 HY3.out.1).mono ?_
              rintro r w2 ⟨rfl, hw2⟩
              rw [hw2]
              clear hw2
              cases t3 : risingFrom (-1) (s.ent k).deps
              · have N : Hid (goodNB s = false) := entP_bad hlt (entP_ent (ent_bad S0.out (fun F => by have := F.deps.1; rw [t3] at this; cases this)))
                go_wp2
                go_ret
                exact ⟨ret_bool N.out.symm, hw1⟩
              go_wp2_with fail
              refine (ref_has a2 c2 (s.ent k).first k _ HY2.out.2.1 HY2.out.1).mono ?_
              rintro r w2 ⟨rfl, hw2⟩
              rw [hw2]
              clear hw2
              cases t4 : hasL (s.ent k).first (k : Int)
              rotate_left
              · have N : Hid (goodNB s = false) := entP_bad hlt (entP_ent (ent_bad S0.out (fun F => by have := F.first.2; rw [t4] at this; cases this)))
                go_wp2
                go_ret
                exact ⟨ret_bool N.out.symm, hw1⟩
              go_wp2_with fail
              refine (ref_has a3 c3 (s.ent k).deps k _ HY3.out.2.1 HY3.out.1).mono ?_
              rintro r w2 ⟨rfl, hw2⟩
              rw [hw2]
              clear hw2
              cases t5 : hasL (s.ent k).deps (k : Int)
              rotate_left
              · have N : Hid (goodNB s = false) := entP_bad hlt (entP_ent (ent_bad S0.out (fun F => by have := F.deps.2; rw [t5] at this; cases this)))
                go_wp2
                go_ret
                exact ⟨ret_bool N.out.symm, hw1⟩
              have HT : Hid ((goodOpsL (s.ent k).ops = true ∧ risingFrom (-1) (s.ent k).first = true ∧ risingFrom (-1) (s.ent k).deps = true) ∧ hasL (s.ent k).first (k : Int) = false ∧ hasL (s.ent k).deps (k : Int) = false) := ⟨⟨t1, t2, t3⟩, t4, t5⟩
              clear t1 t2 t3 t4 t5
              by_cases tl : (s.ent k).vals.length = (s.ent k).ats.length
              rotate_left
              · have dl : (((s.ent k).ats.length : Int) != ((s.ent k).vals.length : Int)) = true := by simp; omega
                have N : Hid (goodNB s = false) := entP_bad hlt (entP_ent (ent_bad S0.out (fun F => tl F.vals)))
                clear tl
                go_wp2
                go_ret
                exact ⟨ret_bool N.out.symm, hw1⟩
              have dl : (((s.ent k).ats.length : Int) != ((s.ent k).vals.length : Int)) = false := by simp; omega
              have TL : Hid ((s.ent k).vals.length = (s.ent k).ats.length) := tl
              clear tl
              have FINE : Hid (atsFrom (-1) (s.ent k).ops.length (s.ent k).ats = true → Fine (s.ent k) k) := fun ha => ⟨by have := S3.out; omega, HT.out.1.1, ⟨HT.out.1.2.1, HT.out.2.1⟩, ⟨HT.out.1.2.2, HT.out.2.2⟩, fun e => by have := S3.out; omega, fun e => absurd S3.out e, ha, TL.out⟩
              have e1 : ((s.ent k).state == 1) = false := by have := S3.out; simp; omega
              have e3 : decide ((s.ent k).state < 3) = false := by have := S3.out; simp; omega
              have HAT : Hid (IntsAt w1.heap.size w1 a4 (s.ent k).ats) := HY4.out.1
              clear HY2 HY3 HY4 HY5
              go_wp2_with fail
              go_loop [8, 125] (fun l i => ∃ (j : Nat) (q : Int), j ≤ (s.ent k).ats.length ∧ i = .int .i64 j ∧ l = .int .i64 q ∧ Hid (atsFrom (-1) (s.ent k).ops.length (s.ent k).ats = atsFrom q (s.ent k).ops.length ((s.ent k).ats.drop j))) (fun _ i => (s.ent k).ats.length - (intOf i).toNat)
              case atStart => exact ⟨0, -1, Nat.zero_le _, rfl, rfl, rfl⟩
              case round =>
                obtain ⟨j, l, hj, rfl, rfl, hno⟩ := hrel
                by_cases hlj : j < (s.ent k).ats.length
                · rcases HAT.out with e | ⟨b, off, rfl, hbb, hc⟩
                  · rw [e] at hlj; simp at hlj
                  have e0 := hc j hlj
                  obtain ⟨q, hq⟩ : ∃ q, q = (s.ent k).ats.getD j 0 := ⟨_, rfl⟩
                  rw [← hq] at e0
                  have HQ : Hid ((s.ent k).ats.getD j 0 = q) := hq.symm
                  clear hc hq
                  by_cases t1 : q ≤ l
                  · have N : Hid (goodNB s = false) := entP_bad hlt (entP_ent (ent_bad S0.out (fun F => by have := F.ats; rw [ats_no hlj HQ.out hno.out (Or.inl t1)] at this; cases this)))
                    go_wp2
                    go_ret
                    exact ⟨ret_bool N.out.symm, hw1⟩
                  · by_cases t2 : ((s.ent k).ops.length : Int) ≤ q
                    · have N : Hid (goodNB s = false) := entP_bad hlt (entP_ent (ent_bad S0.out (fun F => by have := F.ats; rw [ats_no hlj HQ.out hno.out (Or.inr t2)] at this; cases this)))
                      go_wp2
                      go_ret
                      exact ⟨ret_bool N.out.symm, hw1⟩
                    · have HNX : Hid (atsFrom (-1) (s.ent k).ops.length (s.ent k).ats = atsFrom q (s.ent k).ops.length ((s.ent k).ats.drop (j + 1))) := ats_yes hlj HQ.out hno.out t1 t2
                      go_wp2
                      go_round
                      case rel => exact ⟨j + 1, q, by omega, by go_num, rfl, HNX⟩
                      case measure => simp [intOf]; omega
                · have HOK : Hid (entP s k = true) := entP_ok (entB_iff.2 (Or.inr (FINE.out (ats_end hlj hno.out)))) (CNT.out)
                  have Y : Hid ((List.range (k + 1)).all (entP s) = true) := range_step hall.out HOK.out
                  go_wp2
                  go_roundw
                  case rel => exact ⟨k + 1, by omega, by go_num, Y, hW1⟩
                  case measure => simp [intOf]; omega
            · have m1 : (ci != 1) = true := by simpa using tc
              have N : Hid (goodNB s = false) := entP_bad hlt (entP_cnt (by rw [if_pos S3.out, HCN.out]; have := HCI.out; omega))
              clear tc
              go_wp2
              go_ret
              exact ⟨ret_bool N.out.symm, hXw⟩
          · have b3 : ((s.ent k).state == 3) = false := by simpa using s3
            have c3' : ((s.ent k).state != 3) = true := by simpa using s3
            have SLT : Hid ((s.ent k).state < 3 ∧ 0 ≤ (s.ent k).state) := by unfold Hid; omega
            have SN3 : Hid ((s.ent k).state ≠ 3) := s3
            by_cases tc : ci = 0
            · have m1 : (ci != 0) = false := by simpa using tc
              have CNT : Hid (s.order.count (k : Int) = if (s.ent k).state = 3 then 1 else 0) := by unfold Hid; rw [if_neg SN3.out, HCN.out]; have := HCI.out; omega
              clear tc
              by_cases t0 : (s.ent k).state = 0
              · have z0 : ((s.ent k).state == 0) = true := by simpa using t0
                have S0 : Hid ((s.ent k).state = 0) := t0
                clear s3 g0 g3 t0
                have p1 : X.cell? ⟨wr.heap.size, 1, none⟩ = some (.slice a1 (s.ent k).ops.length c1) := by rw [cell_of_row _ _ _ _ _ _ HRX.out]; rfl
                have p2 : X.cell? ⟨wr.heap.size, 2, none⟩ = some (.slice a2 (s.ent k).first.length c2) := by rw [cell_of_row _ _ _ _ _ _ HRX.out]; rfl
                have p3 : X.cell? ⟨wr.heap.size, 3, none⟩ = some (.slice a3 (s.ent k).deps.length c3) := by rw [cell_of_row _ _ _ _ _ _ HRX.out]; rfl
                have p4 : X.cell? ⟨wr.heap.size, 4, none⟩ = some (.slice a4 (s.ent k).ats.length c4) := by rw [cell_of_row _ _ _ _ _ _ HRX.out]; rfl
                have p5 : X.cell? ⟨wr.heap.size, 5, none⟩ = some (.slice a5 (s.ent k).vals.length c5) := by rw [cell_of_row _ _ _ _ _ _ HRX.out]; rfl
                have hv : EntV X (.agg #[.int .i64 (s.ent k).state, .slice a1 (s.ent k).ops.length c1, .slice a2 (s.ent k).first.length c2, .slice a3 (s.ent k).deps.length c3, .slice a4 (s.ent k).ats.length c4, .slice a5 (s.ent k).vals.length c5]) (s.ent k) := ⟨a1, c1, a2, c2, a3, c3, a4, c4, a5, c5, rfl, HX1.out, HX2.out, HX3.out, HX4.out, HX5.out, l1, l2, l3, l4, l5⟩
                have HV : Hid (EntV X (.agg #[.int .i64 (s.ent k).state, .slice a1 (s.ent k).ops.length c1, .slice a2 (s.ent k).first.length c2, .slice a3 (s.ent k).deps.length c3, .slice a4 (s.ent k).ats.length c4, .slice a5 (s.ent k).vals.length c5]) (s.ent k)) := hv
                clear hv
                go_wp2_with fail
                refine (sameEntry_zero _ (s.ent k) k X HV.out S0.out).mono ?_
                rintro r w1 ⟨rfl, hb1⟩
                have hw1 : Below w.heap.size w w1 := hXw.trans (hb1.mono (by omega))
                have hW1 : Below W.heap.size W w1 := hXW.trans (hb1.mono (by omega))
                clear hb1 p0 p1 p2 p3 p4 p5
                cases t1 : entB (s.ent k) k
                · have N : Hid (goodNB s = false) := entP_bad hlt (entP_ent t1)
                  go_wp2
                  go_ret
                  exact ⟨ret_bool N.out.symm, hw1⟩
                · have Y : Hid ((List.range (k + 1)).all (entP s) = true) := range_step hall.out (entP_ok t1 CNT.out)
                  go_wp2
                  go_roundw
                  case rel => exact ⟨k + 1, by omega, by go_num, Y, hW1⟩
                  case measure => simp [intOf]; omega
              · have z0 : ((s.ent k).state == 0) = false := by simpa using t0
                have S0 : Hid ((s.ent k).state ≠ 0) := t0
                clear s3 g0 g3 t0
                have p1 : X.cell? ⟨wr.heap.size, 1, none⟩ = some (.slice a1 (s.ent k).ops.length c1) := by rw [cell_of_row _ _ _ _ _ _ HRX.out]; rfl
                have p2 : X.cell? ⟨wr.heap.size, 2, none⟩ = some (.slice a2 (s.ent k).first.length c2) := by rw [cell_of_row _ _ _ _ _ _ HRX.out]; rfl
                have p3 : X.cell? ⟨wr.heap.size, 3, none⟩ = some (.slice a3 (s.ent k).deps.length c3) := by rw [cell_of_row _ _ _ _ _ _ HRX.out]; rfl
                have p4 : X.cell? ⟨wr.heap.size, 4, none⟩ = some (.slice a4 (s.ent k).ats.length c4) := by rw [cell_of_row _ _ _ _ _ _ HRX.out]; rfl
                have p5 : X.cell? ⟨wr.heap.size, 5, none⟩ = some (.slice a5 (s.ent k).vals.length c5) := by rw [cell_of_row _ _ _ _ _ _ HRX.out]; rfl
                go_wp2_with fail
                refine (isOps_any a1 c1 (s.ent k).ops X HX1.out.2.1 HX1.out.1 HX1.out.2.2.1).mono ?_
                rintro r w1 ⟨rfl, hb1⟩
                have hw1 : Below w.heap.size w w1 := hXw.trans (hb1.mono (by omega))
                have hW1 : Below W.heap.size W w1 := hXW.trans (hb1.mono (by omega))
                have HR1 : Hid (w1.heap[wr.heap.size]? = some (.cells #[.int .i64 (s.ent k).state, .slice a1 (s.ent k).ops.length c1, .slice a2 (s.ent k).first.length c2, .slice a3 (s.ent k).deps.length c3, .slice a4 (s.ent k).ats.length c4, .slice a5 (s.ent k).vals.length c5] 37 (0, 0))) := by unfold Hid; rw [hb1.block _ (by omega)]; exact HRX.out
                have y0 : w1.cell? ⟨wr.heap.size, 0, none⟩ = some (.int .i64 (s.ent k).state) := by rw [cell_of_row _ _ _ _ _ _ HR1.out]; rfl
                have y1 : w1.cell? ⟨wr.heap.size, 1, none⟩ = some (.slice a1 (s.ent k).ops.length c1) := by rw [cell_of_row _ _ _ _ _ _ HR1.out]; rfl
                have y2 : w1.cell? ⟨wr.heap.size, 2, none⟩ = some (.slice a2 (s.ent k).first.length c2) := by rw [cell_of_row _ _ _ _ _ _ HR1.out]; rfl
                have y3 : w1.cell? ⟨wr.heap.size, 3, none⟩ = some (.slice a3 (s.ent k).deps.length c3) := by rw [cell_of_row _ _ _ _ _ _ HR1.out]; rfl
                have y4 : w1.cell? ⟨wr.heap.size, 4, none⟩ = some (.slice a4 (s.ent k).ats.length c4) := by rw [cell_of_row _ _ _ _ _ _ HR1.out]; rfl
                have y5 : w1.cell? ⟨wr.heap.size, 5, none⟩ = some (.slice a5 (s.ent k).vals.length c5) := by rw [cell_of_row _ _ _ _ _ _ HR1.out]; rfl
                have HY2 : Hid (SlInts w1 a2 c2 (s.ent k).first) := HX2.out.later hb1
                have HY3 : Hid (SlInts w1 a3 c3 (s.ent k).deps) := HX3.out.later hb1
                have HY4 : Hid (SlInts w1 a4 c4 (s.ent k).ats) := HX4.out.later hb1
                have HY5 : Hid (SlInts w1 a5 c5 (s.ent k).vals) := HX5.out.later hb1
                clear hb1 p0 p1 p2 p3 p4 p5 qX HX1 HX2 HX3 HX4 HX5 HRX
                cases t1 : goodOpsL (s.ent k).ops
                · have N : Hid (goodNB s = false) := entP_bad hlt (entP_ent (ent_bad S0.out (fun F => by have := F.ops; rw [t1] at this; cases this)))
                  go_wp2
                  go_ret
                  exact ⟨ret_bool N.out.symm, hw1⟩
                go_wp2_with fail
                refine (isRising_any a2 c2 (s.ent k).first _ HY2.out.2.1 HY2.out.1).mono ?_
                rintro r w2 ⟨rfl, hw2⟩
                rw [hw2]
                clear hw2
                cases t2 : risingFrom (-1) (s.ent k).first
                · have N : Hid (goodNB s = false) := entP_bad hlt (entP_ent (ent_bad S0.out (fun F => by have := F.first.1; rw [t2] at this; cases this)))
                  go_wp2
                  go_ret
                  exact ⟨ret_bool N.out.symm, hw1⟩
                go_wp2_with fail
                refine (isRising_any a3 c3 (s.ent k).deps _ HY3.out.2.1 HY3.out.1).mono ?_
                rintro r w2 ⟨rfl, hw2⟩
                rw [hw2]
                clear hw2
                cases t3 : risingFrom (-1) (s.ent k).deps
                · have N : Hid (goodNB s = false) := entP_bad hlt (entP_ent (ent_bad S0.out (fun F => by have := F.deps.1; rw [t3] at this; cases this)))
                  go_wp2
                  go_ret
                  exact ⟨ret_bool N.out.symm, hw1⟩
                go_wp2_with fail
                refine (ref_has a2 c2 (s.ent k).first k _ HY2.out.2.1 HY2.out.1).mono ?_
                rintro r w2 ⟨rfl, hw2⟩
                rw [hw2]
                clear hw2
                cases t4 : hasL (s.ent k).first (k : Int)
                rotate_left
                · have N : Hid (goodNB s = false) := entP_bad hlt (entP_ent (ent_bad S0.out (fun F => by have := F.first.2; rw [t4] at this; cases this)))
                  go_wp2
                  go_ret
                  exact ⟨ret_bool N.out.symm, hw1⟩
                go_wp2_with fail
                refine (ref_has a3 c3 (s.ent k).deps k _ HY3.out.2.1 HY3.out.1).mono ?_
                rintro r w2 ⟨rfl, hw2⟩
                rw [hw2]
                clear hw2
                cases t5 : hasL (s.ent k).deps (k : Int)
                rotate_left
                · have N : Hid (goodNB s = false) := entP_bad hlt (entP_ent (ent_bad S0.out (fun F => by have := F.deps.2; rw [t5] at this; cases this)))
                  go_wp2
                  go_ret
                  exact ⟨ret_bool N.out.symm, hw1⟩
                have HT : Hid ((goodOpsL (s.ent k).ops = true ∧ risingFrom (-1) (s.ent k).first = true ∧ risingFrom (-1) (s.ent k).deps = true) ∧ hasL (s.ent k).first (k : Int) = false ∧ hasL (s.ent k).deps (k : Int) = false) := ⟨⟨t1, t2, t3⟩, t4, t5⟩
                clear t1 t2 t3 t4 t5
                by_cases tl : (s.ent k).vals.length = (s.ent k).ats.length
                rotate_left
                · have dl : (((s.ent k).ats.length : Int) != ((s.ent k).vals.length : Int)) = true := by simp; omega
                  have N : Hid (goodNB s = false) := entP_bad hlt (entP_ent (ent_bad S0.out (fun F => tl F.vals)))
                  clear tl
                  go_wp2
                  go_ret
                  exact ⟨ret_bool N.out.symm, hw1⟩
                have dl : (((s.ent k).ats.length : Int) != ((s.ent k).vals.length : Int)) = false := by simp; omega
                have TL : Hid ((s.ent k).vals.length = (s.ent k).ats.length) := tl
                clear tl
                have e3 : decide ((s.ent k).state < 3) = true := by have := SLT.out; simp; omega
                by_cases s1 : (s.ent k).state = 1
                · have e1 : ((s.ent k).state == 1) = true := by simpa using s1
                  have S1 : Hid ((s.ent k).state = 1) := s1
                  clear s1
                  by_cases td : (s.ent k).deps = []
                  · have z3 : (s.ent k).deps.length = 0 := by rw [td]; rfl
                    have TD : Hid ((s.ent k).deps = []) := td
                    clear td
                    have u3 : decide (0 < (s.ent k).deps.length) = false := decide_eq_false (by omega)
                    have v3 : decide ((0 : Int) < ((s.ent k).deps.length : Int)) = false := decide_eq_false (by omega)
                    have Z3 : Hid ((s.ent k).deps.length = 0) := z3
                    clear z3
                    by_cases ta : (s.ent k).ats = []
                    rotate_left
                    · have z4 : 0 < (s.ent k).ats.length := List.length_pos_iff.2 ta
                      have u4 : decide (0 < (s.ent k).ats.length) = true := decide_eq_true (by omega)
                      have v4 : decide ((0 : Int) < ((s.ent k).ats.length : Int)) = true := decide_eq_true (by omega)
                      have N : Hid (goodNB s = false) := entP_bad hlt (entP_ent (ent_bad S0.out (fun F => ta (F.told (by have := SLT.out; omega)))))
                      clear ta z4
                      go_wp2
                      go_ret
                      exact ⟨ret_bool N.out.symm, hw1⟩
                    have z4 : (s.ent k).ats.length = 0 := by rw [ta]; rfl
                    have TA : Hid ((s.ent k).ats = []) := ta
                    clear ta
                    have u4 : decide (0 < (s.ent k).ats.length) = false := decide_eq_false (by omega)
                    have v4 : decide ((0 : Int) < ((s.ent k).ats.length : Int)) = false := decide_eq_false (by omega)
                    have Z4 : Hid ((s.ent k).ats.length = 0) := z4
                    clear z4
                    have FINE : Hid (atsFrom (-1) (s.ent k).ops.length (s.ent k).ats = true → Fine (s.ent k) k) := fun ha => ⟨by have := SLT.out; have := S0.out; omega, HT.out.1.1, ⟨HT.out.1.2.1, HT.out.2.1⟩, ⟨HT.out.1.2.2, HT.out.2.2⟩, fun _ => TD.out, fun _ => TA.out, ha, TL.out⟩
                    have HAT : Hid (IntsAt w1.heap.size w1 a4 (s.ent k).ats) := HY4.out.1
                    clear HY2 HY3 HY4 HY5
                    go_wp2_with fail
                    go_loop [8, 125] (fun l i => ∃ (j : Nat) (q : Int), j ≤ (s.ent k).ats.length ∧ i = .int .i64 j ∧ l = .int .i64 q ∧ Hid (atsFrom (-1) (s.ent k).ops.length (s.ent k).ats = atsFrom q (s.ent k).ops.length ((s.ent k).ats.drop j))) (fun _ i => (s.ent k).ats.length - (intOf i).toNat)
                    case atStart => exact ⟨0, -1, Nat.zero_le _, rfl, rfl, rfl⟩
                    case round =>
                      obtain ⟨j, l, hj, rfl, rfl, hno⟩ := hrel
                      by_cases hlj : j < (s.ent k).ats.length
                      · rcases HAT.out with e | ⟨b, off, rfl, hbb, hc⟩
                        · rw [e] at hlj; simp at hlj
                        have e0 := hc j hlj
                        obtain ⟨q, hq⟩ : ∃ q, q = (s.ent k).ats.getD j 0 := ⟨_, rfl⟩
                        rw [← hq] at e0
                        have HQ : Hid ((s.ent k).ats.getD j 0 = q) := hq.symm
                        clear hc hq
                        by_cases t1 : q ≤ l
                        · have N : Hid (goodNB s = false) := entP_bad hlt (entP_ent (ent_bad S0.out (fun F => by have := F.ats; rw [ats_no hlj HQ.out hno.out (Or.inl t1)] at this; cases this)))
                          go_wp2
                          go_ret
                          exact ⟨ret_bool N.out.symm, hw1⟩
                        · by_cases t2 : ((s.ent k).ops.length : Int) ≤ q
                          · have N : Hid (goodNB s = false) := entP_bad hlt (entP_ent (ent_bad S0.out (fun F => by have := F.ats; rw [ats_no hlj HQ.out hno.out (Or.inr t2)] at this; cases this)))
                            go_wp2
                            go_ret
                            exact ⟨ret_bool N.out.symm, hw1⟩
                          · have HNX : Hid (atsFrom (-1) (s.ent k).ops.length (s.ent k).ats = atsFrom q (s.ent k).ops.length ((s.ent k).ats.drop (j + 1))) := ats_yes hlj HQ.out hno.out t1 t2
                            go_wp2
                            go_round
                            case rel => exact ⟨j + 1, q, by omega, by go_num, rfl, HNX⟩
                            case measure => simp [intOf]; omega
                      · have HOK : Hid (entP s k = true) := entP_ok (entB_iff.2 (Or.inr (FINE.out (ats_end hlj hno.out)))) (CNT.out)
                        have Y : Hid ((List.range (k + 1)).all (entP s) = true) := range_step hall.out HOK.out
                        go_wp2
                        go_roundw
                        case rel => exact ⟨k + 1, by omega, by go_num, Y, hW1⟩
                        case measure => simp [intOf]; omega
                  · have z3 : 0 < (s.ent k).deps.length := List.length_pos_iff.2 td
                    have u3 : decide (0 < (s.ent k).deps.length) = true := decide_eq_true (by omega)
                    have v3 : decide ((0 : Int) < ((s.ent k).deps.length : Int)) = true := decide_eq_true (by omega)
                    have N : Hid (goodNB s = false) := entP_bad hlt (entP_ent (ent_bad S0.out (fun F => td (F.asked S1.out))))
                    clear td z3
                    go_wp2
                    go_ret
                    exact ⟨ret_bool N.out.symm, hw1⟩
                · have e1 : ((s.ent k).state == 1) = false := by simpa using s1
                  have S1 : Hid ((s.ent k).state ≠ 1) := s1
                  clear s1
                  by_cases ta : (s.ent k).ats = []
                  rotate_left
                  · have z4 : 0 < (s.ent k).ats.length := List.length_pos_iff.2 ta
                    have u4 : decide (0 < (s.ent k).ats.length) = true := decide_eq_true (by omega)
                    have v4 : decide ((0 : Int) < ((s.ent k).ats.length : Int)) = true := decide_eq_true (by omega)
                    have N : Hid (goodNB s = false) := entP_bad hlt (entP_ent (ent_bad S0.out (fun F => ta (F.told (by have := SLT.out; omega)))))
                    clear ta z4
                    go_wp2
                    go_ret
                    exact ⟨ret_bool N.out.symm, hw1⟩
                  have z4 : (s.ent k).ats.length = 0 := by rw [ta]; rfl
                  have TA : Hid ((s.ent k).ats = []) := ta
                  clear ta
                  have u4 : decide (0 < (s.ent k).ats.length) = false := decide_eq_false (by omega)
                  have v4 : decide ((0 : Int) < ((s.ent k).ats.length : Int)) = false := decide_eq_false (by omega)
                  have Z4 : Hid ((s.ent k).ats.length = 0) := z4
                  clear z4
                  have FINE : Hid (atsFrom (-1) (s.ent k).ops.length (s.ent k).ats = true → Fine (s.ent k) k) := fun ha => ⟨by have := SLT.out; have := S0.out; omega, HT.out.1.1, ⟨HT.out.1.2.1, HT.out.2.1⟩, ⟨HT.out.1.2.2, HT.out.2.2⟩, fun e => absurd e S1.out, fun _ => TA.out, ha, TL.out⟩
                  have HAT : Hid (IntsAt w1.heap.size w1 a4 (s.ent k).ats) := HY4.out.1
                  clear HY2 HY3 HY4 HY5
                  go_wp2_with fail
                  go_loop [8, 125] (fun l i => ∃ (j : Nat) (q : Int), j ≤ (s.ent k).ats.length ∧ i = .int .i64 j ∧ l = .int .i64 q ∧ Hid (atsFrom (-1) (s.ent k).ops.length (s.ent k).ats = atsFrom q (s.ent k).ops.length ((s.ent k).ats.drop j))) (fun _ i => (s.ent k).ats.length - (intOf i).toNat)
                  case atStart => exact ⟨0, -1, Nat.zero_le _, rfl, rfl, rfl⟩
                  case round =>
                    obtain ⟨j, l, hj, rfl, rfl, hno⟩ := hrel
                    by_cases hlj : j < (s.ent k).ats.length
                    · rcases HAT.out with e | ⟨b, off, rfl, hbb, hc⟩
                      · rw [e] at hlj; simp at hlj
                      have e0 := hc j hlj
                      obtain ⟨q, hq⟩ : ∃ q, q = (s.ent k).ats.getD j 0 := ⟨_, rfl⟩
                      rw [← hq] at e0
                      have HQ : Hid ((s.ent k).ats.getD j 0 = q) := hq.symm
                      clear hc hq
                      by_cases t1 : q ≤ l
                      · have N : Hid (goodNB s = false) := entP_bad hlt (entP_ent (ent_bad S0.out (fun F => by have := F.ats; rw [ats_no hlj HQ.out hno.out (Or.inl t1)] at this; cases this)))
                        go_wp2
                        go_ret
                        exact ⟨ret_bool N.out.symm, hw1⟩
                      · by_cases t2 : ((s.ent k).ops.length : Int) ≤ q
                        · have N : Hid (goodNB s = false) := entP_bad hlt (entP_ent (ent_bad S0.out (fun F => by have := F.ats; rw [ats_no hlj HQ.out hno.out (Or.inr t2)] at this; cases this)))
                          go_wp2
                          go_ret
                          exact ⟨ret_bool N.out.symm, hw1⟩
                        · have HNX : Hid (atsFrom (-1) (s.ent k).ops.length (s.ent k).ats = atsFrom q (s.ent k).ops.length ((s.ent k).ats.drop (j + 1))) := ats_yes hlj HQ.out hno.out t1 t2
                          go_wp2
                          go_round
                          case rel => exact ⟨j + 1, q, by omega, by go_num, rfl, HNX⟩
                          case measure => simp [intOf]; omega
                    · have HOK : Hid (entP s k = true) := entP_ok (entB_iff.2 (Or.inr (FINE.out (ats_end hlj hno.out)))) (CNT.out)
                      have Y : Hid ((List.range (k + 1)).all (entP s) = true) := range_step hall.out HOK.out
                      go_wp2
                      go_roundw
                      case rel => exact ⟨k + 1, by omega, by go_num, Y, hW1⟩
                      case measure => simp [intOf]; omega
            · have m1 : (ci != 0) = true := by simpa using tc
              have N : Hid (goodNB s = false) := entP_bad hlt (entP_cnt (by rw [if_neg SN3.out, HCN.out]; have := HCI.out; omega))
              clear tc s3 g0 g3
              go_wp2
              go_ret
              exact ⟨ret_bool N.out.symm, hXw⟩
    · have HALL : Hid (goodNB s = s.order.all fun x => decide (0 ≤ x ∧ x < 32)) := by
        have e : k = 32 := by omega
        have := hall.out
        rw [e] at this
        unfold Hid; rw [goodNB_def, this]; rfl
      go_wp2_with fail
      go_loop [145] (fun i => ∃ j : Nat, j ≤ s.order.length ∧ i = .int .i64 j ∧ Hid (∀ x ∈ s.order.take j, 0 ≤ x ∧ x < 32)) (fun i => s.order.length - (intOf i).toNat)
      case atStart => exact ⟨0, Nat.zero_le _, rfl, fun x hx => by simp at hx⟩
      case round =>
        obtain ⟨j, hj, rfl, hin⟩ := hrel
        by_cases hlj : j < s.order.length
        · rcases HOr.out with e | ⟨b, off, rfl, hbb, hc⟩
          · rw [e] at hlj; simp at hlj
          have e0 := hc j hlj
          obtain ⟨q, hq⟩ : ∃ q, q = s.order.getD j 0 := ⟨_, rfl⟩
          rw [← hq] at e0
          have HQ : Hid (s.order.getD j 0 = q) := hq.symm
          have HM : Hid (q ∈ s.order) := by
            unfold Hid
            rw [hq]
            simp only [List.getD, List.getElem?_eq_getElem hlj, Option.getD_some]
            exact List.getElem_mem hlj
          clear hc hq
          go_wp2_with fail
          refine (isTxn_any q _).mono ?_
          rintro r w2 ⟨rfl, hw2⟩
          rw [hw2]
          clear hw2
          cases t1 : txnB q
          · have N : Hid (goodNB s = false) := by
              unfold Hid
              rw [HALL.out]
              refine List.all_eq_false.2 ⟨q, HM.out, ?_⟩
              intro hd
              have hd := of_decide_eq_true hd
              have : txnB q = true := by unfold txnB; simp; omega
              rw [t1] at this
              cases this
            go_wp2
            go_ret
            exact ⟨ret_bool N.out.symm, hbw⟩
          · have Y : Hid (∀ x ∈ s.order.take (j + 1), 0 ≤ x ∧ x < 32) := by
              intro x hx
              rw [List.take_succ_eq_append_getElem hlj] at hx
              rcases List.mem_append.1 hx with hx | hx
              · exact hin.out x hx
              · have e : s.order[j] = q := by rw [← HQ.out]; simp [List.getD, hlj]
                simp at hx
                rw [hx, e]
                unfold txnB at t1
                simp at t1
                omega
            go_wp2
            go_round
            case rel => exact ⟨j + 1, by omega, by go_num, Y⟩
            case measure => simp [intOf]; omega
        · obtain rfl : j = s.order.length := by omega
          have N : Hid (goodNB s = true) := by
            unfold Hid
            rw [HALL.out]
            refine List.all_eq_true.2 fun x hx => decide_eq_true (hin.out x ?_)
            rw [List.take_length]; exact hx
          go_wp2
          go_ret
          exact ⟨ret_bool N.out.symm, hbw⟩

end Go.Proofs.Ytkoefoccbjhoiab

namespace Go.Proofs.Ytkoefoccbjhoiab
open Go.RowKit

theorem way_conflict (a b : List OpL) (s : Int) : wayL a b s = conflictL a b s := by
  unfold wayL conflictL
  congr 1
  funext x
  unfold conflictB meetsL
  rw [Bool.eq_iff_iff, List.any_eq_true, Bool.and_eq_true, List.any_eq_true]
  unfold wayB meetB
  simp only [Bool.and_eq_true, beq_iff_eq, Bool.not_eq_true', Bool.or_eq_true, bne_iff_ne, ne_eq, Bool.and_eq_false_iff, beq_eq_false_iff_ne]
  constructor
  · rintro ⟨y, hy, ⟨h1, h2⟩, h3⟩
    exact ⟨h2, y, hy, h1, h3⟩
  · rintro ⟨h2, y, hy, h1, h3⟩
    exact ⟨y, hy, ⟨h1, h2⟩, h3⟩

end Go.Proofs.Ytkoefoccbjhoiab
