/-
  The contracts of the document's own SameEntry and SameNode.
  The contract of the document's own IsOps.
-/
import Derived.Test.YtgdkjjmnoikhdabRep24
import Derived.Test.YtgdkjjmnoikhdabRep7
namespace Go.Proofs.Ytgdkjjmnoikhdab
open Go.RowKit

set_option maxRecDepth 100000 in
set_option maxHeartbeats 1000000 in
theorem ref_sameEntry (v v' : Value) (e : EntryL) (w : World) (h : EntV w v e) (h' : EntV w v' e) :
    Calls Try.prog 55 #[v, v'] w fun r w' => r = .returned (.bool true) ∧ Below w.heap.size w w' := by
  obtain ⟨a1, c1, a2, c2, a3, c3, a4, c4, a5, c5, rfl, x1, x2, x3, x4, x5, _⟩ := h
  obtain ⟨a1', c1', a2', c2', a3', c3', a4', c4', a5', c5', rfl, y1, y2, y3, y4, y5, _⟩ := h'
  obtain ⟨W, hW⟩ : ∃ W, W = (w.alloc (.cells #[.int .i64 e.state, .slice a1 e.ops.length c1, .slice a2 e.first.length c2, .slice a3 e.deps.length c3, .slice a4 e.ats.length c4, .slice a5 e.vals.length c5] 37)).alloc (.cells #[.int .i64 e.state, .slice a1' e.ops.length c1', .slice a2' e.first.length c2', .slice a3' e.deps.length c3', .slice a4' e.ats.length c4', .slice a5' e.vals.length c5'] 37) := ⟨_, rfl⟩
  obtain ⟨r0, r1⟩ := two_rows w (.cells #[.int .i64 e.state, .slice a1 e.ops.length c1, .slice a2 e.first.length c2, .slice a3 e.deps.length c3, .slice a4 e.ats.length c4, .slice a5 e.vals.length c5] 37) (.cells #[.int .i64 e.state, .slice a1' e.ops.length c1', .slice a2' e.first.length c2', .slice a3' e.deps.length c3', .slice a4' e.ats.length c4', .slice a5' e.vals.length c5'] 37)
  rw [← hW] at r0 r1
  have hb : Below w.heap.size w W := by rw [hW]; exact ((Below.refl _ _).alloc (Nat.le_refl _) _).alloc (by rw [size_push]; omega) _
  have hzW : W.heap.size = w.heap.size + 2 := by rw [hW, size_push, size_push]
  have es : (e.state == e.state) = true := by simp
  have HW : Hid (W = (w.alloc (.cells #[.int .i64 e.state, .slice a1 e.ops.length c1, .slice a2 e.first.length c2, .slice a3 e.deps.length c3, .slice a4 e.ats.length c4, .slice a5 e.vals.length c5] 37)).alloc (.cells #[.int .i64 e.state, .slice a1' e.ops.length c1', .slice a2' e.first.length c2', .slice a3' e.deps.length c3', .slice a4' e.ats.length c4', .slice a5' e.vals.length c5'] 37)) := hW
  have KC : Hid (∀ wx, Below W.heap.size W wx → (wx.heap[w.heap.size]? = some (.cells #[.int .i64 e.state, .slice a1 e.ops.length c1, .slice a2 e.first.length c2, .slice a3 e.deps.length c3, .slice a4 e.ats.length c4, .slice a5 e.vals.length c5] 37 (0, 0)) ∧ wx.heap[w.heap.size + 1]? = some (.cells #[.int .i64 e.state, .slice a1' e.ops.length c1', .slice a2' e.first.length c2', .slice a3' e.deps.length c3', .slice a4' e.ats.length c4', .slice a5' e.vals.length c5'] 37 (0, 0)))) := fun wx hx => ⟨by rw [hx.block _ (by omega)]; exact r0, by rw [hx.block _ (by omega)]; exact r1⟩
  clear hW r0 r1
  go_enter Try.func55, Try.ntmps55
  go_upto_region 1 with fail
  rw [← HW.out]
  clear HW
  obtain ⟨r0, r1⟩ := KC.out W (Below.refl _ _)
  have p0 : W.cell? ⟨w.heap.size, 0, none⟩ = some (.int .i64 e.state) := by rw [cell_of_row _ _ _ _ _ _ r0]; rfl
  have p1 : W.cell? ⟨w.heap.size + 1, 0, none⟩ = some (.int .i64 e.state) := by rw [cell_of_row _ _ _ _ _ _ r1]; rfl
  have q1 : W.cell? ⟨w.heap.size, 1, none⟩ = some (.slice a1 e.ops.length c1) := by rw [cell_of_row _ _ _ _ _ _ r0]; rfl
  have z1 : W.cell? ⟨w.heap.size + 1, 1, none⟩ = some (.slice a1' e.ops.length c1') := by rw [cell_of_row _ _ _ _ _ _ r1]; rfl
  clear r0 r1
  go_wp2_with fail
  refine (ref_sameOps_any a1 c1 e.ops a1' c1' W x1.2.1 (x1.later hb).1 (y1.later hb).1).mono ?_
  rintro r w1 ⟨rfl, hx1⟩
  have hb1 : Below W.heap.size W w1 := hx1
  have hw1 : Below w.heap.size w w1 := hb.trans (hb1.mono (by omega))
  obtain ⟨r0, r1⟩ := KC.out w1 hb1
  clear hx1 q1 z1
  have q2 : w1.cell? ⟨w.heap.size, 2, none⟩ = some (.slice a2 e.first.length c2) := by rw [cell_of_row _ _ _ _ _ _ r0]; rfl
  have z2 : w1.cell? ⟨w.heap.size + 1, 2, none⟩ = some (.slice a2' e.first.length c2') := by rw [cell_of_row _ _ _ _ _ _ r1]; rfl
  clear r0 r1
  go_wp2_with fail
  refine (sameNumbers_any a2 c2 e.first a2' c2' w1 x2.2.1 (x2.later hw1).1 (y2.later hw1).1).mono ?_
  rintro r w2 ⟨rfl, hx2⟩
  have hb2 : Below W.heap.size W w2 := hb1.trans (hx2.mono hb1.size)
  have hw2 : Below w.heap.size w w2 := hb.trans (hb2.mono (by omega))
  obtain ⟨r0, r1⟩ := KC.out w2 hb2
  clear hx2 q2 z2
  have q3 : w2.cell? ⟨w.heap.size, 3, none⟩ = some (.slice a3 e.deps.length c3) := by rw [cell_of_row _ _ _ _ _ _ r0]; rfl
  have z3 : w2.cell? ⟨w.heap.size + 1, 3, none⟩ = some (.slice a3' e.deps.length c3') := by rw [cell_of_row _ _ _ _ _ _ r1]; rfl
  clear r0 r1
  go_wp2_with fail
  refine (sameNumbers_any a3 c3 e.deps a3' c3' w2 x3.2.1 (x3.later hw2).1 (y3.later hw2).1).mono ?_
  rintro r w3 ⟨rfl, hx3⟩
  have hb3 : Below W.heap.size W w3 := hb2.trans (hx3.mono hb2.size)
  have hw3 : Below w.heap.size w w3 := hb.trans (hb3.mono (by omega))
  obtain ⟨r0, r1⟩ := KC.out w3 hb3
  clear hx3 q3 z3
  have q4 : w3.cell? ⟨w.heap.size, 4, none⟩ = some (.slice a4 e.ats.length c4) := by rw [cell_of_row _ _ _ _ _ _ r0]; rfl
  have z4 : w3.cell? ⟨w.heap.size + 1, 4, none⟩ = some (.slice a4' e.ats.length c4') := by rw [cell_of_row _ _ _ _ _ _ r1]; rfl
  clear r0 r1
  go_wp2_with fail
  refine (sameNumbers_any a4 c4 e.ats a4' c4' w3 x4.2.1 (x4.later hw3).1 (y4.later hw3).1).mono ?_
  rintro r w4 ⟨rfl, hx4⟩
  have hb4 : Below W.heap.size W w4 := hb3.trans (hx4.mono hb3.size)
  have hw4 : Below w.heap.size w w4 := hb.trans (hb4.mono (by omega))
  obtain ⟨r0, r1⟩ := KC.out w4 hb4
  clear hx4 q4 z4
  have q5 : w4.cell? ⟨w.heap.size, 5, none⟩ = some (.slice a5 e.vals.length c5) := by rw [cell_of_row _ _ _ _ _ _ r0]; rfl
  have z5 : w4.cell? ⟨w.heap.size + 1, 5, none⟩ = some (.slice a5' e.vals.length c5') := by rw [cell_of_row _ _ _ _ _ _ r1]; rfl
  clear r0 r1
  go_wp2_with fail
  refine (sameNumbers_any a5 c5 e.vals a5' c5' w4 x5.2.1 (x5.later hw4).1 (y5.later hw4).1).mono ?_
  rintro r w5 ⟨rfl, hx5⟩
  have hb5 : Below W.heap.size W w5 := hb4.trans (hx5.mono hb4.size)
  have hw5 : Below w.heap.size w w5 := hb.trans (hb5.mono (by omega))
  obtain ⟨r0, r1⟩ := KC.out w5 hb5
  clear hx5 q5 z5
  clear r0 r1
  go_wp2
  go_ret
  exact ⟨rfl, hw5⟩

set_option maxRecDepth 100000 in
set_option maxHeartbeats 1000000 in
theorem ref_sameNode (nv nv' : Nat → Value) (s : NodeL) (w : World) (h : NodeC (· < w.heap.size) w nv s) (h' : NodeC (· < w.heap.size) w nv' s) :
    Calls Try.prog 22 #[.agg (rowF 201 nv), .agg (rowF 201 nv')] w fun r w' => r = .returned (.bool true) ∧ Below w.heap.size w w' := by
  obtain ⟨ga, hga⟩ : ∃ ga, ga = rowF 201 nv := ⟨_, rfl⟩
  obtain ⟨gb, hgb⟩ : ∃ gb, gb = rowF 201 nv' := ⟨_, rfl⟩
  rw [← hga, ← hgb]
  obtain ⟨W, hW⟩ : ∃ W, W = (w.alloc (.cells ga 41)).alloc (.cells gb 41) := ⟨_, rfl⟩
  obtain ⟨r0, r1⟩ := two_rows w (.cells ga 41) (.cells gb 41)
  rw [← hW] at r0 r1
  have hb : Below w.heap.size w W := by rw [hW]; exact ((Below.refl _ _).alloc (Nat.le_refl _) _).alloc (by rw [size_push]; omega) _
  have hzW : W.heap.size = w.heap.size + 2 := by rw [hW, size_push, size_push]
  have HBa : Hid (BlkAt 201 W w.heap.size nv) := ⟨_, by rw [← hga]; exact r0⟩
  have HBb : Hid (BlkAt 201 W (w.heap.size + 1) nv') := ⟨_, by rw [← hgb]; exact r1⟩
  have HN : Hid (NodeC (· < w.heap.size) w nv s) := h
  have HN' : Hid (NodeC (· < w.heap.size) w nv' s) := h'
  have HW : Hid (W = (w.alloc (.cells ga 41)).alloc (.cells gb 41)) := hW
  clear hW r0 r1 h h' hga hgb
  go_enter Try.func22, Try.ntmps22
  go_upto_region 1 with fail
  rw [← HW.out]
  clear HW
  go_wp2_with fail
  go_loopw [6] (fun i wr => ∃ k : Nat, k ≤ 32 ∧ i = .int .i64 k ∧ Below W.heap.size W wr) (fun i _ => 32 - (intOf i).toNat)
  case atStart => exact ⟨0, Nat.zero_le _, rfl, Below.refl _ _⟩
  case round =>
    obtain ⟨k, hk, rfl, hB⟩ := hrel
    have hbw : Below w.heap.size w wr := hb.trans (hB.mono (by omega))
    have hsz := hB.size
    have HBar : Hid (BlkAt 201 wr w.heap.size nv) := HBa.out.later hB (by omega)
    have HBbr : Hid (BlkAt 201 wr (w.heap.size + 1) nv') := HBb.out.later hB (by omega)
    by_cases hlt : k < 32
    · have n1 : (0 : Int) ≤ (k : Int) ∧ (k : Int) < 32 := by omega
      obtain ⟨ca, hca⟩ : ∃ ca, ca = (sixV nv (k * 6)).toList := ⟨_, rfl⟩
      obtain ⟨cb, hcb⟩ : ∃ cb, cb = (sixV nv' (k * 6)).toList := ⟨_, rfl⟩
      have ra : wr.rangeAt w.heap.size (k * 6) ca := by
        rw [hca]
        exact BlkAt.range HBar.out (o := k * 6) (n := 6) (by omega)
      have rb : wr.rangeAt (w.heap.size + 1) (k * 6) cb := by
        rw [hcb]
        exact BlkAt.range HBbr.out (o := k * 6) (n := 6) (by omega)
      have hsa : (Try.prog.info? 37).map (·.size) = some ca.length := by rw [hca]; exact Try.infoEntry
      have hsb : (Try.prog.info? 37).map (·.size) = some cb.length := by rw [hcb]; exact Try.infoEntry
      have HVa : Hid (EntV w (.agg ca.toArray) (s.ent k)) := by rw [hca]; exact (HN.out.es.ent k hlt).v
      have HVb : Hid (EntV w (.agg cb.toArray) (s.ent k)) := by rw [hcb]; exact (HN'.out.es.ent k hlt).v
      clear hca hcb
      go_wp2_with fail
      have HRa : Hid (∀ wx, Below wr.heap.size wr wx → wx.rangeAt w.heap.size (k * 6) ca) := fun wx hx => range_later ra hx (by omega)
      have HRb : Hid (∀ wx, Below wr.heap.size wr wx → wx.rangeAt (w.heap.size + 1) (k * 6) cb) := fun wx hx => range_later rb hx (by omega)
      clear ra rb
      refine wp_region_held_drew (S := fun w' => Below wr.heap.size wr w') (by kernel_rfl) ((Below.refl _ _).drew) ?_
      intro hH
      refine wpAnyH_takeD (i := 0) (d := some 9) (v := .int .i64 k) rfl rfl (by kernel_rfl) (by kernel_rfl) (by kernel_rfl) (fun _ _ _ h => h) (Or.inl ⟨by rfl, fun _ _ => by go_simp⟩) hH ?_
      simp only [Act.put, List.setIfInBounds_toArray, List.set_cons_zero, List.set_cons_succ]
      refine wpAnyH_takeD (i := 1) (d := some 10) (v := .pointer (some ⟨w.heap.size, 0, none⟩)) rfl rfl (by kernel_rfl) (by kernel_rfl) (by kernel_rfl) (fun _ _ _ h => h) (Or.inl ⟨by rfl, fun _ _ => by go_simp⟩) hH ?_
      simp only [Act.put, List.setIfInBounds_toArray, List.set_cons_zero, List.set_cons_succ]
      refine wpAnyH_takeD (i := 2) (d := some 11) (v := .pointer (some ⟨w.heap.size, k * 6, none⟩)) rfl rfl (by kernel_rfl) (by kernel_rfl) (by kernel_rfl) (fun _ _ _ h => h) (Or.inl ⟨by rfl, fun _ _ => by go_simp⟩) hH ?_
      simp only [Act.put, List.setIfInBounds_toArray, List.set_cons_zero, List.set_cons_succ]
      refine wpAnyH_takeD (i := 3) (d := some 12) (v := .agg ca.toArray) rfl rfl (by kernel_rfl) (by kernel_rfl) (by kernel_rfl) (fun _ _ _ h => h) (yieldsIf_load_mid (by rfl) _ _ rfl _ _ rfl ca _ (HRa.out) Try.underlying37 rfl hsa) hH ?_
      simp only [Act.put, List.setIfInBounds_toArray, List.set_cons_zero, List.set_cons_succ]
      refine wpAnyH_takeD (i := 4) (d := some 13) (v := .int .i64 k) rfl rfl (by kernel_rfl) (by kernel_rfl) (by kernel_rfl) (fun _ _ _ h => h) (Or.inl ⟨by rfl, fun _ _ => by go_simp⟩) hH ?_
      simp only [Act.put, List.setIfInBounds_toArray, List.set_cons_zero, List.set_cons_succ]
      refine wpAnyH_takeD (i := 5) (d := some 14) (v := .pointer (some ⟨w.heap.size + 1, 0, none⟩)) rfl rfl (by kernel_rfl) (by kernel_rfl) (by kernel_rfl) (fun _ _ _ h => h) (Or.inl ⟨by rfl, fun _ _ => by go_simp⟩) hH ?_
      simp only [Act.put, List.setIfInBounds_toArray, List.set_cons_zero, List.set_cons_succ]
      refine wpAnyH_takeD (i := 6) (d := some 15) (v := .pointer (some ⟨w.heap.size + 1, k * 6, none⟩)) rfl rfl (by kernel_rfl) (by kernel_rfl) (by kernel_rfl) (fun _ _ _ h => h) (Or.inl ⟨by rfl, fun _ _ => by go_simp⟩) hH ?_
      simp only [Act.put, List.setIfInBounds_toArray, List.set_cons_zero, List.set_cons_succ]
      refine wpAnyH_takeD (i := 7) (d := some 16) (v := .agg cb.toArray) rfl rfl (by kernel_rfl) (by kernel_rfl) (by kernel_rfl) (fun _ _ _ h => h) (yieldsIf_load_mid (by rfl) _ _ rfl _ _ rfl cb _ (HRb.out) Try.underlying37 rfl hsb) hH ?_
      simp only [Act.put, List.setIfInBounds_toArray, List.set_cons_zero, List.set_cons_succ]
      refine wpAnyH_ready (rs := [8]) (by kernel_rfl) (by simp) ?_
      refine AllReadyH.cons rfl (fun K hK => ?_) AllReadyH.nil
      go_simp
      refine (ref_sameEntry _ _ (s.ent k) _ (HVa.out.later (hbw.drew)) (HVb.out.later (hbw.drew))).mono ?_
      rintro r x2 ⟨rfl, hb2⟩
      go_wp2_with fail
      refine hK.out _ _ (hH.trans hb2) (fun hH2 => ?_)
      clear hK K hH
      have hH := hH2
      clear hH2 hb2
      refine wpAnyH_takeD (i := 9) (d := some 18) (v := .bool false) rfl rfl (by kernel_rfl) (by kernel_rfl) (by kernel_rfl) (fun _ _ _ h => h) (Or.inl ⟨by rfl, fun _ _ => by go_simp⟩) hH ?_
      simp only [Act.put, List.setIfInBounds_toArray, List.set_cons_zero, List.set_cons_succ]
      refine wpAnyH_done (by kernel_rfl) ?_ _
      have hB2 : Below W.heap.size W x2 := hB.trans (hH.mono (by omega))
      clear hH
      go_wp2
      go_roundw
      case rel => exact ⟨k + 1, by omega, by go_num, hB2⟩
      case measure => simp [intOf]; omega
    · obtain ⟨ao, co, eo, ho⟩ := HN.out.order.sl
      obtain ⟨ap, cp, ep, hp⟩ := HN'.out.order.sl
      have q0 : wr.cell? ⟨w.heap.size, 192, none⟩ = some (.slice ao s.order.length co) := by rw [HBar.out.cell (by omega), eo]
      have q1 : wr.cell? ⟨w.heap.size + 1, 192, none⟩ = some (.slice ap s.order.length cp) := by rw [HBbr.out.cell (by omega), ep]
      clear eo ep
      go_wp2_with fail
      refine (sameNumbers_any ao co s.order ap cp wr ho.2.1 (ho.later hbw).1 (hp.later hbw).1).mono ?_
      rintro r x1 ⟨rfl, hb1⟩
      have hbx : Below w.heap.size w x1 := hbw.trans (hb1.mono (by omega))
      obtain ⟨vr, hvr⟩ : ∃ vr, vr = (rowF 8 fun i => .int .i64 (s.vals i)).toList := ⟨_, rfl⟩
      have ra : x1.rangeAt w.heap.size 193 vr := by
        rw [hvr]
        refine range_later (w := wr) ?_ hb1 (by omega)
        have := BlkAt.range HBar.out (o := 193) (n := 8) (by omega)
        have e : (List.range 8).map (fun i => nv (193 + i)) = (rowF 8 fun i => .int .i64 (s.vals i)).toList := by
          unfold rowF
          exact List.map_congr_left fun i hi => HN.out.es.vals i (List.mem_range.1 hi)
        rw [← e]; exact this
      have rb : x1.rangeAt (w.heap.size + 1) 193 vr := by
        rw [hvr]
        refine range_later (w := wr) ?_ hb1 (by omega)
        have := BlkAt.range HBbr.out (o := 193) (n := 8) (by omega)
        have e : (List.range 8).map (fun i => nv' (193 + i)) = (rowF 8 fun i => .int .i64 (s.vals i)).toList := by
          unfold rowF
          exact List.map_congr_left fun i hi => HN'.out.es.vals i (List.mem_range.1 hi)
        rw [← e]; exact this
      have hsv : (Try.prog.info? 39).map (·.size) = some vr.length := by rw [hvr, rowF_toList]; exact Try.infoVals
      have hg := Try.valsGuard
      have he := fun w => run_equalIn_row 9998 Try.underlying39 Try.underlying3 Try.infoInt1 s.vals w
      have hva : vr.toArray = rowF 8 fun i => .int .i64 (s.vals i) := by rw [hvr]
      rw [← hva] at he
      clear hvr hva hb1 q0 q1
      go_wp2_with (first
        | (refine wpList_wanted (by rfl) fun K hK => ?_; refine wp_load_mid 39 _ rfl w.heap.size 193 rfl vr _ ra Try.underlying39 rfl hsv ?_; refine hK _ _ ?_)
        | (refine wpList_wanted (by rfl) fun K hK => ?_; refine wp_load_mid 39 _ rfl (w.heap.size + 1) 193 rfl vr _ rb Try.underlying39 rfl hsv ?_; refine hK _ _ ?_))
      go_ret
      exact ⟨rfl, hbx⟩

end Go.Proofs.Ytgdkjjmnoikhdab

namespace Go.Proofs.Ytgdkjjmnoikhdab
open Go.RowKit

theorem isops_bad {zs : List OpL} {k : Nat} {q0 q1 q2 : Int} (hk : k < zs.length) (hq : zs.getD k (0, 0, 0) = (q0, q1, q2)) (h : goodB (q0, q1, q2) = false) : goodOpsL zs = false := by
  unfold goodOpsL
  rw [range_miss hk (goodAt_no1 hq h), Bool.and_false]
theorem isops_twice {zs : List OpL} {k j : Nat} {q0 q1 q2 p0 p1 p2 : Int} (hk : k < zs.length) (hq : zs.getD k (0, 0, 0) = (q0, q1, q2)) (hj : j < k) (hp : zs.getD j (0, 0, 0) = (p0, p1, p2)) (h : (p1 == q1) = true) : goodOpsL zs = false := by
  have : goodAt zs k = false := by
    unfold goodAt
    rw [hq]
    have : (zs.take k).any (keyB q1) = true := by
      refine List.any_eq_true.2 ⟨(p0, p1, p2), ?_, h⟩
      have hg : zs[j]'(by omega) = (p0, p1, p2) := by rw [← hp]; simp [List.getD, show j < zs.length by omega]
      rw [← hg]
      exact List.mem_take_iff_getElem.2 ⟨j, by omega, rfl⟩
    simp [this]
  unfold goodOpsL
  rw [range_miss hk this, Bool.and_false]

theorem goodB_no {q0 q1 q2 : Int} (h : goodB (q0, q1, q2) = false) (c1 : ¬ q0 < 1) (c2 : ¬ 3 < q0) (c3 : ¬ q1 < 0) (c4 : ¬ 7 < q1) (c5 : ¬ 1099511627776 < q2) (c6 : ¬ q2 < -1099511627776) : (q0 == 1) = true ∧ (q2 != 0) = true := by
  have D := of_decide_eq_false h
  simp only at D
  have e : q0 = 1 := by omega
  have e2 : q2 ≠ 0 := by omega
  simp [e, e2]
theorem goodB_yes {q0 q1 q2 : Int} (h : goodB (q0, q1, q2) = true) : ¬ q0 < 1 ∧ ¬ 3 < q0 ∧ ¬ q1 < 0 ∧ ¬ 7 < q1 ∧ ¬ 1099511627776 < q2 ∧ ¬ q2 < -1099511627776 ∧ ((q0 == 1) = true ∧ (q2 != 0) = false ∨ (q0 == 1) = false) := by
  have D := of_decide_eq_true h
  simp only at D
  refine ⟨by omega, by omega, by omega, by omega, by omega, by omega, ?_⟩
  by_cases e : q0 = 1
  · have e2 : q2 = 0 := by omega
    left; simp [e, e2]
  · right; simpa using e
theorem isops_end {zs : List OpL} {k : Nat} (hk : ¬ k < zs.length) (hk' : k ≤ zs.length) (h : (List.range k).all (goodAt zs) = true) : goodOpsL zs = decide (1 ≤ zs.length ∧ zs.length ≤ 4) := by
  have : k = zs.length := by omega
  subst this
  unfold goodOpsL
  rw [h, Bool.and_true]
theorem isops_next {zs : List OpL} {k j : Nat} {q0 q1 q2 : Int} (hq : zs.getD k (0, 0, 0) = (q0, q1, q2)) (h : goodB (q0, q1, q2) = true) (hj : ¬ j < k) (hj' : j ≤ k) (hn : (zs.take j).any (keyB q1) = false) (hall : (List.range k).all (goodAt zs) = true) : (List.range (k + 1)).all (goodAt zs) = true := by
  have : j = k := by omega
  subst this
  refine range_step hall ?_
  unfold goodAt
  rw [hq]
  simp only [h, hn, Bool.not_false, Bool.and_true]

set_option maxRecDepth 100000 in
set_option maxHeartbeats 1000000 in
theorem isOps_any (a : Option Addr) (cap : Nat) (zs : List OpL) (w : World) (hl : zs.length ≤ maxLen) (hz : OpsAt w a zs) (hcap : zs.length ≤ cap) :
    Calls Try.prog 58 #[.slice a zs.length cap] w fun e w' => e = .returned (.bool (goodOpsL zs)) ∧ Below w.heap.size w w' := by
  unfold maxLen at hl
  rcases hz with rfl | ⟨b, off, rfl, hb, hc⟩
  · go_enter Try.func58, Try.ntmps58
    go_wp2
    refine wp_loop_rounds 1 ?_; rw [rounds_succ]
    go_wp2
    go_ret
    exact ⟨rfl, Below.refl _ _⟩
  go_enter Try.func58, Try.ntmps58
  go_wp2
  go_loopw [9] (fun i wr => ∃ k : Nat, k ≤ zs.length ∧ i = .int .i64 k ∧ Hid ((List.range k).all (goodAt zs) = true) ∧ Below w.heap.size w wr) (fun i _ => zs.length - (intOf i).toNat)
  case atStart => exact ⟨0, Nat.zero_le _, rfl, rfl, Below.refl _ _⟩
  case round =>
    obtain ⟨wo, hwo⟩ : ∃ wo, wo = wr := ⟨_, rfl⟩
    subst hwo
    obtain ⟨k, hk, rfl, hall, hBw⟩ := hrel
    have hsz := hBw.size
    by_cases hlt : k < zs.length
    · obtain ⟨q0, q1, q2, Hq, e0, e1, e2⟩ := OpsAt.at hc hb hBw hlt
      cases tg : goodB (q0, q1, q2)
      · have N : Hid (goodOpsL zs = false) := isops_bad hlt Hq.out tg
        clear hc
        by_cases c1 : q0 < 1
        · go_wp2
          go_ret
          exact ⟨ret_bool N.out.symm, hBw.alloc hsz _⟩
        by_cases c2 : 3 < q0
        · go_wp2
          go_ret
          exact ⟨ret_bool N.out.symm, hBw.alloc hsz _⟩
        by_cases c3 : q1 < 0
        · go_wp2
          go_ret
          exact ⟨ret_bool N.out.symm, hBw.alloc hsz _⟩
        by_cases c4 : 7 < q1
        · go_wp2
          go_ret
          exact ⟨ret_bool N.out.symm, hBw.alloc hsz _⟩
        by_cases c5 : 1099511627776 < q2
        · go_wp2
          go_ret
          exact ⟨ret_bool N.out.symm, hBw.alloc hsz _⟩
        by_cases c6 : q2 < -1099511627776
        · go_wp2
          go_ret
          exact ⟨ret_bool N.out.symm, hBw.alloc hsz _⟩
        obtain ⟨c7, c8⟩ := goodB_no tg c1 c2 c3 c4 c5 c6
        go_wp2
        go_ret
        exact ⟨ret_bool N.out.symm, hBw.alloc hsz _⟩
      · obtain ⟨c1, c2, c3, c4, c5, c6, c7⟩ := goodB_yes tg
        have hw : Below w.heap.size w (wo.alloc (.cells #[.int .i64 q0, .int .i64 q1, .int .i64 q2] 88)) := hBw.alloc hsz _
        have TG : Hid (goodB (q0, q1, q2) = true) := tg
        have HC : Hid (∀ i, i < zs.length → w.cell? ⟨b, off + i * 3, none⟩ = some (.int .i64 (zs.getD i (0, 0, 0)).1) ∧ w.cell? ⟨b, off + i * 3 + 1, none⟩ = some (.int .i64 (zs.getD i (0, 0, 0)).2.1) ∧ w.cell? ⟨b, off + i * 3 + 2, none⟩ = some (.int .i64 (zs.getD i (0, 0, 0)).2.2)) := hc
        clear tg hc
        rcases c7 with ⟨c7, c8⟩ | c7
        all_goals
          go_wp2
          go_loopw [56] (fun i wr => ∃ j : Nat, j ≤ k ∧ i = .int .i64 j ∧ Hid ((zs.take j).any (keyB q1) = false) ∧ Below (wo.heap.size + 1) (wo.alloc (.cells #[.int .i64 q0, .int .i64 q1, .int .i64 q2] 88)) wr) (fun i _ => k - (intOf i).toNat)
          case atStart => exact ⟨0, Nat.zero_le _, rfl, rfl, Below.refl _ _⟩
          case round =>
            obtain ⟨j, hj, rfl, hno, hBx⟩ := hrel
            have hBv : Below w.heap.size w wr := hw.trans (hBx.mono (by omega))
            have hsx := hBv.size
            have hsy : wo.heap.size < wr.heap.size := by have := hBx.size; simp at this; omega
            by_cases hjt : j < k
            · obtain ⟨p0, p1, p2, Hp, f0, f1, f2⟩ := OpsAt.at HC.out hb hBv (Nat.lt_trans hjt hlt)
              have g1 := hBx.cell (p := ⟨wo.heap.size, 1, none⟩) (by simp)
              simp at g1
              clear e0 e1 e2
              cases t1 : p1 == q1
              · go_wp2
                go_roundw
                case rel => exact ⟨j + 1, by omega, by go_num, any_step (Nat.lt_trans hjt hlt) Hp.out hno.out t1, hBx.alloc (by omega) _⟩
                case measure => simp [intOf]; omega
              · have N : Hid (goodOpsL zs = false) := isops_twice hlt Hq.out hjt Hp.out t1
                go_wp2
                go_ret
                exact ⟨ret_bool N.out.symm, hBv.alloc hsx _⟩
            · have Y : Hid ((List.range (k + 1)).all (goodAt zs) = true) := isops_next Hq.out TG.out hjt hj hno.out hall.out
              go_wp2
              go_roundw
              case rel => exact ⟨k + 1, by omega, by go_num, Y, hBv⟩
              case measure => simp [intOf]; omega
    · have N : Hid (goodOpsL zs = decide (1 ≤ zs.length ∧ zs.length ≤ 4)) := isops_end hlt hk hall.out
      by_cases z1 : 0 < zs.length
      · by_cases z2 : zs.length < 5
        · go_wp2
          go_ret
          exact ⟨ret_bool (by rw [N.out, Bool.eq_iff_iff]; simp; omega), hBw⟩
        · go_wp2
          go_ret
          exact ⟨ret_bool (by rw [N.out, Bool.eq_iff_iff]; simp; omega), hBw⟩
      · go_wp2
        go_ret
        exact ⟨ret_bool (by rw [N.out, Bool.eq_iff_iff]; simp; omega), hBw⟩

end Go.Proofs.Ytgdkjjmnoikhdab
