/-
  The contracts of the statements' own sameEntry, sameNode and takes.
  One frame that a node that is nothing takes.
  The contract of the statements' own takes (januspostkeep): node answers at all.
  A list of frames that a call made, read one by one.
  The walk of the statement NodeOnce.
  How a frame that came in is read: its numbers, and where its lists lie.
  The room that a list down in a datum takes.
  How a graph that came in is read: which are known, and where its lists lie.
-/
import Derived.Test.YtgdkjjmnoikhdabPart16
import Derived.Test.YtgdkjjmnoikhdabPart7
import Derived.Lib.SmallJoins
import Derived.ChangeMaps5
import Derived.SizedLaws
import Derived.Test.YtgdkjjmnoikhdabPart2
namespace Go.Proofs.Ytgdkjjmnoikhdab
open Go.RowKit

set_option maxRecDepth 100000 in
set_option maxHeartbeats 1000000 in
theorem keep_sameEntry (v v' : Value) (e : EntryL) (w : World) (h : EntV w v e) (h' : EntV w v' e) :
    Calls Try.prog 37 #[v, v'] w fun r w' => r = .returned (.bool true) ∧ Below w.heap.size w w' := by
  obtain ⟨a1, c1, a2, c2, a3, c3, a4, c4, a5, c5, rfl, x1, x2, x3, x4, x5, _⟩ := h
  obtain ⟨a1', c1', a2', c2', a3', c3', a4', c4', a5', c5', rfl, y1, y2, y3, y4, y5, _⟩ := h'
  obtain ⟨W, hW⟩ : ∃ W, W = (w.alloc (.cells #[.int .i64 e.state, .slice a1 e.ops.length c1, .slice a2 e.first.length c2, .slice a3 e.deps.length c3, .slice a4 e.ats.length c4, .slice a5 e.vals.length c5] 37)).alloc (.cells #[.int .i64 e.state, .slice a1' e.ops.length c1', .slice a2' e.first.length c2', .slice a3' e.deps.length c3', .slice a4' e.ats.length c4', .slice a5' e.vals.length c5'] 37) := ⟨_, rfl⟩
  obtain ⟨r0, r1⟩ := two_rows w (.cells #[.int .i64 e.state, .slice a1 e.ops.length c1, .slice a2 e.first.length c2, .slice a3 e.deps.length c3, .slice a4 e.ats.length c4, .slice a5 e.vals.length c5] 37) (.cells #[.int .i64 e.state, .slice a1' e.ops.length c1', .slice a2' e.first.length c2', .slice a3' e.deps.length c3', .slice a4' e.ats.length c4', .slice a5' e.vals.length c5'] 37)
  rw [← hW] at r0 r1
  have hb : Below w.heap.size w W := by rw [hW]; exact ((Below.refl _ _).alloc (Nat.le_refl _) _).alloc (by rw [size_push]; omega) _
  have hzW : W.heap.size = w.heap.size + 2 := by rw [hW, size_push, size_push]
  have es : (e.state == e.state) = true := by simp
  have HW : Hid (W = (w.alloc (.cells #[.int .i64 e.state, .slice a1 e.ops.length c1, .slice a2 e.first.length c2, .slice a3 e.deps.length c3, .slice a4 e.ats.length c4, .slice a5 e.vals.length c5] 37)).alloc (.cells #[.int .i64 e.state, .slice a1' e.ops.length c1', .slice a2' e.first.length c2', .slice a3' e.deps.length c3', .slice a4' e.ats.length c4', .slice a5' e.vals.length c5'] 37)) := hW
  have KC : Hid (∀ wx, Below W.heap.size W wx → (wx.heap[w.heap.size]? = some (.cells #[.int .i64 e.state, .slice a1 e.ops.length c1, .slice a2 e.first.length c2, .slice a3 e.deps.length c3, .slice a4 e.ats.length c4, .slice a5 e.vals.length c5] 37 (0, 0)) ∧ wx.heap[w.heap.size + 1]? = some (.cells #[.int .i64 e.state, .slice a1' e.ops.length c1', .slice a2' e.first.length c2', .slice a3' e.deps.length c3', .slice a4' e.ats.length c4', .slice a5' e.vals.length c5'] 37 (0, 0)))) := fun wx hx => ⟨by rw [hx.block _ (by omega)]; exact r0, by rw [hx.block _ (by omega)]; exact r1⟩
  clear hW r0 r1
  go_enter Try.func37, Try.ntmps37
  go_upto_region 1 with fail
  rw [← HW.out]
  clear HW
  obtain ⟨r0, r1⟩ := KC.out W (Below.refl _ _)
  have p0 : W.cell? ⟨w.heap.size, 0, none⟩ = some (.int .i64 e.state) := by rw [cell_of_row _ _ _ _ _ _ r0]; rfl
  have p1 : W.cell? ⟨w.heap.size + 1, 0, none⟩ = some (.int .i64 e.state) := by rw [cell_of_row _ _ _ _ _ _ r1]; rfl
  have q1 : W.cell? ⟨w.heap.size, 1, none⟩ = some (.slice a1 e.ops.length c1) := by rw [cell_of_row _ _ _ _ _ _ r0]; rfl
  have z1 : W.cell? ⟨w.heap.size + 1, 1, none⟩ = some (.slice a1' e.ops.length c1') := by rw [cell_of_row _ _ _ _ _ _ r1]; rfl
  clear r0 r1
  go_wp2_with fail
  refine (keep_sameOps_any a1 c1 e.ops a1' c1' W x1.2.1 (x1.later hb).1 (y1.later hb).1).mono ?_
  rintro r w1 ⟨rfl, hx1⟩
  have hb1 : Below W.heap.size W w1 := hx1
  have hw1 : Below w.heap.size w w1 := hb.trans (hb1.mono (by omega))
  obtain ⟨r0, r1⟩ := KC.out w1 hb1
  clear hx1 q1 z1
  have q2 : w1.cell? ⟨w.heap.size, 2, none⟩ = some (.slice a2 e.first.length c2) := by rw [cell_of_row _ _ _ _ _ _ r0]; rfl
  have z2 : w1.cell? ⟨w.heap.size + 1, 2, none⟩ = some (.slice a2' e.first.length c2') := by rw [cell_of_row _ _ _ _ _ _ r1]; rfl
  clear r0 r1
  go_wp2_with fail
  refine (keep_same_any a2 c2 e.first a2' c2' w1 x2.2.1 (x2.later hw1).1 (y2.later hw1).1).mono ?_
  rintro r w2 ⟨rfl, hx2⟩
  have hb2 : Below W.heap.size W w2 := hb1.trans (hx2.mono hb1.size)
  have hw2 : Below w.heap.size w w2 := hb.trans (hb2.mono (by omega))
  obtain ⟨r0, r1⟩ := KC.out w2 hb2
  clear hx2 q2 z2
  have q3 : w2.cell? ⟨w.heap.size, 3, none⟩ = some (.slice a3 e.deps.length c3) := by rw [cell_of_row _ _ _ _ _ _ r0]; rfl
  have z3 : w2.cell? ⟨w.heap.size + 1, 3, none⟩ = some (.slice a3' e.deps.length c3') := by rw [cell_of_row _ _ _ _ _ _ r1]; rfl
  clear r0 r1
  go_wp2_with fail
  refine (keep_same_any a3 c3 e.deps a3' c3' w2 x3.2.1 (x3.later hw2).1 (y3.later hw2).1).mono ?_
  rintro r w3 ⟨rfl, hx3⟩
  have hb3 : Below W.heap.size W w3 := hb2.trans (hx3.mono hb2.size)
  have hw3 : Below w.heap.size w w3 := hb.trans (hb3.mono (by omega))
  obtain ⟨r0, r1⟩ := KC.out w3 hb3
  clear hx3 q3 z3
  have q4 : w3.cell? ⟨w.heap.size, 4, none⟩ = some (.slice a4 e.ats.length c4) := by rw [cell_of_row _ _ _ _ _ _ r0]; rfl
  have z4 : w3.cell? ⟨w.heap.size + 1, 4, none⟩ = some (.slice a4' e.ats.length c4') := by rw [cell_of_row _ _ _ _ _ _ r1]; rfl
  clear r0 r1
  go_wp2_with fail
  refine (keep_same_any a4 c4 e.ats a4' c4' w3 x4.2.1 (x4.later hw3).1 (y4.later hw3).1).mono ?_
  rintro r w4 ⟨rfl, hx4⟩
  have hb4 : Below W.heap.size W w4 := hb3.trans (hx4.mono hb3.size)
  have hw4 : Below w.heap.size w w4 := hb.trans (hb4.mono (by omega))
  obtain ⟨r0, r1⟩ := KC.out w4 hb4
  clear hx4 q4 z4
  have q5 : w4.cell? ⟨w.heap.size, 5, none⟩ = some (.slice a5 e.vals.length c5) := by rw [cell_of_row _ _ _ _ _ _ r0]; rfl
  have z5 : w4.cell? ⟨w.heap.size + 1, 5, none⟩ = some (.slice a5' e.vals.length c5') := by rw [cell_of_row _ _ _ _ _ _ r1]; rfl
  clear r0 r1
  go_wp2_with fail
  refine (keep_same_any a5 c5 e.vals a5' c5' w4 x5.2.1 (x5.later hw4).1 (y5.later hw4).1).mono ?_
  rintro r w5 ⟨rfl, hx5⟩
  have hb5 : Below W.heap.size W w5 := hb4.trans (hx5.mono hb4.size)
  have hw5 : Below w.heap.size w w5 := hb.trans (hb5.mono (by omega))
  obtain ⟨r0, r1⟩ := KC.out w5 hb5
  clear hx5 q5 z5
  clear r0 r1
  go_wp2
  go_ret
  exact ⟨rfl, hw5⟩

theorem run_part_ints {P : Program} {e : TypeId} (he : P.underlying e = some (.int .i64)) (hi : (P.info? e).map (·.size) = some 1) {n : Nat} (S : Nat → Int) {k : Nat} (hk : k < n) (w : World) :
    (part e (rowF n fun i => .int .i64 (S i)) k).run P w = .ok (.int .i64 (S k)) w := by
  cases hq : P.info? e with
  | none => simp [hq] at hi
  | some i =>
    have hs : i.size = 1 := by simpa [hq] using hi
    have hg := rowF_get (fun i => Value.int .i64 (S i)) hk
    simp [part, isAgg, run_underlying he, sizeOf, typeInfo, hq, hs, hg, go_sem]
    try omega
theorem run_equalIn_row {P : Program} {t e : TypeId} {n : Nat} (d : Nat) (ht : P.underlying t = some (.array n e)) (he : P.underlying e = some (.int .i64)) (hi : (P.info? e).map (·.size) = some 1) (S : Nat → Int) (w : World) :
    (Op.equalIn (d + 2) t (.agg (rowF n fun i => .int .i64 (S i))) (.agg (rowF n fun i => .int .i64 (S i)))).run P w = .ok true w := by
  have hsz : ∀ w, (sizeOf e).run P w = .ok 1 w := by
    intro w
    cases hq : P.info? e with
    | none => simp [hq] at hi
    | some i =>
      have hs : i.size = 1 := by simpa [hq] using hi
      simp [sizeOf, typeInfo, hq, hs]
  rw [Op.equalIn]
  simp only [Sem.run_bind, run_underlying ht, Result.andThen_ok, hsz, Std.Legacy.Range.forIn_eq_forIn_range', Std.Legacy.Range.size, Nat.sub_zero, Nat.add_sub_cancel, Nat.div_one]
  have hl : ∀ i ∈ List.range' 0 n 1, i < n := fun i hi => by simpa using (List.mem_range'_1.1 hi).2
  generalize List.range' 0 n 1 = l at hl ⊢
  induction l with
  | nil => simp
  | cons i l ih =>
    have hk : i < n := hl i (by simp)
    have px := run_part_ints he hi S hk w
    have pe : (Op.equalIn (d + 1) e (.int .i64 (S i)) (.int .i64 (S i))).run P w = .ok true w := by simp [Op.equalIn, run_underlying he]
    simp only [List.forIn_cons, Sem.run_bind, Nat.mul_one, px, pe, Result.andThen_ok]
    simp only [Bool.not_true, Bool.false_eq_true, if_false, Sem.run_pure, Result.andThen_ok]
    simpa only [Nat.mul_one] using ih fun j hj => hl j (by simp [hj])
theorem Try.infoInt1 : (Try.prog.info? 3).map (·.size) = some 1 := by kernel_rfl
theorem Try.infoVals : (Try.prog.info? 39).map (·.size) = some 8 := by kernel_rfl
theorem Try.valsGuard : Try.prog.eqGuardType Try.prog.depth 39 = false := by kernel_rfl

set_option maxRecDepth 100000 in
set_option maxHeartbeats 1000000 in
theorem keep_sameNode (nv nv' : Nat → Value) (s : NodeL) (w : World) (h : NodeC (· < w.heap.size) w nv s) (h' : NodeC (· < w.heap.size) w nv' s) :
    Calls Try.prog 34 #[.agg (rowF 201 nv), .agg (rowF 201 nv')] w fun r w' => r = .returned (.bool true) ∧ Below w.heap.size w w' := by
  obtain ⟨ga, hga⟩ : ∃ ga, ga = rowF 201 nv := ⟨_, rfl⟩
  obtain ⟨gb, hgb⟩ : ∃ gb, gb = rowF 201 nv' := ⟨_, rfl⟩
  rw [← hga, ← hgb]
  obtain ⟨W, hW⟩ : ∃ W, W = (w.alloc (.cells ga 41)).alloc (.cells gb 41) := ⟨_, rfl⟩
  obtain ⟨r0, r1⟩ := two_rows w (.cells ga 41) (.cells gb 41)
  rw [← hW] at r0 r1
  have hb : Below w.heap.size w W := by rw [hW]; exact ((Below.refl _ _).alloc (Nat.le_refl _) _).alloc (by rw [size_push]; omega) _
  have hzW : W.heap.size = w.heap.size + 2 := by rw [hW, size_push, size_push]
  have HBa : Hid (BlkAt 201 W w.heap.size nv) := ⟨_, by rw [← hga]; exact r0⟩
  have HBb : Hid (BlkAt 201 W (w.heap.size + 1) nv') := ⟨_, by rw [← hgb]; exact r1⟩
  have HN : Hid (NodeC (· < w.heap.size) w nv s) := h
  have HN' : Hid (NodeC (· < w.heap.size) w nv' s) := h'
  have HW : Hid (W = (w.alloc (.cells ga 41)).alloc (.cells gb 41)) := hW
  clear hW r0 r1 h h' hga hgb
  go_enter Try.func34, Try.ntmps34
  go_upto_region 1 with fail
  rw [← HW.out]
  clear HW
  go_wp2_with fail
  go_loopw [6] (fun i wr => ∃ k : Nat, k ≤ 32 ∧ i = .int .i64 k ∧ Below W.heap.size W wr) (fun i _ => 32 - (intOf i).toNat)
  case atStart => exact ⟨0, Nat.zero_le _, rfl, Below.refl _ _⟩
  case round =>
    obtain ⟨k, hk, rfl, hB⟩ := hrel
    have hbw : Below w.heap.size w wr := hb.trans (hB.mono (by omega))
    have hsz := hB.size
    have HBar : Hid (BlkAt 201 wr w.heap.size nv) := HBa.out.later hB (by omega)
    have HBbr : Hid (BlkAt 201 wr (w.heap.size + 1) nv') := HBb.out.later hB (by omega)
    by_cases hlt : k < 32
    · have n1 : (0 : Int) ≤ (k : Int) ∧ (k : Int) < 32 := by omega
      obtain ⟨ca, hca⟩ : ∃ ca, ca = (sixV nv (k * 6)).toList := ⟨_, rfl⟩
      obtain ⟨cb, hcb⟩ : ∃ cb, cb = (sixV nv' (k * 6)).toList := ⟨_, rfl⟩
      have ra : wr.rangeAt w.heap.size (k * 6) ca := by
        rw [hca]
        exact BlkAt.range HBar.out (o := k * 6) (n := 6) (by omega)
      have rb : wr.rangeAt (w.heap.size + 1) (k * 6) cb := by
        rw [hcb]
        exact BlkAt.range HBbr.out (o := k * 6) (n := 6) (by omega)
      have hsa : (Try.prog.info? 37).map (·.size) = some ca.length := by rw [hca]; exact Try.infoEntry
      have hsb : (Try.prog.info? 37).map (·.size) = some cb.length := by rw [hcb]; exact Try.infoEntry
      have HVa : Hid (EntV w (.agg ca.toArray) (s.ent k)) := by rw [hca]; exact (HN.out.es.ent k hlt).v
      have HVb : Hid (EntV w (.agg cb.toArray) (s.ent k)) := by rw [hcb]; exact (HN'.out.es.ent k hlt).v
      clear hca hcb
      go_wp2_with fail
      have HRa : Hid (∀ wx, Below wr.heap.size wr wx → wx.rangeAt w.heap.size (k * 6) ca) := fun wx hx => range_later ra hx (by omega)
      have HRb : Hid (∀ wx, Below wr.heap.size wr wx → wx.rangeAt (w.heap.size + 1) (k * 6) cb) := fun wx hx => range_later rb hx (by omega)
      clear ra rb
      refine wp_region_held_drew (S := fun w' => Below wr.heap.size wr w') (by kernel_rfl) ((Below.refl _ _).drew) ?_
      intro hH
      refine wpAnyH_takeD (i := 0) (d := some 9) (v := .int .i64 k) rfl rfl (by kernel_rfl) (by kernel_rfl) (by kernel_rfl) (fun _ _ _ h => h) (Or.inl ⟨by rfl, fun _ _ => by go_simp⟩) hH ?_
      simp only [Act.put, List.setIfInBounds_toArray, List.set_cons_zero, List.set_cons_succ]
      refine wpAnyH_takeD (i := 1) (d := some 10) (v := .pointer (some ⟨w.heap.size, 0, none⟩)) rfl rfl (by kernel_rfl) (by kernel_rfl) (by kernel_rfl) (fun _ _ _ h => h) (Or.inl ⟨by rfl, fun _ _ => by go_simp⟩) hH ?_
      simp only [Act.put, List.setIfInBounds_toArray, List.set_cons_zero, List.set_cons_succ]
      refine wpAnyH_takeD (i := 2) (d := some 11) (v := .pointer (some ⟨w.heap.size, k * 6, none⟩)) rfl rfl (by kernel_rfl) (by kernel_rfl) (by kernel_rfl) (fun _ _ _ h => h) (Or.inl ⟨by rfl, fun _ _ => by go_simp⟩) hH ?_
      simp only [Act.put, List.setIfInBounds_toArray, List.set_cons_zero, List.set_cons_succ]
      refine wpAnyH_takeD (i := 3) (d := some 12) (v := .agg ca.toArray) rfl rfl (by kernel_rfl) (by kernel_rfl) (by kernel_rfl) (fun _ _ _ h => h) (yieldsIf_load_mid (by rfl) _ _ rfl _ _ rfl ca _ (HRa.out) Try.underlying37 rfl hsa) hH ?_
      simp only [Act.put, List.setIfInBounds_toArray, List.set_cons_zero, List.set_cons_succ]
      refine wpAnyH_takeD (i := 4) (d := some 13) (v := .int .i64 k) rfl rfl (by kernel_rfl) (by kernel_rfl) (by kernel_rfl) (fun _ _ _ h => h) (Or.inl ⟨by rfl, fun _ _ => by go_simp⟩) hH ?_
      simp only [Act.put, List.setIfInBounds_toArray, List.set_cons_zero, List.set_cons_succ]
      refine wpAnyH_takeD (i := 5) (d := some 14) (v := .pointer (some ⟨w.heap.size + 1, 0, none⟩)) rfl rfl (by kernel_rfl) (by kernel_rfl) (by kernel_rfl) (fun _ _ _ h => h) (Or.inl ⟨by rfl, fun _ _ => by go_simp⟩) hH ?_
      simp only [Act.put, List.setIfInBounds_toArray, List.set_cons_zero, List.set_cons_succ]
      refine wpAnyH_takeD (i := 6) (d := some 15) (v := .pointer (some ⟨w.heap.size + 1, k * 6, none⟩)) rfl rfl (by kernel_rfl) (by kernel_rfl) (by kernel_rfl) (fun _ _ _ h => h) (Or.inl ⟨by rfl, fun _ _ => by go_simp⟩) hH ?_
      simp only [Act.put, List.setIfInBounds_toArray, List.set_cons_zero, List.set_cons_succ]
      refine wpAnyH_takeD (i := 7) (d := some 16) (v := .agg cb.toArray) rfl rfl (by kernel_rfl) (by kernel_rfl) (by kernel_rfl) (fun _ _ _ h => h) (yieldsIf_load_mid (by rfl) _ _ rfl _ _ rfl cb _ (HRb.out) Try.underlying37 rfl hsb) hH ?_
      simp only [Act.put, List.setIfInBounds_toArray, List.set_cons_zero, List.set_cons_succ]
      refine wpAnyH_ready (rs := [8]) (by kernel_rfl) (by simp) ?_
      refine AllReadyH.cons rfl (fun K hK => ?_) AllReadyH.nil
      go_simp
      refine (keep_sameEntry _ _ (s.ent k) _ (HVa.out.later (hbw.drew)) (HVb.out.later (hbw.drew))).mono ?_
      rintro r x2 ⟨rfl, hb2⟩
      go_wp2_with fail
      refine hK.out _ _ (hH.trans hb2) (fun hH2 => ?_)
      clear hK K hH
      have hH := hH2
      clear hH2 hb2
      refine wpAnyH_takeD (i := 9) (d := some 18) (v := .bool false) rfl rfl (by kernel_rfl) (by kernel_rfl) (by kernel_rfl) (fun _ _ _ h => h) (Or.inl ⟨by rfl, fun _ _ => by go_simp⟩) hH ?_
      simp only [Act.put, List.setIfInBounds_toArray, List.set_cons_zero, List.set_cons_succ]
      refine wpAnyH_done (by kernel_rfl) ?_ _
      have hB2 : Below W.heap.size W x2 := hB.trans (hH.mono (by omega))
      clear hH
      go_wp2
      go_roundw
      case rel => exact ⟨k + 1, by omega, by go_num, hB2⟩
      case measure => simp [intOf]; omega
    · obtain ⟨ao, co, eo, ho⟩ := HN.out.order.sl
      obtain ⟨ap, cp, ep, hp⟩ := HN'.out.order.sl
      have q0 : wr.cell? ⟨w.heap.size, 192, none⟩ = some (.slice ao s.order.length co) := by rw [HBar.out.cell (by omega), eo]
      have q1 : wr.cell? ⟨w.heap.size + 1, 192, none⟩ = some (.slice ap s.order.length cp) := by rw [HBbr.out.cell (by omega), ep]
      clear eo ep
      go_wp2_with fail
      refine (keep_same_any ao co s.order ap cp wr ho.2.1 (ho.later hbw).1 (hp.later hbw).1).mono ?_
      rintro r x1 ⟨rfl, hb1⟩
      have hbx : Below w.heap.size w x1 := hbw.trans (hb1.mono (by omega))
      obtain ⟨vr, hvr⟩ : ∃ vr, vr = (rowF 8 fun i => .int .i64 (s.vals i)).toList := ⟨_, rfl⟩
      have ra : x1.rangeAt w.heap.size 193 vr := by
        rw [hvr]
        refine range_later (w := wr) ?_ hb1 (by omega)
        have := BlkAt.range HBar.out (o := 193) (n := 8) (by omega)
        have e : (List.range 8).map (fun i => nv (193 + i)) = (rowF 8 fun i => .int .i64 (s.vals i)).toList := by
          unfold rowF
          exact List.map_congr_left fun i hi => HN.out.es.vals i (List.mem_range.1 hi)
        rw [← e]; exact this
      have rb : x1.rangeAt (w.heap.size + 1) 193 vr := by
        rw [hvr]
        refine range_later (w := wr) ?_ hb1 (by omega)
        have := BlkAt.range HBbr.out (o := 193) (n := 8) (by omega)
        have e : (List.range 8).map (fun i => nv' (193 + i)) = (rowF 8 fun i => .int .i64 (s.vals i)).toList := by
          unfold rowF
          exact List.map_congr_left fun i hi => HN'.out.es.vals i (List.mem_range.1 hi)
        rw [← e]; exact this
      have hsv : (Try.prog.info? 39).map (·.size) = some vr.length := by rw [hvr, rowF_toList]; exact Try.infoVals
      have hg := Try.valsGuard
      have he := fun w => run_equalIn_row 9998 Try.underlying39 Try.underlying3 Try.infoInt1 s.vals w
      have hva : vr.toArray = rowF 8 fun i => .int .i64 (s.vals i) := by rw [hvr]
      rw [← hva] at he
      clear hvr hva hb1 q0 q1
      go_wp2_with (first
        | (refine wpList_wanted (by rfl) fun K hK => ?_; refine wp_load_mid 39 _ rfl w.heap.size 193 rfl vr _ ra Try.underlying39 rfl hsv ?_; refine hK _ _ ?_)
        | (refine wpList_wanted (by rfl) fun K hK => ?_; refine wp_load_mid 39 _ rfl (w.heap.size + 1) 193 rfl vr _ rb Try.underlying39 rfl hsv ?_; refine hK _ _ ?_))
      go_ret
      exact ⟨rfl, hbx⟩

end Go.Proofs.Ytgdkjjmnoikhdab

namespace Go.Proofs.Ytgdkjjmnoikhdab
open Go.RowKit

def takesF : FrameL := ⟨3, 3, 4, [(2, 1, 9)], [], [], []⟩
theorem takes_ok : (takeN zeroN 3 takesF).2.2 = 0 := by decide +kernel
theorem takes_len : (takeN zeroN 3 takesF).2.1.length = 2 := by decide +kernel
theorem takes_val : (takeN zeroN 3 takesF).1.vals 1 = 9 := by decide +kernel
theorem takes_ord : (takeN zeroN 3 takesF).1.order.length = 1 := by decide +kernel
theorem Try.zcNode : Try.zeroCells41 = rowF 201 zv := by kernel_rfl

theorem takes_call (W : World) (cs : Array Value) (h : FrameV W (.agg cs) takesF) : ∃ T : NodeL × List FrameL × Int, T.2.2 = 0 ∧ T.2.1.length = 2 ∧ T.1.vals 1 = 9 ∧ T.1.order.length = 1 ∧
    Calls Try.prog 20 #[.agg (rowF 201 zv), .int .i64 3, .agg cs] W fun r w' => ∃ nv' x, r = .returned (.tuple #[.agg (rowF 201 nv'), x, .int .i64 T.2.2]) ∧ NodeC (· < w'.heap.size) w' nv' T.1 ∧ FramesV W.heap.size w' x T.2.1 ∧ Below W.heap.size W w' :=
  ⟨takeN zeroN 3 takesF, takes_ok, takes_len, takes_val, takes_ord, take_any zv zeroN 3 _ takesF W (zero_node _ _) h⟩

end Go.Proofs.Ytgdkjjmnoikhdab

namespace Go.Proofs.Ytgdkjjmnoikhdab
open Go.RowKit

set_option maxRecDepth 100000 in
set_option maxHeartbeats 1000000 in
theorem keep_takes (w : World) : Calls Try.prog 33 #[] w fun r w' => r = .returned (.bool true) ∧ Below w.heap.size w w' := by
  obtain ⟨zr, hzr⟩ : ∃ zr, zr = rowF 201 zv := ⟨_, rfl⟩
  have hz0 := Try.zeroNode
  rw [← hzr] at hz0
  obtain ⟨W, hW⟩ : ∃ W, W = w.alloc (.cells #[.int .i64 2, .int .i64 1, .int .i64 9] 88) := ⟨_, rfl⟩
  have hb : Below w.heap.size w W := by rw [hW]; exact (Below.refl _ _).alloc (Nat.le_refl _) _
  have r0 : W.heap[w.heap.size]? = some (.cells #[.int .i64 2, .int .i64 1, .int .i64 9] 88 (0, 0)) := by rw [hW]; exact heap_new _ _
  have hzW : W.heap.size = w.heap.size + 1 := by rw [hW]; exact size_push _ _
  have HF : Hid (FrameV W (.agg #[.int .i64 3, .int .i64 3, .int .i64 4, .slice (some ⟨w.heap.size, 0, none⟩) 1 1, .slice none 0 0, .slice none 0 0, .slice none 0 0]) takesF) := by
    refine ⟨some ⟨w.heap.size, 0, none⟩, 1, none, 0, none, 0, none, 0, rfl, ⟨Or.inr ⟨w.heap.size, 0, rfl, by omega, fun i hi => ?_⟩, by decide, Nat.le_refl _, fun h => by cases h⟩, (slI_nil (fun _ => True) _).1, (slI_nil (fun _ => True) _).1, (slI_nil (fun _ => True) _).1⟩
    have : i = 0 := by
      have : i < 1 := hi
      omega
    subst this
    exact ⟨by rw [cell_of_row _ _ _ _ _ _ r0]; rfl, by rw [cell_of_row _ _ _ _ _ _ r0]; rfl, by rw [cell_of_row _ _ _ _ _ _ r0]; rfl⟩
  have HT := takes_call W #[.int .i64 3, .int .i64 3, .int .i64 4, .slice (some ⟨w.heap.size, 0, none⟩) 1 1, .slice none 0 0, .slice none 0 0, .slice none 0 0] HF.out
  rw [← hzr] at HT
  obtain ⟨T, t0, t1, t2, t3, HT⟩ := HT
  have T0 : Hid (T.2.2 = 0) := t0
  have T1 : Hid (T.2.1.length = 2) := t1
  have T2 : Hid (T.1.vals 1 = 9) := t2
  have T3 : Hid (T.1.order.length = 1) := t3
  have HZR : Hid (zr = rowF 201 zv) := hzr
  have HW : Hid (W = w.alloc (.cells #[.int .i64 2, .int .i64 1, .int .i64 9] 88)) := hW
  have HTA : Hid (Calls Try.prog 20 #[.agg zr, .int .i64 3, .agg #[.int .i64 3, .int .i64 3, .int .i64 4, .slice (some ⟨w.heap.size, 0, none⟩) 1 1, .slice none 0 0, .slice none 0 0, .slice none 0 0]] W fun r w' => ∃ nv' x, r = .returned (.tuple #[.agg (rowF 201 nv'), x, .int .i64 T.2.2]) ∧ NodeC (· < w'.heap.size) w' nv' T.1 ∧ FramesV W.heap.size w' x T.2.1 ∧ Below W.heap.size W w') := HT
  clear t0 t1 t2 t3
  clear hzr hW r0 HT HF
  go_enter Try.func33, Try.ntmps33
  go_wp2_with fail
  rw [← HW.out, Try.zcNode, ← HZR.out]
  refine HTA.out.mono ?_
  rintro r w1 ⟨nv1, x, rfl, hnc, hfs, hb1⟩
  rw [T0.out]
  obtain ⟨fr, hfr⟩ : ∃ fr, fr = rowF 201 nv1 := ⟨_, rfl⟩
  rw [← hfr]
  have hsf : (Try.prog.info? 41).map (·.size) = some fr.size := by rw [hfr, rowF_size]; exact Try.infoNode
  have hzz : zr.size = fr.size := by rw [hfr, HZR.out, rowF_size, rowF_size]
  have hone : fr.all (·.oneCell') = true := by rw [hfr]; exact rowF_all hnc.one
  have hres : (w1.alloc (.cells zr 41)).heap[w1.heap.size]? = some (.cells zr 41 (0, 0)) := heap_new _ _
  obtain ⟨css, _, hown, _⟩ := hfs
  obtain ⟨ax, cx, rfl, _⟩ := own_form hown
  rw [T1.out]
  have hlen2 : ((2 : Nat) : Int) = 2 := rfl
  obtain ⟨X, hX⟩ : ∃ X, X = (w1.alloc (.cells zr 41)).setRow w1.heap.size fr := ⟨_, rfl⟩
  have hbX : Below w1.heap.size w1 X := by rw [hX]; exact setRow_below ((Below.refl _ _).alloc (Nat.le_refl _) _) (Nat.le_refl _) _
  have rX : BlkAt 201 X w1.heap.size nv1 := ⟨41, by rw [← hfr, hX]; exact heap_setRow hres⟩
  have q1 : X.cell? ⟨w1.heap.size, 194, none⟩ = some (.int .i64 9) := by
    rw [rX.cell (by omega), hnc.es.vals 1 (by omega), T2.out]
  obtain ⟨ao, co, eo, _⟩ := hnc.order.sl
  have q2 : X.cell? ⟨w1.heap.size, 192, none⟩ = some (.slice ao 1 co) := by
    rw [rX.cell (by omega), eo, T3.out]
  have HX : Hid (X = (w1.alloc (.cells zr 41)).setRow w1.heap.size fr) := hX
  have hbE : Below w.heap.size w X := hb.trans ((hb1.mono (by omega)).trans (hbX.mono (by have := hb1.size; omega)))
  clear hfr hX hnc hown eo rX hbX hb1
  go_upto_region 2 with (first
    | (refine wpList_alloc_as rfl 41 rfl zr hz0 ?_)
    | (refine wpList_store_row rfl 41 _ _ rfl w1.heap.size fr rfl rfl 41 _ hres hsf hzz hone ?_))
  rw [← HX.out]
  clear HX hres
  go_wp2
  go_ret
  exact ⟨rfl, hbE⟩

end Go.Proofs.Ytgdkjjmnoikhdab

namespace Go.Proofs.Ytgdkjjmnoikhdab
open Go.RowKit

theorem flat7 : ∀ (css : List (List Value)) (i j : Nat), (∀ k, k < css.length → (css.getD k []).length = 7) → i < css.length → j < 7 → css.flatten[i * 7 + j]? = (css.getD i [])[j]?
  | [], i, j, _, hi, _ => by simp at hi
  | c :: css, 0, j, h, _, hj => by
    have h0 : c.length = 7 := by have := h 0 (by simp); simpa using this
    simp only [List.flatten_cons, Nat.zero_mul, Nat.zero_add, List.getD_cons_zero]
    rw [List.getElem?_append_left (by omega)]
  | c :: css, i + 1, j, h, hi, hj => by
    have h0 : c.length = 7 := by have := h 0 (by simp); simpa using this
    have ih := flat7 css i j (fun k hk => by have := h (k + 1) (by simp; omega); simpa using this) (by simp at hi; omega) hj
    simp only [List.flatten_cons, List.getD_cons_succ]
    rw [List.getElem?_append_right (by omega), ← ih]
    congr 1
    omega
/-- The i-th of them. -/
theorem FramesV.at {B : Nat} {w : World} {a : Option Addr} {cap : Nat} {fs : List FrameL} (h : FramesV B w (.slice a fs.length cap) fs) {i : Nat} (hi : i < fs.length) :
    ∃ g cs, a = some ⟨g, 0, none⟩ ∧ g < w.heap.size ∧ w.rangeAt g (i * 7) cs ∧ cs.length = 7 ∧ FrameV w (.agg cs.toArray) fs[i] := by
  obtain ⟨css, h1, h2, h3⟩ := h
  rcases h2.2 with ⟨_, h0⟩ | ⟨g, cp, cur, hv, hB, hg, hc, hm, hcs, htk⟩
  · omega
  · simp only [Value.slice.injEq] at hv
    obtain ⟨rfl, _, rfl⟩ := hv
    have hlt : g < w.heap.size := (Array.getElem?_eq_some_iff.1 hg).1
    refine ⟨g, css.getD i [], rfl, hlt, fun j u hu => ?_, (h3 i hi).1, (h3 i hi).2.v⟩
    have hj : j < 7 := by
      have := (List.getElem?_eq_some_iff.1 hu).1
      rw [(h3 i hi).1] at this
      exact this
    have hf := flat7 css i j (fun k hk => (h3 k (by omega)).1) (by omega) hj
    rw [hu, ← htk, List.getElem?_take_of_lt (by omega)] at hf
    rw [cell_of_row w g (i * 7 + j) cur _ _ hg]
    simpa using hf
theorem FramesV.form {B : Nat} {w : World} {v : Value} {fs : List FrameL} (h : FramesV B w v fs) : ∃ a cap, v = .slice a fs.length cap := by
  obtain ⟨css, _, h2, _⟩ := h
  obtain ⟨a, cap, e, _⟩ := own_form h2
  exact ⟨a, cap, e⟩
theorem FramesV.len {B : Nat} {w : World} {v : Value} {fs : List FrameL} (h : FramesV B w v fs) : fs.length ≤ maxLen := by
  obtain ⟨css, _, h2, _⟩ := h
  rcases h2.2 with ⟨_, h0⟩ | ⟨g, cp, cur, _, _, _, hc, hm, _⟩
  · omega
  · omega

end Go.Proofs.Ytgdkjjmnoikhdab

namespace Go.Proofs.Ytgdkjjmnoikhdab
open Go.RowKit

theorem nonneg_states {s : NodeL} (h : GoodN s) (h32 : ∀ n, 32 ≤ n → s.ent n = zeroE) : ∀ n, 0 ≤ (s.ent n).state := fun n => by
  by_cases hn : n < 32
  · exact (h.state hn).1
  · rw [h32 n (by omega)]; decide
theorem take_same {s : NodeL} {who : Int} {f : FrameL} (h : (takeN s who f).2.2 = 0) (h32 : ∀ n, 32 ≤ n → s.ent n = zeroE) : takeN (takeN s who f).1 who f = takeN s who f ∧ goodNB (takeN s who f).1 = true := by
  refine ⟨take_twice h ?_, goodNB_iff.2 (take_good h)⟩
  rcases take_cases s who f with ⟨h1, _⟩ | ⟨hg, _⟩
  · exact absurd h h1
  · exact nonneg_states hg h32
theorem take_fail {s : NodeL} {who : Int} {f : FrameL} (h : (takeN s who f).2.2 ≠ 0) : (takeN s who f).1 = s ∧ (takeN s who f).2.1 = [] := by
  rcases take_cases s who f with ⟨_, h1, h2⟩ | ⟨_, _, h1, _⟩
  · exact ⟨h1, h2⟩
  · exact absurd h1 h

set_option maxRecDepth 100000 in
set_option maxHeartbeats 2000000 in
theorem once_walk (nv : Nat → Value) (s : NodeL) (who : Int) (v : Value) (f : FrameL) (w : World) (h : NodeC (· < w.heap.size) w nv s) (h32 : ∀ n, 32 ≤ n → s.ent n = zeroE) (hf : FrameV w v f) :
    Calls Try.prog 8 #[.agg (rowF 201 nv), .int .i64 who, v] w fun r w' => r = .returned (.bool true) ∧ Below w.heap.size w w' := by
  obtain ⟨gr, hgr⟩ : ∃ gr, gr = rowF 201 nv := ⟨_, rfl⟩
  obtain ⟨zr, hzr⟩ : ∃ zr, zr = rowF 201 zv := ⟨_, rfl⟩
  have hz0 := Try.zeroNode
  rw [← hzr] at hz0
  have hsg : (Try.prog.info? 41).map (·.size) = some gr.size := by rw [hgr, rowF_size]; exact Try.infoNode
  rw [← hgr]
  have HGR : Hid (gr = rowF 201 nv) := hgr
  have HZR : Hid (zr = rowF 201 zv) := hzr
  have HN : Hid (NodeC (· < w.heap.size) w nv s) := h
  have H32 : Hid (∀ n, 32 ≤ n → s.ent n = zeroE) := h32
  have HFV : Hid (∀ x, Below w.heap.size w x → FrameV x v f) := fun x hx => hf.later hx
  obtain ⟨a3, c3, a4, c4, a5, c5, a6, c6, rfl, _⟩ := hf
  obtain ⟨W, hW⟩ : ∃ W, W = (w.alloc (.cells gr 41)).alloc (.cells #[.int .i64 f.kind, .int .i64 f.node, .int .i64 f.id, .slice a3 f.ops.length c3, .slice a4 f.deps.length c4, .slice a5 f.ats.length c5, .slice a6 f.vals.length c6] 43) := ⟨_, rfl⟩
  obtain ⟨r0, r1⟩ := two_rows w (.cells gr 41) (.cells #[.int .i64 f.kind, .int .i64 f.node, .int .i64 f.id, .slice a3 f.ops.length c3, .slice a4 f.deps.length c4, .slice a5 f.ats.length c5, .slice a6 f.vals.length c6] 43)
  rw [← hW] at r0 r1
  have hb : Below w.heap.size w W := by rw [hW]; exact ((Below.refl _ _).alloc (Nat.le_refl _) _).alloc (by rw [size_push]; omega) _
  have hzW : W.heap.size = w.heap.size + 2 := by rw [hW, size_push, size_push]
  have HW : Hid (W = (w.alloc (.cells gr 41)).alloc (.cells #[.int .i64 f.kind, .int .i64 f.node, .int .i64 f.id, .slice a3 f.ops.length c3, .slice a4 f.deps.length c4, .slice a5 f.ats.length c5, .slice a6 f.vals.length c6] 43)) := hW
  obtain ⟨T, hT⟩ : ∃ T, T = takeN s who f := ⟨_, rfl⟩
  have HT : Hid (T = takeN s who f) := hT
  have hTA := take_any nv s who _ f W (HN.out.below hb) (HFV.out W hb)
  rw [← hT, ← hgr] at hTA
  have HTA : Hid (Calls Try.prog 20 #[.agg gr, .int .i64 who, .agg #[.int .i64 f.kind, .int .i64 f.node, .int .i64 f.id, .slice a3 f.ops.length c3, .slice a4 f.deps.length c4, .slice a5 f.ats.length c5, .slice a6 f.vals.length c6]] W fun r w' => ∃ nv' x, r = .returned (.tuple #[.agg (rowF 201 nv'), x, .int .i64 T.2.2]) ∧ NodeC (· < w'.heap.size) w' nv' T.1 ∧ FramesV W.heap.size w' x T.2.1 ∧ Below W.heap.size W w') := hTA
  clear hgr hzr h hW h32 hT hTA
  go_enter Try.func8, Try.ntmps8
  go_upto_region 1 with fail
  rw [← HW.out]
  clear HW
  go_wp2_with (first | (refine wpList_load_row rfl 41 _ rfl (w.heap.size) rfl 41 gr (0, 0) _ r0 Try.underlying41 rfl hsg ?_) | (refine wpList_load_row rfl 43 _ rfl (w.heap.size + 1) rfl 43 _ (0, 0) _ r1 Try.underlying43 rfl Try.infoFrame7 ?_))
  refine HTA.out.mono ?_
  rintro r w1 ⟨nv1, x, rfl, hnc, hfs, hb1⟩
  have p0 : w1.heap[w.heap.size]? = some (.cells gr 41 (0, 0)) := by rw [hb1.block _ (by omega)]; exact r0
  have p1 : w1.heap[w.heap.size + 1]? = some (.cells #[.int .i64 f.kind, .int .i64 f.node, .int .i64 f.id, .slice a3 f.ops.length c3, .slice a4 f.deps.length c4, .slice a5 f.ats.length c5, .slice a6 f.vals.length c6] 43 (0, 0)) := by rw [hb1.block _ (by omega)]; exact r1
  have hz1 := hb1.size
  have hbw1 : Below w.heap.size w w1 := hb.trans (hb1.mono (by omega))
  obtain ⟨fa, hfa⟩ : ∃ fa, fa = rowF 201 nv1 := ⟨_, rfl⟩
  rw [← hfa]
  have hsfa : (Try.prog.info? 41).map (·.size) = some fa.size := by rw [hfa, rowF_size]; exact Try.infoNode
  have hzfa : zr.size = fa.size := by rw [hfa, HZR.out, rowF_size, rowF_size]
  have hofa : fa.all (·.oneCell') = true := by rw [hfa]; exact rowF_all hnc.one
  have hrfa : (w1.alloc (.cells zr 41)).heap[w1.heap.size]? = some (.cells zr 41 (0, 0)) := heap_new _ _
  obtain ⟨X, hX⟩ : ∃ X, X = (w1.alloc (.cells zr 41)).setRow w1.heap.size fa := ⟨_, rfl⟩
  have hbX : Below w1.heap.size w1 X := by rw [hX]; exact setRow_below ((Below.refl _ _).alloc (Nat.le_refl _) _) (Nat.le_refl _) _
  have rX : X.heap[w1.heap.size]? = some (.cells fa 41 (0, 0)) := by rw [hX]; exact heap_setRow hrfa
  have hzX : X.heap.size = w1.heap.size + 1 := by rw [hX, size_setRow]; exact size_push _ _
  have Hfa : Hid (fa = rowF 201 nv1) := hfa
  have HX : Hid (X = (w1.alloc (.cells zr 41)).setRow w1.heap.size fa) := hX
  clear hfa hX
  have HNX : Hid (NodeC (· < X.heap.size) X nv1 T.1) := hnc.below hbX
  have HFX : Hid (FramesV W.heap.size X x T.2.1) := hfs.later hbX
  have hbwX : Below w.heap.size w X := hbw1.trans (hbX.mono (by omega))
  have x0 : X.heap[w.heap.size]? = some (.cells gr 41 (0, 0)) := by rw [hbX.block _ (by omega)]; exact p0
  have x1 : X.heap[w.heap.size + 1]? = some (.cells #[.int .i64 f.kind, .int .i64 f.node, .int .i64 f.id, .slice a3 f.ops.length c3, .slice a4 f.deps.length c4, .slice a5 f.ats.length c5, .slice a6 f.vals.length c6] 43 (0, 0)) := by rw [hbX.block _ (by omega)]; exact p1
  clear hnc hfs hb1 p0 p1 r0 r1 hbw1 hbX HTA hb
  go_upto_region 2 with (first | (refine wpList_alloc_as rfl 41 rfl zr hz0 ?_) | (refine wpList_store_row rfl 41 _ _ rfl w1.heap.size fa rfl rfl 41 _ hrfa hsfa hzfa hofa ?_))
  rw [← HX.out]
  clear HX hrfa
  obtain ⟨ax, cx, ex⟩ := HFX.out.form
  subst ex
  by_cases t0 : T.2.2 = 0
  · have d0 : (T.2.2 != 0) = false := by simpa using t0
    have HTW : Hid (takeN T.1 who f = T ∧ goodNB T.1 = true) := by
      unfold Hid
      rw [HT.out] at t0 ⊢
      exact take_same t0 H32.out
    have HT0 : Hid (T.2.2 = 0) := t0
    clear t0
    go_wp2_with fail
    refine (keep_takes X).mono ?_
    rintro r x2 ⟨rfl, hb2⟩
    have HN2 : Hid (NodeC (· < x2.heap.size) x2 nv1 T.1) := HNX.out.below hb2
    have HF2 : Hid (FramesV W.heap.size x2 (.slice ax T.2.1.length cx) T.2.1) := HFX.out.later hb2
    have hbw2 : Below w.heap.size w x2 := hbwX.trans (hb2.mono (by omega))
    have hz2 := hb2.size
    have ra : x2.heap[w1.heap.size]? = some (.cells fa 41 (0, 0)) := by rw [hb2.block _ (by omega)]; exact rX
    have rf : x2.heap[w.heap.size + 1]? = some (.cells #[.int .i64 f.kind, .int .i64 f.node, .int .i64 f.id, .slice a3 f.ops.length c3, .slice a4 f.deps.length c4, .slice a5 f.ats.length c5, .slice a6 f.vals.length c6] 43 (0, 0)) := by rw [hb2.block _ (by omega)]; exact x1
    clear hb2 HNX HFX x0 x1 rX hbwX
    have hTB := take_any nv1 T.1 who _ f x2 HN2.out (HFV.out x2 hbw2)
    rw [HTW.out.1, ← Hfa.out] at hTB
    have HTB : Hid (Calls Try.prog 20 #[.agg fa, .int .i64 who, .agg #[.int .i64 f.kind, .int .i64 f.node, .int .i64 f.id, .slice a3 f.ops.length c3, .slice a4 f.deps.length c4, .slice a5 f.ats.length c5, .slice a6 f.vals.length c6]] x2 fun r w' => ∃ nv' x, r = .returned (.tuple #[.agg (rowF 201 nv'), x, .int .i64 T.2.2]) ∧ NodeC (· < w'.heap.size) w' nv' T.1 ∧ FramesV x2.heap.size w' x T.2.1 ∧ Below x2.heap.size x2 w') := hTB
    clear hTB
    go_wp2_with (first | (refine wpList_load_row rfl 41 _ rfl (w1.heap.size) rfl 41 fa (0, 0) _ ra Try.underlying41 rfl hsfa ?_) | (refine wpList_load_row rfl 43 _ rfl (w.heap.size + 1) rfl 43 _ (0, 0) _ rf Try.underlying43 rfl Try.infoFrame7 ?_))
    refine HTB.out.mono ?_
    rintro r w3 ⟨nv3, y, rfl, hnc, hfs, hb3⟩
    have hz3 := hb3.size
    have q0 : w3.heap[w1.heap.size]? = some (.cells fa 41 (0, 0)) := by rw [hb3.block _ (by omega)]; exact ra
    have HN3 : Hid (NodeC (· < w3.heap.size) w3 nv1 T.1) := HN2.out.below hb3
    have HF3 : Hid (FramesV W.heap.size w3 (.slice ax T.2.1.length cx) T.2.1) := HF2.out.later hb3
    have hbw3 : Below w.heap.size w w3 := hbw2.trans (hb3.mono (by omega))
    obtain ⟨fb, hfb⟩ : ∃ fb, fb = rowF 201 nv3 := ⟨_, rfl⟩
    rw [← hfb]
    have hsfb : (Try.prog.info? 41).map (·.size) = some fb.size := by rw [hfb, rowF_size]; exact Try.infoNode
    have hzfb : zr.size = fb.size := by rw [hfb, HZR.out, rowF_size, rowF_size]
    have hofb : fb.all (·.oneCell') = true := by rw [hfb]; exact rowF_all hnc.one
    have hrfb : (w3.alloc (.cells zr 41)).heap[w3.heap.size]? = some (.cells zr 41 (0, 0)) := heap_new _ _
    obtain ⟨Y, hY⟩ : ∃ Y, Y = (w3.alloc (.cells zr 41)).setRow w3.heap.size fb := ⟨_, rfl⟩
    have hbY : Below w3.heap.size w3 Y := by rw [hY]; exact setRow_below ((Below.refl _ _).alloc (Nat.le_refl _) _) (Nat.le_refl _) _
    have rY : Y.heap[w3.heap.size]? = some (.cells fb 41 (0, 0)) := by rw [hY]; exact heap_setRow hrfb
    have hzY : Y.heap.size = w3.heap.size + 1 := by rw [hY, size_setRow]; exact size_push _ _
    have Hfb : Hid (fb = rowF 201 nv3) := hfb
    have HY : Hid (Y = (w3.alloc (.cells zr 41)).setRow w3.heap.size fb) := hY
    clear hfb hY
    have HNa : Hid (NodeC (· < Y.heap.size) Y nv1 T.1) := HN3.out.below hbY
    have HNb : Hid (NodeC (· < Y.heap.size) Y nv3 T.1) := hnc.below hbY
    have HFa : Hid (FramesV W.heap.size Y (.slice ax T.2.1.length cx) T.2.1) := HF3.out.later hbY
    have HFb : Hid (FramesV x2.heap.size Y y T.2.1) := hfs.later hbY
    have hbwY : Below w.heap.size w Y := hbw3.trans (hbY.mono (by omega))
    have ya : Y.heap[w1.heap.size]? = some (.cells fa 41 (0, 0)) := by rw [hbY.block _ (by omega)]; exact q0
    clear hnc hfs hb3 q0 hbw3 hbY HTB HN2 HF2 HN3 HF3 ra rf hbw2
    go_upto_region 5 with (first | (refine wpList_alloc_as rfl 41 rfl zr hz0 ?_) | (refine wpList_store_row rfl 41 _ _ rfl w3.heap.size fb rfl rfl 41 _ hrfb hsfb hzfb hofb ?_))
    rw [← HY.out]
    clear HY hrfb
    obtain ⟨ay, cy, ey⟩ := HFb.out.form
    subst ey
    have hfl := HFa.out.len
    unfold maxLen at hfl
    obtain ⟨fs, hfs⟩ : ∃ fs, fs = T.2.1 := ⟨_, rfl⟩
    rw [HT0.out]
    rw [← hfs] at HFa HFb hfl ⊢
    clear hfs
    have hne : ((fs.length : Int) != (fs.length : Int)) = false := by simp
    go_wp2_with (first | (refine wpList_wanted (by rfl) fun K hK => ?_; refine wp_load_row 41 _ rfl (w1.heap.size) rfl 41 fa (0, 0) _ ya Try.underlying41 rfl hsfa ?_; refine hK _ _ ?_) | (refine wpList_wanted (by rfl) fun K hK => ?_; refine wp_load_row 41 _ rfl (w3.heap.size) rfl 41 fb (0, 0) _ rY Try.underlying41 rfl hsfb ?_; refine hK _ _ ?_))
    rw [Hfa.out, Hfb.out]
    refine (keep_sameNode nv1 nv3 T.1 Y HNa.out HNb.out).mono ?_
    rintro r y1 ⟨rfl, hb4⟩
    have HNa4 : Hid (NodeC (· < y1.heap.size) y1 nv1 T.1) := HNa.out.below hb4
    have HFa4 : Hid (FramesV W.heap.size y1 (.slice ax fs.length cx) fs) := HFa.out.later hb4
    have HFb4 : Hid (FramesV x2.heap.size y1 (.slice ay fs.length cy) fs) := HFb.out.later hb4
    have hbw4 : Below w.heap.size w y1 := hbwY.trans (hb4.mono (by omega))
    have y4 : y1.heap[w1.heap.size]? = some (.cells fa 41 (0, 0)) := by rw [hb4.block _ (by omega)]; exact ya
    clear hb4 HNa HNb HFa HFb ya rY hbwY
    go_wp2_with (refine wpList_wanted (by rfl) fun K hK => ?_; refine wp_load_row 41 _ rfl (w1.heap.size) rfl 41 fa (0, 0) _ y4 Try.underlying41 rfl hsfa ?_; refine hK _ _ ?_)
    rw [Hfa.out]
    refine (good_any nv1 T.1 y1 HNa4.out).mono ?_
    rintro r y2 ⟨rfl, hb5⟩
    rw [HTW.out.2]
    have HFa5 : Hid (FramesV W.heap.size y2 (.slice ax fs.length cx) fs) := HFa4.out.later hb5
    have HFb5 : Hid (FramesV x2.heap.size y2 (.slice ay fs.length cy) fs) := HFb4.out.later hb5
    have hbw5 : Below w.heap.size w y2 := hbw4.trans (hb5.mono (by have := hbw4.size; omega))
    clear hb5 HNa4 HFa4 HFb4 y4 hbw4
    go_wp2_with fail
    go_loopw [69] (fun i wr => ∃ k : Nat, k ≤ fs.length ∧ i = .int .i64 k ∧ Below y2.heap.size y2 wr) (fun i _ => fs.length - (intOf i).toNat)
    case atStart => exact ⟨0, Nat.zero_le _, rfl, Below.refl _ _⟩
    case round =>
      obtain ⟨i, hi, rfl, hB⟩ := hrel
      have hbwr : Below w.heap.size w wr := hbw5.trans (hB.mono hbw5.size)
      by_cases hlt : i < fs.length
      · obtain ⟨g1, ca, rfl, hg1, ra, hla, hva⟩ := (HFa5.out.later hB).at hlt
        obtain ⟨g2, cb, rfl, hg2, rb, hlb, hvb⟩ := (HFb5.out.later hB).at hlt
        have HVa : Hid (FrameV wr (.agg ca.toArray) fs[i]) := hva
        have HVb : Hid (FrameV wr (.agg cb.toArray) fs[i]) := hvb
        have hsa : (Try.prog.info? 43).map (·.size) = some ca.length := by rw [hla]; exact Try.infoFrame7
        have hsb : (Try.prog.info? 43).map (·.size) = some cb.length := by rw [hlb]; exact Try.infoFrame7
        clear hva hvb hla hlb
        go_wp2_with fail
        have HRa : Hid (∀ wx, Below wr.heap.size wr wx → wx.rangeAt g1 (i * 7) ca) := fun wx hx => range_later ra hx hg1
        have HRb : Hid (∀ wx, Below wr.heap.size wr wx → wx.rangeAt g2 (i * 7) cb) := fun wx hx => range_later rb hx hg2
        clear ra rb
        refine wp_region_held_drew (S := fun w' => Below wr.heap.size wr w') (by kernel_rfl) ((Below.refl _ _).drew) ?_
        intro hH
        refine wpAnyH_takeD (i := 0) (d := some 72) (v := .slice (some ⟨g1, 0, none⟩) fs.length cx) rfl rfl (by kernel_rfl) (by kernel_rfl) (by kernel_rfl) (fun _ _ _ h => h) (Or.inl ⟨by rfl, fun _ _ => by go_simp⟩) hH ?_
        simp only [Act.put, List.setIfInBounds_toArray, List.set_cons_zero, List.set_cons_succ]
        refine wpAnyH_takeD (i := 1) (d := some 73) (v := .int .i64 i) rfl rfl (by kernel_rfl) (by kernel_rfl) (by kernel_rfl) (fun _ _ _ h => h) (Or.inl ⟨by rfl, fun _ _ => by go_simp⟩) hH ?_
        simp only [Act.put, List.setIfInBounds_toArray, List.set_cons_zero, List.set_cons_succ]
        refine wpAnyH_takeD (i := 2) (d := some 74) (v := .pointer (some ⟨g1, i * 7, none⟩)) rfl rfl (by kernel_rfl) (by kernel_rfl) (by kernel_rfl) (fun _ _ _ h => h) (Or.inl ⟨by rfl, fun _ _ => by go_simp⟩) hH ?_
        simp only [Act.put, List.setIfInBounds_toArray, List.set_cons_zero, List.set_cons_succ]
        refine wpAnyH_takeD (i := 3) (d := some 75) (v := .agg ca.toArray) rfl rfl (by kernel_rfl) (by kernel_rfl) (by kernel_rfl) (fun _ _ _ h => h) (yieldsIf_load_mid (by rfl) _ _ rfl _ _ rfl ca _ (HRa.out) Try.underlying43 rfl hsa) hH ?_
        simp only [Act.put, List.setIfInBounds_toArray, List.set_cons_zero, List.set_cons_succ]
        refine wpAnyH_takeD (i := 4) (d := some 76) (v := .slice (some ⟨g2, 0, none⟩) fs.length cy) rfl rfl (by kernel_rfl) (by kernel_rfl) (by kernel_rfl) (fun _ _ _ h => h) (Or.inl ⟨by rfl, fun _ _ => by go_simp⟩) hH ?_
        simp only [Act.put, List.setIfInBounds_toArray, List.set_cons_zero, List.set_cons_succ]
        refine wpAnyH_takeD (i := 5) (d := some 77) (v := .int .i64 i) rfl rfl (by kernel_rfl) (by kernel_rfl) (by kernel_rfl) (fun _ _ _ h => h) (Or.inl ⟨by rfl, fun _ _ => by go_simp⟩) hH ?_
        simp only [Act.put, List.setIfInBounds_toArray, List.set_cons_zero, List.set_cons_succ]
        refine wpAnyH_takeD (i := 6) (d := some 78) (v := .pointer (some ⟨g2, i * 7, none⟩)) rfl rfl (by kernel_rfl) (by kernel_rfl) (by kernel_rfl) (fun _ _ _ h => h) (Or.inl ⟨by rfl, fun _ _ => by go_simp⟩) hH ?_
        simp only [Act.put, List.setIfInBounds_toArray, List.set_cons_zero, List.set_cons_succ]
        refine wpAnyH_takeD (i := 7) (d := some 79) (v := .agg cb.toArray) rfl rfl (by kernel_rfl) (by kernel_rfl) (by kernel_rfl) (fun _ _ _ h => h) (yieldsIf_load_mid (by rfl) _ _ rfl _ _ rfl cb _ (HRb.out) Try.underlying43 rfl hsb) hH ?_
        simp only [Act.put, List.setIfInBounds_toArray, List.set_cons_zero, List.set_cons_succ]
        refine wpAnyH_ready (rs := [8]) (by kernel_rfl) (by simp) ?_
        refine AllReadyH.cons rfl (fun K hK => ?_) AllReadyH.nil
        go_simp
        refine (keep_sameFrame_any _ _ fs[i] _ (HVa.out.later hH) (HVb.out.later hH)).mono ?_
        rintro r z2 ⟨rfl, hb2⟩
        go_wp2_with fail
        refine hK.out _ _ (hH.trans hb2) (fun hH2 => ?_)
        clear hK K hH
        have hH := hH2
        clear hH2 hb2
        refine wpAnyH_takeD (i := 9) (d := some 81) (v := .bool false) rfl rfl (by kernel_rfl) (by kernel_rfl) (by kernel_rfl) (fun _ _ _ h => h) (Or.inl ⟨by rfl, fun _ _ => by go_simp⟩) hH ?_
        simp only [Act.put, List.setIfInBounds_toArray, List.set_cons_zero, List.set_cons_succ]
        refine wpAnyH_done (by kernel_rfl) ?_ _
        have hB2 : Below y2.heap.size y2 z2 := hB.trans (hH.mono hB.size)
        clear hH
        go_wp2
        go_roundw
        case rel => exact ⟨i + 1, by omega, by go_num, hB2⟩
        case measure => simp [intOf]; omega
      · go_wp2
        go_ret
        exact ⟨rfl, hbwr⟩
  · have d0 : (T.2.2 != 0) = true := by simpa using t0
    obtain ⟨e1, e2⟩ : T.1 = s ∧ T.2.1 = [] := by rw [HT.out] at t0 ⊢; exact take_fail t0
    have HNs : Hid (NodeC (· < X.heap.size) X nv1 s) := by unfold Hid; rw [← e1]; exact HNX.out
    have HNo : Hid (NodeC (· < X.heap.size) X nv s) := HN.out.below hbwX
    rw [e2]
    clear t0 e1 e2 HNX HFX
    go_wp2_with (first | (refine wpList_load_row rfl 41 _ rfl (w1.heap.size) rfl 41 fa (0, 0) _ rX Try.underlying41 rfl hsfa ?_) | (refine wpList_load_row rfl 41 _ rfl (w.heap.size) rfl 41 gr (0, 0) _ x0 Try.underlying41 rfl hsg ?_))
    rw [Hfa.out, HGR.out]
    refine (keep_sameNode nv1 nv s X HNs.out HNo.out).mono ?_
    rintro r y1 ⟨rfl, hb2⟩
    have hbw2 : Below w.heap.size w y1 := hbwX.trans (hb2.mono (by omega))
    clear hb2 HNs HNo hbwX x0 x1 rX
    go_wp2_with fail
    refine (keep_takes y1).mono ?_
    rintro r y2 ⟨rfl, hb3⟩
    have hbw3 : Below w.heap.size w y2 := hbw2.trans (hb3.mono hbw2.size)
    clear hb3
    go_wp2
    go_ret
    exact ⟨rfl, hbw3⟩

end Go.Proofs.Ytgdkjjmnoikhdab

namespace Go.Proofs.Ytgdkjjmnoikhdab
open Go.ChangeShapes Go.WideShapes Go.ChangeAt Go.RowKit Go.Deep

theorem array7 {α : Type} {cs : Array α} (h : cs.size = 7) : ∃ c0 c1 c2 c3 c4 c5 c6, cs = #[c0, c1, c2, c3, c4, c5, c6] := by
  obtain ⟨l⟩ := cs
  match l, h with
  | [c0, c1, c2, c3, c4, c5, c6], _ => exact ⟨c0, c1, c2, c3, c4, c5, c6, rfl⟩

theorem list7 {α : Type} {l : List α} (h : l.length = 7) : ∃ c0 c1 c2 c3 c4 c5 c6, l = [c0, c1, c2, c3, c4, c5, c6] := by
  match l, h with
  | [c0, c1, c2, c3, c4, c5, c6], _ => exact ⟨c0, c1, c2, c3, c4, c5, c6, rfl⟩
theorem Try.cellsFrame : Try.prog.cellsOf 43 = 7 := by kernel_rfl
theorem Try.cellsOps : Try.prog.cellsOf 35 = 1 := by kernel_rfl
theorem Try.cellsInts : Try.prog.cellsOf 23 = 1 := by kernel_rfl

theorem str_self (s : ByteArray) : s = str s.data.toList := by
  apply ByteArray.ext
  simp [str]

section
variable {H : Type} {enc : TypeId × Value → H} {w : World} {base : Nat} {spare : Nat → Bool} {held : Bool}

theorem open_sl_ints {n : Nat} {c : Value} {y : DataW H × List MemPlace} (h : DataW.trod enc Try.prog w base spare held n 23 [c] = some y) : ∃ a cap zs, c = .slice a (zs : List Int).length cap ∧ SlInts w a cap zs := by
  obtain ⟨a, l, cap, hc⟩ := Joins.slice_form Try.underlying23 h
  simp at hc
  subst hc
  obtain ⟨hl, zs, rfl, hz, _, hn, hcap⟩ := open_intsAt Try.underlying23 Try.underlying3 Try.cellsInt h
  exact ⟨a, cap, zs, rfl, hz, hl, hcap, hn⟩
theorem open_sl_ops {n : Nat} {c : Value} {y : DataW H × List MemPlace} (h : DataW.trod enc Try.prog w base spare held n 35 [c] = some y) : ∃ a cap zs, c = .slice a (zs : List OpL).length cap ∧ SlOps w a cap zs := by
  obtain ⟨a, l, cap, hc⟩ := Joins.slice_form Try.underlying35 h
  simp at hc
  subst hc
  obtain ⟨hl, zs, rfl, hz, _, hn, hcap⟩ := open_opsAt Try.underlying35 Try.underlying88 Try.underlying3 Try.cellsOp Try.cellsInt rfl rfl rfl rfl rfl rfl h
  exact ⟨a, cap, zs, rfl, hz, hl, hcap, hn⟩

set_option maxRecDepth 100000 in
theorem open_frame {r : Reach} {b0 : Nat} {v : Value} {d : DataW H} {p : List MemPlace} (hv : Value.okWide Try.prog w r b0 43 v) (h : DataW.Trod enc Try.prog w base spare held 43 v d p) : ∃ f, FrameV w v f := by
  obtain ⟨cs, rfl, hsz⟩ := okWide_struct Try.underlying43 hv
  obtain ⟨c0, c1, c2, c3, c4, c5, c6, rfl⟩ := array7 (hsz.trans Try.cellsFrame)
  obtain ⟨fuel, hf⟩ := h
  obtain ⟨xs, n, _, _, _, hxl, hff⟩ := DataW.trod_struct Try.underlying43 hf
  have g0 := hff 0 _ rfl
  have g1 := hff 1 _ rfl
  have g2 := hff 2 _ rfl
  have g3 := hff 3 _ rfl
  have g4 := hff 4 _ rfl
  have g5 := hff 5 _ rfl
  have g6 := hff 6 _ rfl
  simp [Value.cells, Try.cellsInt, Try.cellsOps, Try.cellsInts] at g0 g1 g2 g3 g4 g5 g6
  obtain ⟨x0, x1, x2, x3, x4, x5, x6, rfl⟩ := list7 hxl
  obtain ⟨n0, r0, _, _⟩ := DataW.trod_int Try.underlying3 g0
  obtain ⟨n1, r1, _, _⟩ := DataW.trod_int Try.underlying3 g1
  obtain ⟨n2, r2, _, _⟩ := DataW.trod_int Try.underlying3 g2
  simp at r0 r1 r2
  subst r0 r1 r2
  obtain ⟨a3, d3, z3, rfl, h3⟩ := open_sl_ops g3
  obtain ⟨a4, d4, z4, rfl, h4⟩ := open_sl_ints g4
  obtain ⟨a5, d5, z5, rfl, h5⟩ := open_sl_ints g5
  obtain ⟨a6, d6, z6, rfl, h6⟩ := open_sl_ints g6
  exact ⟨⟨n0, n1, n2, z3, z4, z5, z6⟩, a3, d3, a4, d4, a5, d5, a6, d6, rfl, h3, h4, h5, h6⟩
end

end Go.Proofs.Ytgdkjjmnoikhdab

namespace Go.Proofs.Ytgdkjjmnoikhdab
open Go.ChangeShapes Go.WideShapes Go.ChangeAt Go.RowKit Go.Deep

section
variable {H : Type} {enc : TypeId × Value → H} {w : World} {base : Nat} {spare : Nat → Bool} {held : Bool}

theorem room_ints {n : Nat} {a : Option Addr} {len cap : Nat} {y : DataW H × List MemPlace} (h : DataW.trod enc Try.prog w base spare held n 23 [.slice a len cap] = some y) (hw : ∀ m ∈ y.1.weights Try.prog 23, m ≤ reachBytes) : len * 8 ≤ 140737488355328 := by
  obtain ⟨d, p⟩ := y
  rcases slice_datum Try.underlying23 h with hq | ⟨el, sp, rfl, hel⟩
  · omega
  · have := hw ((el.length + sp.length) * Try.prog.bytesOf 3) (by simp [DataW.weights, Try.underlying23])
    rw [Try.bytesInt] at this
    unfold reachBytes at this
    omega
theorem room_ops {n : Nat} {a : Option Addr} {len cap : Nat} {y : DataW H × List MemPlace} (h : DataW.trod enc Try.prog w base spare held n 35 [.slice a len cap] = some y) (hw : ∀ m ∈ y.1.weights Try.prog 35, m ≤ reachBytes) : len * 24 ≤ 140737488355328 := by
  obtain ⟨d, p⟩ := y
  rcases slice_datum Try.underlying35 h with hq | ⟨el, sp, rfl, hel⟩
  · omega
  · have := hw ((el.length + sp.length) * Try.prog.bytesOf 88) (by simp [DataW.weights, Try.underlying35])
    rw [Try.bytesOp] at this
    unfold reachBytes at this
    omega
end

end Go.Proofs.Ytgdkjjmnoikhdab

namespace Go.Proofs.Ytgdkjjmnoikhdab
open Go.ChangeShapes Go.WideShapes Go.ChangeAt Go.RowKit Go.Deep

theorem Try.cellsGraph : Try.prog.cellsOf 26 = 64 := by kernel_rfl
theorem Try.cellsSet : Try.prog.cellsOf 22 = 32 := by kernel_rfl
theorem Try.cellsLists : Try.prog.cellsOf 24 = 32 := by kernel_rfl
theorem Try.cellsBool : Try.prog.cellsOf 4 = 1 := by kernel_rfl
theorem Try.cellsSlice : Try.prog.cellsOf 23 = 1 := by kernel_rfl

theorem part_one {cs : List Value} {o n i : Nat} (h : o + i < cs.length) (hi : i < n) : ((((cs.drop o).take n).drop i).take 1) = [cs.getD (o + i) (.bool false)] := by
  apply List.ext_getElem?
  intro k
  cases k with
  | zero => simp [hi, List.getD, h]
  | succ k => simp; omega

section
variable {H : Type} {enc : TypeId × Value → H} {w : World} {base : Nat} {spare : Nat → Bool} {held : Bool}

set_option maxRecDepth 100000 in
theorem open_graph {r : Reach} {b0 : Nat} {v : Value} {d : DataW H} {p : List MemPlace} (hv : Value.okWide Try.prog w r b0 26 v) (h : DataW.Trod enc Try.prog w base spare held 26 v d p) :
    ∃ gv g, v = .agg (rowF 64 gv) ∧ GraphC w.heap.size w gv g := by
  obtain ⟨cs, rfl, hsz⟩ := okWide_struct Try.underlying26 hv
  rw [Try.cellsGraph] at hsz
  obtain ⟨fuel, hf⟩ := h
  obtain ⟨xs, n, _, _, _, hxl, hff⟩ := DataW.trod_struct Try.underlying26 hf
  have g0 : DataW.trod enc Try.prog w base spare held n 22 ((cs.toList.drop 0).take (Try.prog.cellsOf 22)) = xs[0]? := hff 0 _ rfl
  have g1 : DataW.trod enc Try.prog w base spare held n 24 ((cs.toList.drop 32).take (Try.prog.cellsOf 24)) = xs[1]? := hff 1 _ rfl
  have hl : cs.toList.length = 64 := by simpa using hsz
  rw [Try.cellsSet] at g0
  rw [Try.cellsLists] at g1
  obtain ⟨x0, hx0⟩ : ∃ x, xs[0]? = some x := ⟨_, List.getElem?_eq_getElem (by rw [hxl]; decide)⟩
  obtain ⟨x1, hx1⟩ : ∃ x, xs[1]? = some x := ⟨_, List.getElem?_eq_getElem (by rw [hxl]; decide)⟩
  rw [hx0] at g0
  rw [hx1] at g1
  obtain ⟨ys, _, _, _, _, hyl, hy⟩ := DataW.trod_array Try.underlying22 g0
  obtain ⟨zs, _, _, _, _, hzl, hz⟩ := DataW.trod_array Try.underlying24 g1
  have H1 : ∀ i, i < 32 → ∃ b, cs.toList.getD i (.bool false) = .bool b := by
    intro i hi
    have := hy i hi
    rw [Try.cellsBool, Nat.mul_one, part_one (by omega) hi, List.getElem?_eq_getElem (by omega)] at this
    obtain ⟨b, hb, _⟩ := DataW.trod_bool Try.underlying4 this
    rw [Nat.zero_add] at hb
    exact ⟨b, by simpa using hb⟩
  have H2 : ∀ i, i < 32 → ∃ q : Option Addr × Nat × List Int, cs.toList.getD (32 + i) (.bool false) = .slice q.1 q.2.2.length q.2.1 ∧ IntsAt w.heap.size w q.1 q.2.2 ∧ q.2.2.length ≤ maxLen := by
    intro i hi
    have := hz i hi
    rw [Try.cellsSlice, Nat.mul_one, part_one (by omega) hi, List.getElem?_eq_getElem (by omega)] at this
    obtain ⟨a, l, cap, hc⟩ := Joins.slice_form Try.underlying23 this
    simp only [List.cons.injEq, and_true] at hc
    rw [hc] at this
    obtain ⟨h1, ns, rfl, h2, _⟩ := open_intsAt Try.underlying23 Try.underlying3 Try.cellsInt this
    exact ⟨(a, cap, ns), hc, h2, h1⟩
  obtain ⟨K, hK⟩ := choose_lt H1
  obtain ⟨Q, hQ⟩ := choose_lt H2
  refine ⟨fun i => cs.toList.getD i (.bool false), ⟨K, fun i => (Q i).2.2⟩, ?_, ⟨hK, fun i hi => ⟨(Q i).1, (Q i).2.1, (hQ i hi).1, (hQ i hi).2.1, (hQ i hi).2.2⟩⟩⟩
  congr 1
  apply Array.ext_getElem?
  intro i
  by_cases hi : i < 64
  · rw [rowF_get _ hi]
    simp [List.getD, hsz, hi]
  · rw [Array.getElem?_eq_none (by omega), Array.getElem?_eq_none (by rw [rowF_size]; omega)]
end

end Go.Proofs.Ytgdkjjmnoikhdab
