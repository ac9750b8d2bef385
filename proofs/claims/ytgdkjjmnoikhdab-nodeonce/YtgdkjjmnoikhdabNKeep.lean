/-
  The contracts of the statements' own sameEntry, sameNode and takes.
-/
import Derived.Test.YtgdkjjmnoikhdabNTake
import Derived.Test.YtgdkjjmnoikhdabKSmF
namespace Go.Proofs.Ytgdkjjmnoikhdab
open Go.RowKit

set_option maxRecDepth 100000 in
set_option maxHeartbeats 1000000 in
theorem keep_sameEntry (v v' : Value) (e : EntryL) (w : World) (h : EntV w v e) (h' : EntV w v' e) :
    Calls Try.prog 37 #[v, v'] w fun r w' => r = .returned (.bool true) ∧ Below w.heap.size w w' := by
  obtain ⟨a1, c1, a2, c2, a3, c3, a4, c4, a5, c5, rfl, x1, x2, x3, x4, x5, _⟩ := h
  obtain ⟨a1', c1', a2', c2', a3', c3', a4', c4', a5', c5', rfl, y1, y2, y3, y4, y5, _⟩ := h'
  obtain ⟨W, hW⟩ : ∃ W, W = (w.alloc (.cells #[.int .i64 e.state, .slice a1 e.ops.length c1, .slice a2 e.first.length c2, .slice a3 e.deps.length c3, .slice a4 e.ats.length c4, .slice a5 e.vals.length c5] 37)).alloc (.cells #[.int .i64 e.state, .slice a1' e.ops.length c1', .slice a2' e.first.length c2', .slice a3' e.deps.length c3', .slice a4' e.ats.length c4', .slice a5' e.vals.length c5'] 37) := ⟨_, rfl⟩
  obtain ⟨r0, r1⟩ := two_rows w (.cells #[.int .i64 e.state, .slice a1 e.ops.length c1, .slice a2 e.first.length c2, .slice a3 e.deps.length c3, .slice a4 e.ats.length c4, .slice a5 e.vals.length c5] 37) (.cells #[.int .i64 e.state, .slice a1' e.ops.length c1', .slice a2' e.first.length c2', .slice a3' e.deps.length c3', .slice a4' e.ats.length c4', .slice a5' e.vals.length c5'] 37)
  rw [← hW] at r0 r1
  have hb : Below w.heap.size w W := by rw [hW]; exact ((Below.refl _ _).alloc (Nat.le_refl _) _).alloc (by rw [size_push]; omega) _
  have hzW : W.heap.size = w.heap.size + 2 := by rw [hW, size_push, size_push]
  have es : (e.state == e.state) = true := by simp
  have HW : Hid (W = (w.alloc (.cells #[.int .i64 e.state, .slice a1 e.ops.length c1, .slice a2 e.first.length c2, .slice a3 e.deps.length c3, .slice a4 e.ats.length c4, .slice a5 e.vals.length c5] 37)).alloc (.cells #[.int .i64 e.state, .slice a1' e.ops.length c1', .slice a2' e.first.length c2', .slice a3' e.deps.length c3', .slice a4' e.ats.length c4', .slice a5' e.vals.length c5'] 37)) := hW
  have KC : Hid (∀ wx, Below W.heap.size W wx → (wx.heap[w.heap.size]? = some (.cells #[.int .i64 e.state, .slice a1 e.ops.length c1, .slice a2 e.first.length c2, .slice a3 e.deps.length c3, .slice a4 e.ats.length c4, .slice a5 e.vals.length c5] 37 (0, 0)) ∧ wx.heap[w.heap.size + 1]? = some (.cells #[.int .i64 e.state, .slice a1' e.ops.length c1', .slice a2' e.first.length c2', .slice a3' e.deps.length c3', .slice a4' e.ats.length c4', .slice a5' e.vals.length c5'] 37 (0, 0)))) := fun wx hx => ⟨by rw [hx.block _ (by omega)]; exact r0, by rw [hx.block _ (by omega)]; exact r1⟩
  clear hW r0 r1
  go_enter Try.func37, Try.ntmps37
  go_upto_region 1 with fail
  rw [← HW.out]
  clear HW
  obtain ⟨r0, r1⟩ := KC.out W (Below.refl _ _)
  have p0 : W.cell? ⟨w.heap.size, 0, none⟩ = some (.int .i64 e.state) := by rw [cell_of_row _ _ _ _ _ _ r0]; rfl
  have p1 : W.cell? ⟨w.heap.size + 1, 0, none⟩ = some (.int .i64 e.state) := by rw [cell_of_row _ _ _ _ _ _ r1]; rfl
  have q1 : W.cell? ⟨w.heap.size, 1, none⟩ = some (.slice a1 e.ops.length c1) := by rw [cell_of_row _ _ _ _ _ _ r0]; rfl
  have z1 : W.cell? ⟨w.heap.size + 1, 1, none⟩ = some (.slice a1' e.ops.length c1') := by rw [cell_of_row _ _ _ _ _ _ r1]; rfl
  clear r0 r1
  go_wp2_with fail
  refine (keep_sameOps_any a1 c1 e.ops a1' c1' W x1.2.1 (x1.later hb).1 (y1.later hb).1).mono ?_
  rintro r w1 ⟨rfl, hx1⟩
  have hb1 : Below W.heap.size W w1 := hx1
  have hw1 : Below w.heap.size w w1 := hb.trans (hb1.mono (by omega))
  obtain ⟨r0, r1⟩ := KC.out w1 hb1
  clear hx1 q1 z1
  have q2 : w1.cell? ⟨w.heap.size, 2, none⟩ = some (.slice a2 e.first.length c2) := by rw [cell_of_row _ _ _ _ _ _ r0]; rfl
  have z2 : w1.cell? ⟨w.heap.size + 1, 2, none⟩ = some (.slice a2' e.first.length c2') := by rw [cell_of_row _ _ _ _ _ _ r1]; rfl
  clear r0 r1
  go_wp2_with fail
  refine (keep_same_any a2 c2 e.first a2' c2' w1 x2.2.1 (x2.later hw1).1 (y2.later hw1).1).mono ?_
  rintro r w2 ⟨rfl, hx2⟩
  have hb2 : Below W.heap.size W w2 := hb1.trans (hx2.mono hb1.size)
  have hw2 : Below w.heap.size w w2 := hb.trans (hb2.mono (by omega))
  obtain ⟨r0, r1⟩ := KC.out w2 hb2
  clear hx2 q2 z2
  have q3 : w2.cell? ⟨w.heap.size, 3, none⟩ = some (.slice a3 e.deps.length c3) := by rw [cell_of_row _ _ _ _ _ _ r0]; rfl
  have z3 : w2.cell? ⟨w.heap.size + 1, 3, none⟩ = some (.slice a3' e.deps.length c3') := by rw [cell_of_row _ _ _ _ _ _ r1]; rfl
  clear r0 r1
  go_wp2_with fail
  refine (keep_same_any a3 c3 e.deps a3' c3' w2 x3.2.1 (x3.later hw2).1 (y3.later hw2).1).mono ?_
  rintro r w3 ⟨rfl, hx3⟩
  have hb3 : Below W.heap.size W w3 := hb2.trans (hx3.mono hb2.size)
  have hw3 : Below w.heap.size w w3 := hb.trans (hb3.mono (by omega))
  obtain ⟨r0, r1⟩ := KC.out w3 hb3
  clear hx3 q3 z3
  have q4 : w3.cell? ⟨w.heap.size, 4, none⟩ = some (.slice a4 e.ats.length c4) := by rw [cell_of_row _ _ _ _ _ _ r0]; rfl
  have z4 : w3.cell? ⟨w.heap.size + 1, 4, none⟩ = some (.slice a4' e.ats.length c4') := by rw [cell_of_row _ _ _ _ _ _ r1]; rfl
  clear r0 r1
  go_wp2_with fail
  refine (keep_same_any a4 c4 e.ats a4' c4' w3 x4.2.1 (x4.later hw3).1 (y4.later hw3).1).mono ?_
  rintro r w4 ⟨rfl, hx4⟩
  have hb4 : Below W.heap.size W w4 := hb3.trans (hx4.mono hb3.size)
  have hw4 : Below w.heap.size w w4 := hb.trans (hb4.mono (by omega))
  obtain ⟨r0, r1⟩ := KC.out w4 hb4
  clear hx4 q4 z4
  have q5 : w4.cell? ⟨w.heap.size, 5, none⟩ = some (.slice a5 e.vals.length c5) := by rw [cell_of_row _ _ _ _ _ _ r0]; rfl
  have z5 : w4.cell? ⟨w.heap.size + 1, 5, none⟩ = some (.slice a5' e.vals.length c5') := by rw [cell_of_row _ _ _ _ _ _ r1]; rfl
  clear r0 r1
  go_wp2_with fail
  refine (keep_same_any a5 c5 e.vals a5' c5' w4 x5.2.1 (x5.later hw4).1 (y5.later hw4).1).mono ?_
  rintro r w5 ⟨rfl, hx5⟩
  have hb5 : Below W.heap.size W w5 := hb4.trans (hx5.mono hb4.size)
  have hw5 : Below w.heap.size w w5 := hb.trans (hb5.mono (by omega))
  obtain ⟨r0, r1⟩ := KC.out w5 hb5
  clear hx5 q5 z5
  clear r0 r1
  go_wp2
  go_ret
  exact ⟨rfl, hw5⟩

theorem run_part_ints {P : Program} {e : TypeId} (he : P.underlying e = some (.int .i64)) (hi : (P.info? e).map (·.size) = some 1) {n : Nat} (S : Nat → Int) {k : Nat} (hk : k < n) (w : World) :
    (part e (rowF n fun i => .int .i64 (S i)) k).run P w = .ok (.int .i64 (S k)) w := by
  cases hq : P.info? e with
  | none => simp [hq] at hi
  | some i =>
    have hs : i.size = 1 := by simpa [hq] using hi
    have hg := rowF_get (fun i => Value.int .i64 (S i)) hk
    simp [part, isAgg, run_underlying he, sizeOf, typeInfo, hq, hs, hg, go_sem]
    try omega
theorem run_equalIn_row {P : Program} {t e : TypeId} {n : Nat} (d : Nat) (ht : P.underlying t = some (.array n e)) (he : P.underlying e = some (.int .i64)) (hi : (P.info? e).map (·.size) = some 1) (S : Nat → Int) (w : World) :
    (Op.equalIn (d + 2) t (.agg (rowF n fun i => .int .i64 (S i))) (.agg (rowF n fun i => .int .i64 (S i)))).run P w = .ok true w := by
  have hsz : ∀ w, (sizeOf e).run P w = .ok 1 w := by
    intro w
    cases hq : P.info? e with
    | none => simp [hq] at hi
    | some i =>
      have hs : i.size = 1 := by simpa [hq] using hi
      simp [sizeOf, typeInfo, hq, hs]
  rw [Op.equalIn]
  simp only [Sem.run_bind, run_underlying ht, Result.andThen_ok, hsz, Std.Legacy.Range.forIn_eq_forIn_range', Std.Legacy.Range.size, Nat.sub_zero, Nat.add_sub_cancel, Nat.div_one]
  have hl : ∀ i ∈ List.range' 0 n 1, i < n := fun i hi => by simpa using (List.mem_range'_1.1 hi).2
  generalize List.range' 0 n 1 = l at hl ⊢
  induction l with
  | nil => simp
  | cons i l ih =>
    have hk : i < n := hl i (by simp)
    have px := run_part_ints he hi S hk w
    have pe : (Op.equalIn (d + 1) e (.int .i64 (S i)) (.int .i64 (S i))).run P w = .ok true w := by simp [Op.equalIn, run_underlying he]
    simp only [List.forIn_cons, Sem.run_bind, Nat.mul_one, px, pe, Result.andThen_ok]
    simp only [Bool.not_true, Bool.false_eq_true, if_false, Sem.run_pure, Result.andThen_ok]
    simpa only [Nat.mul_one] using ih fun j hj => hl j (by simp [hj])
theorem Try.infoInt1 : (Try.prog.info? 3).map (·.size) = some 1 := by kernel_rfl
theorem Try.infoVals : (Try.prog.info? 39).map (·.size) = some 8 := by kernel_rfl
theorem Try.valsGuard : Try.prog.eqGuardType Try.prog.depth 39 = false := by kernel_rfl

set_option maxRecDepth 100000 in
set_option maxHeartbeats 1000000 in
theorem keep_sameNode (nv nv' : Nat → Value) (s : NodeL) (w : World) (h : NodeC (· < w.heap.size) w nv s) (h' : NodeC (· < w.heap.size) w nv' s) :
    Calls Try.prog 34 #[.agg (rowF 201 nv), .agg (rowF 201 nv')] w fun r w' => r = .returned (.bool true) ∧ Below w.heap.size w w' := by
  obtain ⟨ga, hga⟩ : ∃ ga, ga = rowF 201 nv := ⟨_, rfl⟩
  obtain ⟨gb, hgb⟩ : ∃ gb, gb = rowF 201 nv' := ⟨_, rfl⟩
  rw [← hga, ← hgb]
  obtain ⟨W, hW⟩ : ∃ W, W = (w.alloc (.cells ga 41)).alloc (.cells gb 41) := ⟨_, rfl⟩
  obtain ⟨r0, r1⟩ := two_rows w (.cells ga 41) (.cells gb 41)
  rw [← hW] at r0 r1
  have hb : Below w.heap.size w W := by rw [hW]; exact ((Below.refl _ _).alloc (Nat.le_refl _) _).alloc (by rw [size_push]; omega) _
  have hzW : W.heap.size = w.heap.size + 2 := by rw [hW, size_push, size_push]
  have HBa : Hid (BlkAt 201 W w.heap.size nv) := ⟨_, by rw [← hga]; exact r0⟩
  have HBb : Hid (BlkAt 201 W (w.heap.size + 1) nv') := ⟨_, by rw [← hgb]; exact r1⟩
  have HN : Hid (NodeC (· < w.heap.size) w nv s) := h
  have HN' : Hid (NodeC (· < w.heap.size) w nv' s) := h'
  have HW : Hid (W = (w.alloc (.cells ga 41)).alloc (.cells gb 41)) := hW
  clear hW r0 r1 h h' hga hgb
  go_enter Try.func34, Try.ntmps34
  go_upto_region 1 with fail
  rw [← HW.out]
  clear HW
  go_wp2_with fail
  go_loopw [6] (fun i wr => ∃ k : Nat, k ≤ 32 ∧ i = .int .i64 k ∧ Below W.heap.size W wr) (fun i _ => 32 - (intOf i).toNat)
  case atStart => exact ⟨0, Nat.zero_le _, rfl, Below.refl _ _⟩
  case round =>
    obtain ⟨k, hk, rfl, hB⟩ := hrel
    have hbw : Below w.heap.size w wr := hb.trans (hB.mono (by omega))
    have hsz := hB.size
    have HBar : Hid (BlkAt 201 wr w.heap.size nv) := HBa.out.later hB (by omega)
    have HBbr : Hid (BlkAt 201 wr (w.heap.size + 1) nv') := HBb.out.later hB (by omega)
    by_cases hlt : k < 32
    · have n1 : (0 : Int) ≤ (k : Int) ∧ (k : Int) < 32 := by omega
      obtain ⟨ca, hca⟩ : ∃ ca, ca = (sixV nv (k * 6)).toList := ⟨_, rfl⟩
      obtain ⟨cb, hcb⟩ : ∃ cb, cb = (sixV nv' (k * 6)).toList := ⟨_, rfl⟩
      have ra : wr.rangeAt w.heap.size (k * 6) ca := by
        rw [hca]
        exact BlkAt.range HBar.out (o := k * 6) (n := 6) (by omega)
      have rb : wr.rangeAt (w.heap.size + 1) (k * 6) cb := by
        rw [hcb]
        exact BlkAt.range HBbr.out (o := k * 6) (n := 6) (by omega)
      have hsa : (Try.prog.info? 37).map (·.size) = some ca.length := by rw [hca]; exact Try.infoEntry
      have hsb : (Try.prog.info? 37).map (·.size) = some cb.length := by rw [hcb]; exact Try.infoEntry
      have HVa : Hid (EntV w (.agg ca.toArray) (s.ent k)) := by rw [hca]; exact (HN.out.es.ent k hlt).v
      have HVb : Hid (EntV w (.agg cb.toArray) (s.ent k)) := by rw [hcb]; exact (HN'.out.es.ent k hlt).v
      clear hca hcb
      go_wp2_with fail
      have HRa : Hid (∀ wx, Below wr.heap.size wr wx → wx.rangeAt w.heap.size (k * 6) ca) := fun wx hx => range_later ra hx (by omega)
      have HRb : Hid (∀ wx, Below wr.heap.size wr wx → wx.rangeAt (w.heap.size + 1) (k * 6) cb) := fun wx hx => range_later rb hx (by omega)
      clear ra rb
      refine wp_region_held_drew (S := fun w' => Below wr.heap.size wr w') (by kernel_rfl) ((Below.refl _ _).drew) ?_
      intro hH
      refine wpAnyH_takeD (i := 0) (d := some 9) (v := .int .i64 k) rfl rfl (by kernel_rfl) (by kernel_rfl) (by kernel_rfl) (fun _ _ _ h => h) (Or.inl ⟨by rfl, fun _ _ => by go_simp⟩) hH ?_
      simp only [Act.put, List.setIfInBounds_toArray, List.set_cons_zero, List.set_cons_succ]
      refine wpAnyH_takeD (i := 1) (d := some 10) (v := .pointer (some ⟨w.heap.size, 0, none⟩)) rfl rfl (by kernel_rfl) (by kernel_rfl) (by kernel_rfl) (fun _ _ _ h => h) (Or.inl ⟨by rfl, fun _ _ => by go_simp⟩) hH ?_
      simp only [Act.put, List.setIfInBounds_toArray, List.set_cons_zero, List.set_cons_succ]
      refine wpAnyH_takeD (i := 2) (d := some 11) (v := .pointer (some ⟨w.heap.size, k * 6, none⟩)) rfl rfl (by kernel_rfl) (by kernel_rfl) (by kernel_rfl) (fun _ _ _ h => h) (Or.inl ⟨by rfl, fun _ _ => by go_simp⟩) hH ?_
      simp only [Act.put, List.setIfInBounds_toArray, List.set_cons_zero, List.set_cons_succ]
      refine wpAnyH_takeD (i := 3) (d := some 12) (v := .agg ca.toArray) rfl rfl (by kernel_rfl) (by kernel_rfl) (by kernel_rfl) (fun _ _ _ h => h) (yieldsIf_load_mid (by rfl) _ _ rfl _ _ rfl ca _ (HRa.out) Try.underlying37 rfl hsa) hH ?_
      simp only [Act.put, List.setIfInBounds_toArray, List.set_cons_zero, List.set_cons_succ]
      refine wpAnyH_takeD (i := 4) (d := some 13) (v := .int .i64 k) rfl rfl (by kernel_rfl) (by kernel_rfl) (by kernel_rfl) (fun _ _ _ h => h) (Or.inl ⟨by rfl, fun _ _ => by go_simp⟩) hH ?_
      simp only [Act.put, List.setIfInBounds_toArray, List.set_cons_zero, List.set_cons_succ]
      refine wpAnyH_takeD (i := 5) (d := some 14) (v := .pointer (some ⟨w.heap.size + 1, 0, none⟩)) rfl rfl (by kernel_rfl) (by kernel_rfl) (by kernel_rfl) (fun _ _ _ h => h) (Or.inl ⟨by rfl, fun _ _ => by go_simp⟩) hH ?_
      simp only [Act.put, List.setIfInBounds_toArray, List.set_cons_zero, List.set_cons_succ]
      refine wpAnyH_takeD (i := 6) (d := some 15) (v := .pointer (some ⟨w.heap.size + 1, k * 6, none⟩)) rfl rfl (by kernel_rfl) (by kernel_rfl) (by kernel_rfl) (fun _ _ _ h => h) (Or.inl ⟨by rfl, fun _ _ => by go_simp⟩) hH ?_
      simp only [Act.put, List.setIfInBounds_toArray, List.set_cons_zero, List.set_cons_succ]
      refine wpAnyH_takeD (i := 7) (d := some 16) (v := .agg cb.toArray) rfl rfl (by kernel_rfl) (by kernel_rfl) (by kernel_rfl) (fun _ _ _ h => h) (yieldsIf_load_mid (by rfl) _ _ rfl _ _ rfl cb _ (HRb.out) Try.underlying37 rfl hsb) hH ?_
      simp only [Act.put, List.setIfInBounds_toArray, List.set_cons_zero, List.set_cons_succ]
      refine wpAnyH_ready (rs := [8]) (by kernel_rfl) (by simp) ?_
      refine AllReadyH.cons rfl (fun K hK => ?_) AllReadyH.nil
      go_simp
      refine (keep_sameEntry _ _ (s.ent k) _ (HVa.out.later (hbw.drew)) (HVb.out.later (hbw.drew))).mono ?_
      rintro r x2 ⟨rfl, hb2⟩
      go_wp2_with fail
      refine hK.out _ _ (hH.trans hb2) (fun hH2 => ?_)
      clear hK K hH
      have hH := hH2
      clear hH2 hb2
      refine wpAnyH_takeD (i := 9) (d := some 18) (v := .bool false) rfl rfl (by kernel_rfl) (by kernel_rfl) (by kernel_rfl) (fun _ _ _ h => h) (Or.inl ⟨by rfl, fun _ _ => by go_simp⟩) hH ?_
      simp only [Act.put, List.setIfInBounds_toArray, List.set_cons_zero, List.set_cons_succ]
      refine wpAnyH_done (by kernel_rfl) ?_ _
      have hB2 : Below W.heap.size W x2 := hB.trans (hH.mono (by omega))
      clear hH
      go_wp2
      go_roundw
      case rel => exact ⟨k + 1, by omega, by go_num, hB2⟩
      case measure => simp [intOf]; omega
    · obtain ⟨ao, co, eo, ho⟩ := HN.out.order.sl
      obtain ⟨ap, cp, ep, hp⟩ := HN'.out.order.sl
      have q0 : wr.cell? ⟨w.heap.size, 192, none⟩ = some (.slice ao s.order.length co) := by rw [HBar.out.cell (by omega), eo]
      have q1 : wr.cell? ⟨w.heap.size + 1, 192, none⟩ = some (.slice ap s.order.length cp) := by rw [HBbr.out.cell (by omega), ep]
      clear eo ep
      go_wp2_with fail
      refine (keep_same_any ao co s.order ap cp wr ho.2.1 (ho.later hbw).1 (hp.later hbw).1).mono ?_
      rintro r x1 ⟨rfl, hb1⟩
      have hbx : Below w.heap.size w x1 := hbw.trans (hb1.mono (by omega))
      obtain ⟨vr, hvr⟩ : ∃ vr, vr = (rowF 8 fun i => .int .i64 (s.vals i)).toList := ⟨_, rfl⟩
      have ra : x1.rangeAt w.heap.size 193 vr := by
        rw [hvr]
        refine range_later (w := wr) ?_ hb1 (by omega)
        have := BlkAt.range HBar.out (o := 193) (n := 8) (by omega)
        have e : (List.range 8).map (fun i => nv (193 + i)) = (rowF 8 fun i => .int .i64 (s.vals i)).toList := by
          unfold rowF
          exact List.map_congr_left fun i hi => HN.out.es.vals i (List.mem_range.1 hi)
        rw [← e]; exact this
      have rb : x1.rangeAt (w.heap.size + 1) 193 vr := by
        rw [hvr]
        refine range_later (w := wr) ?_ hb1 (by omega)
        have := BlkAt.range HBbr.out (o := 193) (n := 8) (by omega)
        have e : (List.range 8).map (fun i => nv' (193 + i)) = (rowF 8 fun i => .int .i64 (s.vals i)).toList := by
          unfold rowF
          exact List.map_congr_left fun i hi => HN'.out.es.vals i (List.mem_range.1 hi)
        rw [← e]; exact this
      have hsv : (Try.prog.info? 39).map (·.size) = some vr.length := by rw [hvr, rowF_toList]; exact Try.infoVals
      have hg := Try.valsGuard
      have he := fun w => run_equalIn_row 9998 Try.underlying39 Try.underlying3 Try.infoInt1 s.vals w
      have hva : vr.toArray = rowF 8 fun i => .int .i64 (s.vals i) := by rw [hvr]
      rw [← hva] at he
      clear hvr hva hb1 q0 q1
      go_wp2_with (first
        | (refine wpList_wanted (by rfl) fun K hK => ?_; refine wp_load_mid 39 _ rfl w.heap.size 193 rfl vr _ ra Try.underlying39 rfl hsv ?_; refine hK _ _ ?_)
        | (refine wpList_wanted (by rfl) fun K hK => ?_; refine wp_load_mid 39 _ rfl (w.heap.size + 1) 193 rfl vr _ rb Try.underlying39 rfl hsv ?_; refine hK _ _ ?_))
      go_ret
      exact ⟨rfl, hbx⟩

end Go.Proofs.Ytgdkjjmnoikhdab
