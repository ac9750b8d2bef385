/-
  The document's own TakeAnswer: Told, when it is heard.
  The document's own TakeAnswer: Told, when it is heard.
  The contract of the document's own TakeAnswer.
-/
import Derived.Test.YtkoefoccbjhoiabPta13
import Derived.Test.YtkoefoccbjhoiabPta7
import Derived.Test.YtkoefoccbjhoiabPta9
import Derived.Test.YtkoefoccbjhoiabPta15
import Derived.Test.YtkoefoccbjhoiabPta14
namespace Go.Proofs.Ytkoefoccbjhoiab
open Go.RowKit
set_option linter.unusedSimpArgs false
set_option linter.unusedVariables false

set_option maxRecDepth 100000 in
set_option maxHeartbeats 4000000 in
theorem rtake_t3 (gr : Array Value) (c : CaseL) (id : Int) (v : Value) (f : FrameL) (w : World) (h : CaseV w gr c) (hf : FrameV w v f) (t0 : refC c id f = 0) (tk : f.kind = 2) (tf : c.fixed = false) (tt : c.told f.node.toNat = false) (tq : touchesL c.ops (ofL f.node) = true) (tm : mostB c.ops (upd c.told f.node.toNat true) = false) :
    Calls Try.prog 55 #[.agg gr, .int .i64 id, v] w fun e w' => ∃ gr' x, e = .returned (.tuple #[.agg gr', x, .int .i64 (takeC c id f).2.2]) ∧ CaseV w' gr' (takeC c id f).1 ∧ FramesV 0 w' x (takeC c id f).2.1 ∧ Below w.heap.size w w' := by
  have HE : Hid (takeC c id f = (c.hear f, [], 0)) := by rw [take_told t0 tk]; unfold toldC; rw [if_neg (by rw [tf, tt, tq]; decide)]; have e1 : (c.hear f).fixed = false := tm; simp only [e1, (ref_ok t0).2.1]; rfl
  have HG : Hid (goodCB c = true ∧ c.begun = true ∧ f.id = id ∧ hasL c.deps id = false ∧ goodL f = 0 ∧ f.kind ≠ 1 ∧ f.kind ≠ 3) := by
    obtain ⟨g1, g2, g3, g4, g5⟩ := ref_ok t0
    unfold isCaseOfB at g1
    simp only [Bool.and_eq_true, Bool.not_eq_true'] at g1
    exact ⟨g1.1.1, g1.1.2, g2, g1.2, g3, g4, g5⟩
  have Htk : Hid (f.kind = 2) := tk
  have Htf : Hid (c.fixed = false) := tf
  have Htt : Hid (c.told f.node.toNat = false) := tt
  have Htq : Hid (touchesL c.ops (ofL f.node) = true) := tq
  have Htm : Hid (mostB c.ops (upd c.told f.node.toNat true) = false) := tm
  clear t0 tk tf tt tq tm
  have e2 : (f.kind == 2) = true := by rw [Htk.out]; decide
  have e4 : (f.kind == 4) = false := by rw [Htk.out]; decide
  have e5 : (f.kind == 5) = false := by rw [Htk.out]; decide
  have HFB : Hid (FrameB w.heap.size w v f) := hf.b
  have HCV : Hid (CaseV w gr c) := h
  obtain ⟨a3, c3, a4, c4, a5, c5, a6, c6, rfl, _⟩ := hf
  obtain ⟨zr, hzr⟩ : ∃ zr, zr = rowF 24 zcv := ⟨_, rfl⟩
  have HZL : Hid ((#[.bool false, .bool false, .slice none 0 0, .bool false, .bool false, .bool false, .bool false, .bool false, .bool false, .bool false, .bool false, .bool false, .bool false, .bool false, .bool false, .slice none 0 0, .bool false, .bool false, .bool false, .bool false, .int .i64 0, .int .i64 0, .int .i64 0, .int .i64 0] : Array Value) = zr) := by unfold Hid; rw [hzr]; rfl
  have hzz : zr.size = 24 := by rw [hzr, rowF_size]
  obtain ⟨W, hW⟩ : ∃ W, W = ((w.alloc (.cells gr 73)).alloc (.cells #[.int .i64 f.kind, .int .i64 f.node, .int .i64 f.id, .slice a3 f.ops.length c3, .slice a4 f.deps.length c4, .slice a5 f.ats.length c5, .slice a6 f.vals.length c6] 43)).alloc (.cells zr 73) := ⟨_, rfl⟩
  have hb : Below w.heap.size w W := by rw [hW]; exact (((Below.refl _ _).alloc (Nat.le_refl _) _).alloc (by rw [size_push]; omega) _).alloc (by rw [size_push, size_push]; omega) _
  have hzW : W.heap.size = w.heap.size + 3 := by rw [hW, size_push, size_push, size_push]
  obtain ⟨r0, r1, r2⟩ := rows3 w (.cells gr 73) (.cells #[.int .i64 f.kind, .int .i64 f.node, .int .i64 f.id, .slice a3 f.ops.length c3, .slice a4 f.deps.length c4, .slice a5 f.ats.length c5, .slice a6 f.vals.length c6] 43) (.cells zr 73)
  rw [← hW] at r0 r1 r2
  have HB0 : Hid (InBox w.heap.size W gr c) := ⟨r0, h.later hb⟩
  have HW : Hid (W = ((w.alloc (.cells gr 73)).alloc (.cells #[.int .i64 f.kind, .int .i64 f.node, .int .i64 f.id, .slice a3 f.ops.length c3, .slice a4 f.deps.length c4, .slice a5 f.ats.length c5, .slice a6 f.vals.length c6] 43)).alloc (.cells zr 73)) := hW
  have HR1 : Hid (W.heap[w.heap.size + 1]? = some (.cells #[.int .i64 f.kind, .int .i64 f.node, .int .i64 f.id, .slice a3 f.ops.length c3, .slice a4 f.deps.length c4, .slice a5 f.ats.length c5, .slice a6 f.vals.length c6] 43 (0, 0))) := r1
  have HR2 : Hid (W.heap[w.heap.size + 2]? = some (.cells zr 73 (0, 0))) := r2
  have Hbw : Hid (Below w.heap.size w W) := hb
  have tG := h.row
  have i9 := h.info
  have s9 : zr.size = gr.size := by rw [hzz, h.size]
  have o9 := h.one
  clear hW h r1 r2 hb hzr
  go_enter Try.func55, Try.ntmps55
  go_upto_region 1 with fail
  rw [HZL.out, ← HW.out]
  clear HW HZL
  go_wp2_with (first
    | ((with_reducible apply wpl_row r0); (· rfl); (· exact tG); (· rfl); simp only [Act.put, List.setIfInBounds_toArray, List.set_cons_zero, List.set_cons_succ])
    | fail)
  refine (ref_isCase gr c W HB0.out.case).mono ?_
  rintro e w1 ⟨rfl, hb1⟩
  have HX1 : Hid (InBox w.heap.size w1 gr c) := HB0.out.later hb1
  have HBW1 : Hid (Below W.heap.size W w1) := hb1
  have hz1 := hb1.size
  have rF1 : w1.heap[w.heap.size + 1]? = some (.cells #[.int .i64 f.kind, .int .i64 f.node, .int .i64 f.id, .slice a3 f.ops.length c3, .slice a4 f.deps.length c4, .slice a5 f.ats.length c5, .slice a6 f.vals.length c6] 43 (0, 0)) := by rw [hb1.block _ (by omega)]; exact HR1.out
  have kid : w1.cell? ⟨w.heap.size + 1, 2, none⟩ = some (.int .i64 f.id) := by rw [cell_of_row _ _ _ _ _ _ rF1]; rfl
  have qb := HX1.out.begun
  obtain ⟨a15, c15, q15, hs15, _⟩ := HX1.out.deps
  clear hb1 r0
  rw [HG.out.1] at *
  rw [HG.out.2.1] at qb
  have d3 : (f.id != id) = false := by have := HG.out.2.2.1; simpa using this
  have d5 : (goodL f != 0) = false := by have := HG.out.2.2.2.2.1; simpa using this
  have d6 : (f.kind == 1) = false := by have := HG.out.2.2.2.2.2.1; simpa using this
  have d7 : (f.kind == 3) = false := by have := HG.out.2.2.2.2.2.2; simpa using this
  go_wp2_with fail
  refine (ref_has a15 c15 c.deps id w1 hs15.2.1 hs15.1).mono ?_
  rintro e w2 ⟨rfl, hw⟩
  subst hw
  rw [HG.out.2.2.2.1]
  go_wp2_with (first
    | ((with_reducible apply wpl_row rF1); (· rfl); (· exact row_frame); (· rfl); simp only [Act.put, List.setIfInBounds_toArray, List.set_cons_zero, List.set_cons_succ])
    | fail)
  refine (isFrame_any _ f w2 (HFB.out.later (Hbw.out.trans (HBW1.out.mono (by omega)))).v).mono ?_
  rintro e w3 ⟨rfl, hb3⟩
  have HBW3 : Hid (Below W.heap.size W w3) := HBW1.out.trans (hb3.mono hz1)
  have HX3 : Hid (InBox w.heap.size w3 gr c) := HX1.out.later hb3
  have rF3 : w3.heap[w.heap.size + 1]? = some (.cells #[.int .i64 f.kind, .int .i64 f.node, .int .i64 f.id, .slice a3 f.ops.length c3, .slice a4 f.deps.length c4, .slice a5 f.ats.length c5, .slice a6 f.vals.length c6] 43 (0, 0)) := by rw [hb3.block _ (by omega)]; exact rF1
  have kk3 : w3.cell? ⟨w.heap.size + 1, 0, none⟩ = some (.int .i64 f.kind) := by rw [cell_of_row _ _ _ _ _ _ rF3]; rfl
  have rB3 := HX3.out.row
  have hz3 : w.heap.size + 3 ≤ w3.heap.size := by have := HBW3.out.size; omega
  clear hb3 rF1 kid q15 qb
  go_wp2_with (first
    | ((with_reducible apply wpl_row rB3); (· rfl); (· exact tG); (· rfl); simp only [Act.put, List.setIfInBounds_toArray, List.set_cons_zero, List.set_cons_succ])
    | fail)
  refine (ref_copyCase gr c w3 HX3.out.case).mono ?_
  rintro e w4 ⟨gr4, rfl, hcg, hb4⟩
  have hz4 := hb4.size
  have HBW4 : Hid (Below W.heap.size W w4) := HBW3.out.trans (hb4.mono (by omega))
  have rB4 : w4.heap[w.heap.size]? = some (.cells gr 73 (0, 0)) := (HX3.out.later hb4).row
  have i4 := hcg.v.info
  have s4 : gr.size = gr4.size := by rw [HCV.out.size, hcg.v.size]
  have o4 := hcg.v.one
  obtain ⟨X, hX⟩ : ∃ X, X = w4.setRow w.heap.size gr4 := ⟨_, rfl⟩
  have HXe : Hid (X = w4.setRow w.heap.size gr4) := hX
  have hzX : X.heap.size = w4.heap.size := by rw [hX, size_setRow]
  have hzX1 : w.heap.size + 3 ≤ X.heap.size := by omega
  obtain ⟨mv, hmv, hmc⟩ := hcg
  have HP : Hid (PBox (w.heap.size + 3) w.heap.size X mv c) := by
    refine ⟨by rw [hX, ← hmv]; exact heap_setRow rB4, ?_, by omega⟩
    rw [hX]
    exact (hmc.later (w' := w4.setRow w.heap.size gr4) (fun b _ hb => setRow_other _ _ (by have hb' : w3.heap.size ≤ b := hb; omega))).mono (fun b _ hb => by have hb' : w3.heap.size ≤ b := hb; show w.heap.size + 3 ≤ b; omega)
  have HGX : Hid (W.grownBy X (some w.heap.size)) := by
    unfold Hid
    rw [hX]
    have g := grownR_below (grownR_refl W (some w.heap.size)) HBW4.out
    exact ⟨g.os, g.tape, g.output, by rw [size_setRow]; exact g.size, fun k hk hr => by rw [setRow_other _ _ (fun e => hr (by rw [e]))]; exact g.block k hk hr⟩
  have HFX : Hid (FrameB w.heap.size X (.agg #[.int .i64 f.kind, .int .i64 f.node, .int .i64 f.id, .slice a3 f.ops.length c3, .slice a4 f.deps.length c4, .slice a5 f.ats.length c5, .slice a6 f.vals.length c6]) f) := HFB.out.later (below_row Hbw.out HGX.out (by omega))
  have rFX : X.heap[w.heap.size + 1]? = some (.cells #[.int .i64 f.kind, .int .i64 f.node, .int .i64 f.id, .slice a3 f.ops.length c3, .slice a4 f.deps.length c4, .slice a5 f.ats.length c5, .slice a6 f.vals.length c6] 43 (0, 0)) := by rw [HGX.out.block _ (by omega) (fun e => by have := Option.some.inj e; omega)]; exact HR1.out
  have kn1 : X.cell? ⟨w.heap.size + 1, 1, none⟩ = some (.int .i64 f.node) := by rw [cell_of_row _ _ _ _ _ _ rFX]; rfl
  have kk1 : X.cell? ⟨w.heap.size + 1, 0, none⟩ = some (.int .i64 f.kind) := by rw [cell_of_row _ _ _ _ _ _ rFX]; rfl
  clear hX hzX hmv hmc hb4 rF3 kk3 rB3 i9 s9 o9
  go_upto_region 9 with (refine wpList_store_row rfl 73 _ _ rfl w.heap.size gr4 rfl rfl 73 _ rB4 i4 s4 o4 ?_)
  rw [← HXe.out]
  clear HXe rB4 i4 s4 o4
  go_wp2_with fail
  refine (ofNode_any f.node X).mono ?_
  rintro e X ⟨rfl, rfl⟩
  obtain ⟨d, hd⟩ : ∃ d, d = c.hear f := ⟨_, rfl⟩
  rw [← hd] at HE
  have HD : Hid (d = c.hear f) := hd
  clear hd
  obtain ⟨m, hm6, em⟩ : ∃ m : Nat, m < 6 ∧ f.node = m := ⟨f.node.toNat, by have := (good_frame HG.out.2.2.2.2.1).2; omega, by have := (good_frame HG.out.2.2.2.2.1).2; omega⟩
  have HM : Hid (f.node.toNat = m) := by unfold Hid; omega
  have HMN : Hid (f.node = m) := em
  rw [em] at kn1
  have hmm : (0 : Int) ≤ (m : Int) ∧ (m : Int) < 6 := by omega
  clear em
  have q1 := HP.out.box.fixed
  have q3 := HP.out.box.told hm6
  obtain ⟨a2, c2, q2, hs2, _⟩ := HP.out.box.ops
  rw [Htf.out] at q1
  rw [← HM.out, Htt.out, HM.out] at q3
  have htq : touchesL c.ops (ofL m) = true := by rw [← HMN.out]; exact Htq.out
  go_wp2_with fail
  rw [HMN.out]
  refine (touchesShard_any a2 c2 c.ops (ofL m) X hs2.2.1 hs2.1).mono ?_
  rintro e w6 ⟨rfl, hb6⟩
  have HP6 : Hid (PBox (w.heap.size + 3) w.heap.size w6 mv c) := HP.out.later hb6
  have HG6 : Hid (W.grownBy w6 (some w.heap.size)) := grownR_below HGX.out hb6
  have rF6 : w6.heap[w.heap.size + 1]? = some (.cells #[.int .i64 f.kind, .int .i64 f.node, .int .i64 f.id, .slice a3 f.ops.length c3, .slice a4 f.deps.length c4, .slice a5 f.ats.length c5, .slice a6 f.vals.length c6] 43 (0, 0)) := by rw [hb6.block _ (by omega)]; exact rFX
  have kn6 : w6.cell? ⟨w.heap.size + 1, 1, none⟩ = some (.int .i64 m) := by rw [cell_of_row _ _ _ _ _ _ rF6, ← HMN.out]; rfl
  have q36 := HP6.out.box.told hm6
  have f36 : w6.frozen? ⟨w.heap.size, 3 + m, none⟩ = false := HP6.out.blk.frozen _
  have hz6 := hb6.size
  have HF6 : Hid (FrameB w.heap.size w6 (.agg #[.int .i64 f.kind, .int .i64 f.node, .int .i64 f.id, .slice a3 f.ops.length c3, .slice a4 f.deps.length c4, .slice a5 f.ats.length c5, .slice a6 f.vals.length c6]) f) := HFX.out.later (hb6.mono (by omega))
  obtain ⟨Y, hY⟩ : ∃ Y, Y = w6.setCell ⟨w.heap.size, 3 + m, none⟩ (.bool true) := ⟨_, rfl⟩
  have HPY : Hid (PBox (w.heap.size + 3) w.heap.size Y (putV mv (3 + m) (.bool true)) { c with told := upd c.told m true }) := by unfold Hid; rw [hY]; exact HP6.out.put (3 + m) (.bool true) (HP6.out.case.putTold hm6 true)
  have HGY : Hid (W.grownBy Y (some w.heap.size)) := by unfold Hid; rw [hY]; exact grown_put_same HG6.out _ _
  have hzY : w6.heap.size ≤ Y.heap.size := by rw [hY]; simp [World.setCell]
  have HY : Hid (Y = w6.setCell ⟨w.heap.size, 3 + m, none⟩ (.bool true)) := hY
  have HFY : Hid (FrameB w.heap.size Y (.agg #[.int .i64 f.kind, .int .i64 f.node, .int .i64 f.id, .slice a3 f.ops.length c3, .slice a4 f.deps.length c4, .slice a5 f.ats.length c5, .slice a6 f.vals.length c6]) f) := HF6.out.later (by rw [hY]; exact (Below.refl w.heap.size w6).setCell (show w.heap.size ≤ w.heap.size from Nat.le_refl _) _)
  clear hY hb6 q1 q2 q3 hs2
  go_upto_region 12 with fail
  rw [← HY.out]
  clear HY q36 f36 kn6 rF6
  obtain ⟨y3, z3, y4, z4, y5, z5, y6, z6, efr, _, g4, _, _⟩ := HFY.out
  cases efr
  have rFY : Y.heap[w.heap.size + 1]? = some (.cells #[.int .i64 f.kind, .int .i64 f.node, .int .i64 f.id, .slice a3 f.ops.length c3, .slice a4 f.deps.length c4, .slice a5 f.ats.length c5, .slice a6 f.vals.length c6] 43 (0, 0)) := by rw [HGY.out.block _ (by omega) (fun e => by have := Option.some.inj e; omega)]; exact HR1.out
  have k4 : Y.cell? ⟨w.heap.size + 1, 4, none⟩ = some (.slice a4 f.deps.length c4) := by rw [cell_of_row _ _ _ _ _ _ rFY]; rfl
  obtain ⟨a15, c15, q15, hs15, _⟩ := HPY.out.box.deps
  go_wp2_with fail
  refine (unionOf_any a15 c15 c.deps a4 c4 f.deps Y hs15.2.1 hs15.1 g4.1.2.1 g4.1.1).mono ?_
  rintro e w7 ⟨vu, rfl, hvu, hb7⟩
  obtain ⟨au, cu, evu, _, _⟩ := own_form hvu
  subst evu
  have HP7 : Hid (PBox (w.heap.size + 3) w.heap.size w7 (putV mv (3 + m) (.bool true)) { c with told := upd c.told m true }) := HPY.out.later hb7
  have q15' : w7.cell? ⟨w.heap.size, 15, none⟩ = some (.slice a15 c.deps.length c15) := by rw [hb7.cell (p := ⟨w.heap.size, 15, none⟩) HPY.out.blk.lt]; exact q15
  have f15 : w7.frozen? ⟨w.heap.size, 15, none⟩ = false := HP7.out.blk.frozen _
  have hIv : IsI (w.heap.size + 3 ≤ ·) w7 (.slice au (unionL c.deps f.deps).length cu) (joinL c.deps f.deps) := (IsI.of_owns hvu (union_room _ _)).mono (fun b _ hb => by have := hb.1; show w.heap.size + 3 ≤ b; omega)
  obtain ⟨Z, hZ⟩ : ∃ Z, Z = w7.setCell ⟨w.heap.size, 15, none⟩ (.slice au (unionL c.deps f.deps).length cu) := ⟨_, rfl⟩
  obtain ⟨zv, hzv⟩ : ∃ zv, zv = putV (putV mv (3 + m) (.bool true)) 15 (.slice au (unionL c.deps f.deps).length cu) := ⟨_, rfl⟩
  obtain ⟨c3', hc3⟩ : ∃ c3', c3' = { c with told := upd c.told m true, deps := joinL c.deps f.deps } := ⟨_, rfl⟩
  have HPZ : Hid (PBox (w.heap.size + 3) w.heap.size Z zv c3') := by unfold Hid; rw [hZ, hzv, hc3]; exact HP7.out.put 15 _ (HP7.out.case.putDeps hIv)
  have HGZ : Hid (W.grownBy Z (some w.heap.size)) := by unfold Hid; rw [hZ]; exact grown_put_same (grownR_below HGY.out hb7) _ _
  have HZ : Hid (Z = w7.setCell ⟨w.heap.size, 15, none⟩ (.slice au (unionL c.deps f.deps).length cu)) := hZ
  have HC3 : Hid (c3' = { c with told := upd c.told m true, deps := joinL c.deps f.deps }) := hc3
  have hzZ : w.heap.size + 3 ≤ Z.heap.size := by have := HGZ.out.size; omega
  clear hZ hzv hc3 hIv hvu hb7 q15 hs15 k4 g4
  go_upto_region 13 with fail
  rw [← HZ.out]
  clear HZ q15' f15
  have HT3 : Hid (∀ i, c3'.told i = upd c.told m true i) := fun i => by rw [HC3.out]
  have HO3 : Hid (c3'.ops = c.ops) := by unfold Hid; rw [HC3.out]
  obtain ⟨V, hV⟩ : ∃ V, V = Z.alloc (.cells #[.int .i64 0, .int .i64 0] 121) := ⟨_, rfl⟩
  have HRV : Hid (V.heap[Z.heap.size]? = some (.cells #[.int .i64 0, .int .i64 0] 121 (0, 0))) := by unfold Hid; rw [hV]; exact heap_new _ _
  have HBV : Hid (Below Z.heap.size Z V) := by unfold Hid; rw [hV]; exact (Below.refl _ _).alloc (Nat.le_refl _) _
  have HVe : Hid (V = Z.alloc (.cells #[.int .i64 0, .int .i64 0] 121)) := hV
  obtain ⟨tn, htn⟩ : ∃ tn, tn = upd c.told m true := ⟨_, rfl⟩
  rw [← htn] at HT3
  have HTN : Hid (tn = upd c.told m true) := htn
  clear hV htn
  go_upto_region 14 with fail
  rw [← HVe.out]
  clear HVe
  go_wp2
  go_loopw [90] (fun i wr => ∃ (k : Nat) (x0 x1 : Int), k ≤ 6 ∧ i = .int .i64 k ∧ Hid (((cntT tn 0 k : Nat) : Int) = x0) ∧ Hid (((cntT tn 1 k : Nat) : Int) = x1) ∧ Hid (wr.heap[Z.heap.size]? = some (.cells #[.int .i64 x0, .int .i64 x1] 121 (0, 0))) ∧ Hid (Below Z.heap.size Z wr)) (fun i _ => 6 - (intOf i).toNat)
  case atStart => exact ⟨0, 0, 0, by omega, rfl, rfl, rfl, HRV, HBV⟩
  case round =>
    obtain ⟨k, x0, x1, hk, rfl, Hx0, Hx1, HR, HBr⟩ := hrel
    have hsz := HBr.out.size
    have bx0 : 0 ≤ x0 ∧ x0 ≤ 6 := by have h1 := Hx0.out; have h2 := cntT_le tn 0 k; omega
    have bx1 : 0 ≤ x1 ∧ x1 ≤ 6 := by have h1 := Hx1.out; have h2 := cntT_le tn 1 k; omega
    have HPr : Hid (PBox (w.heap.size + 3) w.heap.size wr zv c3') := HPZ.out.later HBr.out
    have e0 : wr.cell? ⟨Z.heap.size, 0, none⟩ = some (.int .i64 x0) := by rw [cell_of_row _ _ _ _ _ _ HR.out]; rfl
    have e1 : wr.cell? ⟨Z.heap.size, 1, none⟩ = some (.int .i64 x1) := by rw [cell_of_row _ _ _ _ _ _ HR.out]; rfl
    by_cases hlt : k < 6
    · have ek := HPr.out.box.told hlt
      rw [HT3.out k] at ek
      have f0 : wr.frozen? ⟨Z.heap.size, 0, none⟩ = false := frozen_of_row _ _ _ _ _ HR.out
      have f1 : wr.frozen? ⟨Z.heap.size, 1, none⟩ = false := frozen_of_row _ _ _ _ _ HR.out
      have v0 : IntKind.i64.wrap (x0 + 1) = x0 + 1 := wraps_i64 _ (by omega) (by omega)
      have v1 : IntKind.i64.wrap (x1 + 1) = x1 + 1 := wraps_i64 _ (by omega) (by omega)
      have hkk : (k : Int) < 6 := by omega
      have nk : (0 : Int) ≤ (k : Int) ∧ (k : Int) < 6 := by omega
      cases tt : tn k
      · rw [tt] at ek
        have HC : Hid (cntT tn 0 (k + 1) = cntT tn 0 k) := by unfold Hid; simp [cntT, tt]
        have HC' : Hid (cntT tn 1 (k + 1) = cntT tn 1 k) := by unfold Hid; simp [cntT, tt]
        go_wp2
        go_roundw
        case rel => exact ⟨k + 1, x0, x1, by omega, by go_num, by rw [HC.out]; exact Hx0, by rw [HC'.out]; exact Hx1, HR, HBr⟩
        case measure => simp [intOf]; omega
      · rw [tt] at ek
        by_cases h3 : k < 3
        · have HO : Hid (ofL (k : Int) = 0) := by unfold Hid ofL; rw [if_pos (by omega)]
          have hO : ofL (k : Int) = 0 := HO.out
          have HC : Hid (cntT tn 0 (k + 1) = cntT tn 0 k + 1) := by unfold Hid; simp [cntT, tt, HO.out]
          have HC' : Hid (cntT tn 1 (k + 1) = cntT tn 1 k) := by unfold Hid; simp [cntT, tt, HO.out]
          go_wp2_with (go_at_call 69; refine (ofNode_any _ _).mono ?_; rintro e w' ⟨rfl, rfl⟩)
          go_roundw
          case rel =>
            refine ⟨k + 1, x0 + 1, x1, by omega, by go_num, ?_, ?_, ?_, (Below.setCell HBr.out (Nat.le_refl _) _)⟩
            · rw [HC.out]; unfold Hid; have h1 := Hx0.out; omega
            · rw [HC'.out]; exact Hx1
            · unfold Hid; rw [heap_setCell_same _ _ _ _ _ _ HR.out]; rfl
          case measure => simp [intOf]; omega
        · have HO : Hid (ofL (k : Int) = 1) := by unfold Hid ofL; rw [if_neg (by omega)]
          have hO : ofL (k : Int) = 1 := HO.out
          have HC : Hid (cntT tn 1 (k + 1) = cntT tn 1 k + 1) := by unfold Hid; simp [cntT, tt, HO.out]
          have HC' : Hid (cntT tn 0 (k + 1) = cntT tn 0 k) := by unfold Hid; simp [cntT, tt, HO.out]
          go_wp2_with (go_at_call 69; refine (ofNode_any _ _).mono ?_; rintro e w' ⟨rfl, rfl⟩)
          go_roundw
          case rel =>
            refine ⟨k + 1, x0, x1 + 1, by omega, by go_num, ?_, ?_, ?_, (Below.setCell HBr.out (Nat.le_refl _) _)⟩
            · rw [HC'.out]; exact Hx0
            · rw [HC.out]; unfold Hid; have h1 := Hx1.out; omega
            · unfold Hid; rw [heap_setCell_same _ _ _ _ _ _ HR.out]; rfl
          case measure => simp [intOf]; omega
    · have hk6 : k = 6 := by omega
      subst hk6
      obtain ⟨a2, c2, q2, hs2, _⟩ := HPr.out.box.ops
      rw [HO3.out] at q2 hs2
      have HMB : Hid (false = (!(decide (x0 < 2) && touchesL c.ops 0) && !(decide (x1 < 2) && touchesL c.ops 1))) := by
        unfold Hid
        have h9 := Htm.out
        rw [HM.out, ← HTN.out, most_cnt, ← show ∀ n : Nat, decide ((n : Int) < 2) = decide (n < 2) from fun n => by rw [decide_eq_decide]; omega, ← show ∀ n : Nat, decide ((n : Int) < 2) = decide (n < 2) from fun n => by rw [decide_eq_decide]; omega, Hx0.out, Hx1.out] at h9
        exact h9.symm
      have q1r := HPr.out.box.fixed
      have f1r : wr.frozen? ⟨w.heap.size, 1, none⟩ = false := HPr.out.blk.frozen _
      have HGr : Hid (W.grownBy wr (some w.heap.size)) := grownR_below HGZ.out HBr.out
      clear hk hlt
      go_upto_region 20 with fail
      go_cut [] from 11 (fun wc => Hid (PBox (w.heap.size + 3) w.heap.size wc (putV zv 1 (.bool false)) { c3' with fixed := false }) ∧ Hid (W.grownBy wc (some w.heap.size)))
      case first =>
        by_cases d0 : 1 < x0
        · have d0' : ¬ x0 < 2 := by omega
          have dd0 : decide (1 < x0) = true := decide_eq_true d0
          by_cases d1 : 1 < x1
          · have d1' : ¬ x1 < 2 := by omega
            have dd1 : decide (1 < x1) = true := decide_eq_true d1
            exact absurd (show false = true by rw [HMB.out]; simp [d0', d1']) (by decide)
          · have d1' : x1 < 2 := by omega
            have dd1 : decide (1 < x1) = false := decide_eq_false d1
            go_wp2_with fail
            refine (touchesShard_any a2 c2 c.ops 1 wr hs2.2.1 hs2.1).mono ?_
            rintro e wz ⟨rfl, hbz⟩
            have hbz2 : Below wr.heap.size wr wz := hbz
            cases u1 : touchesL c.ops 1
            · exact absurd (show false = true by rw [HMB.out]; simp [d0', u1]) (by decide)
            · have q1s : wz.cell? ⟨w.heap.size, 1, none⟩ = some (.bool c3'.fixed) := (HPr.out.later hbz2).box.fixed
              have f1s : wz.frozen? ⟨w.heap.size, 1, none⟩ = false := (HPr.out.later hbz2).blk.frozen _
              go_wp2
              go_meet
              case rel => exact ⟨(HPr.out.later hbz2).put 1 (.bool false) ((HPr.out.later hbz2).case.putFixed false), grown_put_same (grownR_below HGr.out hbz2) _ _⟩
        · have d0' : x0 < 2 := by omega
          have dd0 : decide (1 < x0) = false := decide_eq_false d0
          go_wp2_with fail
          refine (touchesShard_any a2 c2 c.ops 0 wr hs2.2.1 hs2.1).mono ?_
          rintro e wy ⟨rfl, hby⟩
          cases u0 : touchesL c.ops 0
          · have q2s : wy.cell? ⟨w.heap.size, 2, none⟩ = some (.slice a2 c.ops.length c2) := by rw [hby.cell (p := ⟨w.heap.size, 2, none⟩) HPr.out.blk.lt]; exact q2
            have e1s : wy.cell? ⟨Z.heap.size, 1, none⟩ = some (.int .i64 x1) := by rw [hby.cell (p := ⟨Z.heap.size, 1, none⟩) (Array.getElem?_eq_some_iff.1 HR.out).1]; exact e1
            by_cases d1 : 1 < x1
            · have d1' : ¬ x1 < 2 := by omega
              have dd1 : decide (1 < x1) = true := decide_eq_true d1
              exact absurd (show false = true by rw [HMB.out]; simp [u0, d1']) (by decide)
            · have d1' : x1 < 2 := by omega
              have dd1 : decide (1 < x1) = false := decide_eq_false d1
              go_wp2_with fail
              refine (touchesShard_any a2 c2 c.ops 1 wy (hs2.later hby).2.1 (hs2.later hby).1).mono ?_
              rintro e wz ⟨rfl, hbz⟩
              have hbz2 : Below wr.heap.size wr wz := hby.trans (hbz.mono hby.size)
              cases u1 : touchesL c.ops 1
              · exact absurd (show false = true by rw [HMB.out]; simp [u0, u1]) (by decide)
              · have q1s : wz.cell? ⟨w.heap.size, 1, none⟩ = some (.bool c3'.fixed) := (HPr.out.later hbz2).box.fixed
                have f1s : wz.frozen? ⟨w.heap.size, 1, none⟩ = false := (HPr.out.later hbz2).blk.frozen _
                go_wp2
                go_meet
                case rel => exact ⟨(HPr.out.later hbz2).put 1 (.bool false) ((HPr.out.later hbz2).case.putFixed false), grown_put_same (grownR_below HGr.out hbz2) _ _⟩
          · have q1s : wy.cell? ⟨w.heap.size, 1, none⟩ = some (.bool c3'.fixed) := (HPr.out.later hby).box.fixed
            have f1s : wy.frozen? ⟨w.heap.size, 1, none⟩ = false := (HPr.out.later hby).blk.frozen _
            go_wp2
            go_meet
            case rel => exact ⟨(HPr.out.later hby).put 1 (.bool false) ((HPr.out.later hby).case.putFixed false), grown_put_same (grownR_below HGr.out hby) _ _⟩
      case rest =>
        obtain ⟨HPc, HGc⟩ := hcut
        have HDd : Hid (d = { c3' with fixed := false }) := by
          unfold Hid
          rw [HD.out, HC3.out]
          unfold CaseL.hear
          have h9 := Htm.out
          rw [HM.out] at h9 ⊢
          rw [h9]
        have HPd : Hid (PBox (w.heap.size + 3) w.heap.size wc (putV zv 1 (.bool false)) d) := by unfold Hid; rw [HDd.out]; exact HPc.out
        have qc : wc.cell? ⟨w.heap.size, 1, none⟩ = some (.bool false) := HPc.out.box.fixed
        have hzc : w.heap.size + 3 ≤ wc.heap.size := by have := HGc.out.size; omega
        clear q2 hs2 q1r f1r e0 e1
        obtain ⟨hs, ehs⟩ : ∃ hs, hs = rowF 24 (putV zv 1 (.bool false)) := ⟨_, rfl⟩
        have HHS : Hid (hs = rowF 24 (putV zv 1 (.bool false))) := ehs
        have r9 : wc.heap[w.heap.size]? = some (.cells hs 73 (0, 0)) := by rw [ehs]; exact HPd.out.row
        have t9 : RowT Try.prog 73 hs.size := by rw [ehs]; exact HPd.out.box.case.row
        have i9 : (Try.prog.info? 73).map (·.size) = some hs.size := by rw [ehs]; exact HPd.out.box.case.info
        have s9 : zr.size = hs.size := by rw [ehs, rowF_size]; exact hzz
        have o9 : hs.all (·.oneCell') = true := by rw [ehs]; exact HPd.out.box.case.one
        have rZ9 : wc.heap[w.heap.size + 2]? = some (.cells zr 73 (0, 0)) := by rw [HGc.out.block _ (by omega) (fun e => by have := Option.some.inj e; omega)]; exact HR2.out
        clear ehs
        go_wp2_with (first
          | ((with_reducible apply wpl_row r9); (· rfl); (· exact t9); (· rfl); simp only [Act.put, List.setIfInBounds_toArray, List.set_cons_zero, List.set_cons_succ])
          | (refine wpList_store_row rfl 73 _ _ rfl (w.heap.size + 2) hs rfl rfl 73 _ rZ9 i9 s9 o9 ?_)
          | fail)
        refine bodyPost_ret (v := .tuple #[.agg hs, .slice none 0 0, .int .i64 0]) (results_row2 Try.results55 _ _ (w.heap.size + 2) 73 hs (0, 0) _ rfl (heap_setRow rZ9) Try.underlying73 rfl i9 _ _ rfl rfl) rfl ⟨hs, .slice none 0 0, by rw [HE.out], by rw [HE.out]; have hh := (HPd.out.out hs).v; rw [← HHS.out] at hh; exact hh, by rw [HE.out]; exact FramesV.nil _ _, setRow_below (below_row Hbw.out HGc.out (by omega)) (by omega) _⟩

end Go.Proofs.Ytkoefoccbjhoiab

namespace Go.Proofs.Ytkoefoccbjhoiab
open Go.RowKit
set_option linter.unusedSimpArgs false
set_option linter.unusedVariables false

set_option maxRecDepth 100000 in
set_option maxHeartbeats 4000000 in
theorem rtake_t4 (gr : Array Value) (c : CaseL) (id : Int) (v : Value) (f : FrameL) (w : World) (h : CaseV w gr c) (hf : FrameV w v f) (t0 : refC c id f = 0) (tk : f.kind = 2) (tf : c.fixed = false) (tt : c.told f.node.toNat = false) (tq : touchesL c.ops (ofL f.node) = true) (tm : mostB c.ops (upd c.told f.node.toNat true) = true) :
    Calls Try.prog 55 #[.agg gr, .int .i64 id, v] w fun e w' => ∃ gr' x, e = .returned (.tuple #[.agg gr', x, .int .i64 (takeC c id f).2.2]) ∧ CaseV w' gr' (takeC c id f).1 ∧ FramesV 0 w' x (takeC c id f).2.1 ∧ Below w.heap.size w w' := by
  have HE : Hid (takeC c id f = (c.hear f, againC (c.hear f) id, 0)) := by rw [take_told t0 tk]; unfold toldC; rw [if_neg (by rw [tf, tt, tq]; decide)]; have e1 : (c.hear f).fixed = true := tm; simp only [e1, (ref_ok t0).2.1]; rfl
  have HG : Hid (goodCB c = true ∧ c.begun = true ∧ f.id = id ∧ hasL c.deps id = false ∧ goodL f = 0 ∧ f.kind ≠ 1 ∧ f.kind ≠ 3) := by
    obtain ⟨g1, g2, g3, g4, g5⟩ := ref_ok t0
    unfold isCaseOfB at g1
    simp only [Bool.and_eq_true, Bool.not_eq_true'] at g1
    exact ⟨g1.1.1, g1.1.2, g2, g1.2, g3, g4, g5⟩
  have Htk : Hid (f.kind = 2) := tk
  have Htf : Hid (c.fixed = false) := tf
  have Htt : Hid (c.told f.node.toNat = false) := tt
  have Htq : Hid (touchesL c.ops (ofL f.node) = true) := tq
  have Htm : Hid (mostB c.ops (upd c.told f.node.toNat true) = true) := tm
  clear t0 tk tf tt tq tm
  have e2 : (f.kind == 2) = true := by rw [Htk.out]; decide
  have e4 : (f.kind == 4) = false := by rw [Htk.out]; decide
  have e5 : (f.kind == 5) = false := by rw [Htk.out]; decide
  have HFB : Hid (FrameB w.heap.size w v f) := hf.b
  have HCV : Hid (CaseV w gr c) := h
  obtain ⟨a3, c3, a4, c4, a5, c5, a6, c6, rfl, _⟩ := hf
  obtain ⟨zr, hzr⟩ : ∃ zr, zr = rowF 24 zcv := ⟨_, rfl⟩
  have HZL : Hid ((#[.bool false, .bool false, .slice none 0 0, .bool false, .bool false, .bool false, .bool false, .bool false, .bool false, .bool false, .bool false, .bool false, .bool false, .bool false, .bool false, .slice none 0 0, .bool false, .bool false, .bool false, .bool false, .int .i64 0, .int .i64 0, .int .i64 0, .int .i64 0] : Array Value) = zr) := by unfold Hid; rw [hzr]; rfl
  have hzz : zr.size = 24 := by rw [hzr, rowF_size]
  obtain ⟨W, hW⟩ : ∃ W, W = ((w.alloc (.cells gr 73)).alloc (.cells #[.int .i64 f.kind, .int .i64 f.node, .int .i64 f.id, .slice a3 f.ops.length c3, .slice a4 f.deps.length c4, .slice a5 f.ats.length c5, .slice a6 f.vals.length c6] 43)).alloc (.cells zr 73) := ⟨_, rfl⟩
  have hb : Below w.heap.size w W := by rw [hW]; exact (((Below.refl _ _).alloc (Nat.le_refl _) _).alloc (by rw [size_push]; omega) _).alloc (by rw [size_push, size_push]; omega) _
  have hzW : W.heap.size = w.heap.size + 3 := by rw [hW, size_push, size_push, size_push]
  obtain ⟨r0, r1, r2⟩ := rows3 w (.cells gr 73) (.cells #[.int .i64 f.kind, .int .i64 f.node, .int .i64 f.id, .slice a3 f.ops.length c3, .slice a4 f.deps.length c4, .slice a5 f.ats.length c5, .slice a6 f.vals.length c6] 43) (.cells zr 73)
  rw [← hW] at r0 r1 r2
  have HB0 : Hid (InBox w.heap.size W gr c) := ⟨r0, h.later hb⟩
  have HW : Hid (W = ((w.alloc (.cells gr 73)).alloc (.cells #[.int .i64 f.kind, .int .i64 f.node, .int .i64 f.id, .slice a3 f.ops.length c3, .slice a4 f.deps.length c4, .slice a5 f.ats.length c5, .slice a6 f.vals.length c6] 43)).alloc (.cells zr 73)) := hW
  have HR1 : Hid (W.heap[w.heap.size + 1]? = some (.cells #[.int .i64 f.kind, .int .i64 f.node, .int .i64 f.id, .slice a3 f.ops.length c3, .slice a4 f.deps.length c4, .slice a5 f.ats.length c5, .slice a6 f.vals.length c6] 43 (0, 0))) := r1
  have HR2 : Hid (W.heap[w.heap.size + 2]? = some (.cells zr 73 (0, 0))) := r2
  have Hbw : Hid (Below w.heap.size w W) := hb
  have tG := h.row
  have i9 := h.info
  have s9 : zr.size = gr.size := by rw [hzz, h.size]
  have o9 := h.one
  clear hW h r1 r2 hb hzr
  go_enter Try.func55, Try.ntmps55
  go_upto_region 1 with fail
  rw [HZL.out, ← HW.out]
  clear HW HZL
  go_wp2_with (first
    | ((with_reducible apply wpl_row r0); (· rfl); (· exact tG); (· rfl); simp only [Act.put, List.setIfInBounds_toArray, List.set_cons_zero, List.set_cons_succ])
    | fail)
  refine (ref_isCase gr c W HB0.out.case).mono ?_
  rintro e w1 ⟨rfl, hb1⟩
  have HX1 : Hid (InBox w.heap.size w1 gr c) := HB0.out.later hb1
  have HBW1 : Hid (Below W.heap.size W w1) := hb1
  have hz1 := hb1.size
  have rF1 : w1.heap[w.heap.size + 1]? = some (.cells #[.int .i64 f.kind, .int .i64 f.node, .int .i64 f.id, .slice a3 f.ops.length c3, .slice a4 f.deps.length c4, .slice a5 f.ats.length c5, .slice a6 f.vals.length c6] 43 (0, 0)) := by rw [hb1.block _ (by omega)]; exact HR1.out
  have kid : w1.cell? ⟨w.heap.size + 1, 2, none⟩ = some (.int .i64 f.id) := by rw [cell_of_row _ _ _ _ _ _ rF1]; rfl
  have qb := HX1.out.begun
  obtain ⟨a15, c15, q15, hs15, _⟩ := HX1.out.deps
  clear hb1 r0
  rw [HG.out.1] at *
  rw [HG.out.2.1] at qb
  have d3 : (f.id != id) = false := by have := HG.out.2.2.1; simpa using this
  have d5 : (goodL f != 0) = false := by have := HG.out.2.2.2.2.1; simpa using this
  have d6 : (f.kind == 1) = false := by have := HG.out.2.2.2.2.2.1; simpa using this
  have d7 : (f.kind == 3) = false := by have := HG.out.2.2.2.2.2.2; simpa using this
  go_wp2_with fail
  refine (ref_has a15 c15 c.deps id w1 hs15.2.1 hs15.1).mono ?_
  rintro e w2 ⟨rfl, hw⟩
  subst hw
  rw [HG.out.2.2.2.1]
  go_wp2_with (first
    | ((with_reducible apply wpl_row rF1); (· rfl); (· exact row_frame); (· rfl); simp only [Act.put, List.setIfInBounds_toArray, List.set_cons_zero, List.set_cons_succ])
    | fail)
  refine (isFrame_any _ f w2 (HFB.out.later (Hbw.out.trans (HBW1.out.mono (by omega)))).v).mono ?_
  rintro e w3 ⟨rfl, hb3⟩
  have HBW3 : Hid (Below W.heap.size W w3) := HBW1.out.trans (hb3.mono hz1)
  have HX3 : Hid (InBox w.heap.size w3 gr c) := HX1.out.later hb3
  have rF3 : w3.heap[w.heap.size + 1]? = some (.cells #[.int .i64 f.kind, .int .i64 f.node, .int .i64 f.id, .slice a3 f.ops.length c3, .slice a4 f.deps.length c4, .slice a5 f.ats.length c5, .slice a6 f.vals.length c6] 43 (0, 0)) := by rw [hb3.block _ (by omega)]; exact rF1
  have kk3 : w3.cell? ⟨w.heap.size + 1, 0, none⟩ = some (.int .i64 f.kind) := by rw [cell_of_row _ _ _ _ _ _ rF3]; rfl
  have rB3 := HX3.out.row
  have hz3 : w.heap.size + 3 ≤ w3.heap.size := by have := HBW3.out.size; omega
  clear hb3 rF1 kid q15 qb
  go_wp2_with (first
    | ((with_reducible apply wpl_row rB3); (· rfl); (· exact tG); (· rfl); simp only [Act.put, List.setIfInBounds_toArray, List.set_cons_zero, List.set_cons_succ])
    | fail)
  refine (ref_copyCase gr c w3 HX3.out.case).mono ?_
  rintro e w4 ⟨gr4, rfl, hcg, hb4⟩
  have hz4 := hb4.size
  have HBW4 : Hid (Below W.heap.size W w4) := HBW3.out.trans (hb4.mono (by omega))
  have rB4 : w4.heap[w.heap.size]? = some (.cells gr 73 (0, 0)) := (HX3.out.later hb4).row
  have i4 := hcg.v.info
  have s4 : gr.size = gr4.size := by rw [HCV.out.size, hcg.v.size]
  have o4 := hcg.v.one
  obtain ⟨X, hX⟩ : ∃ X, X = w4.setRow w.heap.size gr4 := ⟨_, rfl⟩
  have HXe : Hid (X = w4.setRow w.heap.size gr4) := hX
  have hzX : X.heap.size = w4.heap.size := by rw [hX, size_setRow]
  have hzX1 : w.heap.size + 3 ≤ X.heap.size := by omega
  obtain ⟨mv, hmv, hmc⟩ := hcg
  have HP : Hid (PBox (w.heap.size + 3) w.heap.size X mv c) := by
    refine ⟨by rw [hX, ← hmv]; exact heap_setRow rB4, ?_, by omega⟩
    rw [hX]
    exact (hmc.later (w' := w4.setRow w.heap.size gr4) (fun b _ hb => setRow_other _ _ (by have hb' : w3.heap.size ≤ b := hb; omega))).mono (fun b _ hb => by have hb' : w3.heap.size ≤ b := hb; show w.heap.size + 3 ≤ b; omega)
  have HGX : Hid (W.grownBy X (some w.heap.size)) := by
    unfold Hid
    rw [hX]
    have g := grownR_below (grownR_refl W (some w.heap.size)) HBW4.out
    exact ⟨g.os, g.tape, g.output, by rw [size_setRow]; exact g.size, fun k hk hr => by rw [setRow_other _ _ (fun e => hr (by rw [e]))]; exact g.block k hk hr⟩
  have HFX : Hid (FrameB w.heap.size X (.agg #[.int .i64 f.kind, .int .i64 f.node, .int .i64 f.id, .slice a3 f.ops.length c3, .slice a4 f.deps.length c4, .slice a5 f.ats.length c5, .slice a6 f.vals.length c6]) f) := HFB.out.later (below_row Hbw.out HGX.out (by omega))
  have rFX : X.heap[w.heap.size + 1]? = some (.cells #[.int .i64 f.kind, .int .i64 f.node, .int .i64 f.id, .slice a3 f.ops.length c3, .slice a4 f.deps.length c4, .slice a5 f.ats.length c5, .slice a6 f.vals.length c6] 43 (0, 0)) := by rw [HGX.out.block _ (by omega) (fun e => by have := Option.some.inj e; omega)]; exact HR1.out
  have kn1 : X.cell? ⟨w.heap.size + 1, 1, none⟩ = some (.int .i64 f.node) := by rw [cell_of_row _ _ _ _ _ _ rFX]; rfl
  have kk1 : X.cell? ⟨w.heap.size + 1, 0, none⟩ = some (.int .i64 f.kind) := by rw [cell_of_row _ _ _ _ _ _ rFX]; rfl
  clear hX hzX hmv hmc hb4 rF3 kk3 rB3 i9 s9 o9
  go_upto_region 9 with (refine wpList_store_row rfl 73 _ _ rfl w.heap.size gr4 rfl rfl 73 _ rB4 i4 s4 o4 ?_)
  rw [← HXe.out]
  clear HXe rB4 i4 s4 o4
  go_wp2_with fail
  refine (ofNode_any f.node X).mono ?_
  rintro e X ⟨rfl, rfl⟩
  obtain ⟨d, hd⟩ : ∃ d, d = c.hear f := ⟨_, rfl⟩
  rw [← hd] at HE
  have HD : Hid (d = c.hear f) := hd
  clear hd
  obtain ⟨m, hm6, em⟩ : ∃ m : Nat, m < 6 ∧ f.node = m := ⟨f.node.toNat, by have := (good_frame HG.out.2.2.2.2.1).2; omega, by have := (good_frame HG.out.2.2.2.2.1).2; omega⟩
  have HM : Hid (f.node.toNat = m) := by unfold Hid; omega
  have HMN : Hid (f.node = m) := em
  rw [em] at kn1
  have hmm : (0 : Int) ≤ (m : Int) ∧ (m : Int) < 6 := by omega
  clear em
  have q1 := HP.out.box.fixed
  have q3 := HP.out.box.told hm6
  obtain ⟨a2, c2, q2, hs2, _⟩ := HP.out.box.ops
  rw [Htf.out] at q1
  rw [← HM.out, Htt.out, HM.out] at q3
  have htq : touchesL c.ops (ofL m) = true := by rw [← HMN.out]; exact Htq.out
  go_wp2_with fail
  rw [HMN.out]
  refine (touchesShard_any a2 c2 c.ops (ofL m) X hs2.2.1 hs2.1).mono ?_
  rintro e w6 ⟨rfl, hb6⟩
  have HP6 : Hid (PBox (w.heap.size + 3) w.heap.size w6 mv c) := HP.out.later hb6
  have HG6 : Hid (W.grownBy w6 (some w.heap.size)) := grownR_below HGX.out hb6
  have rF6 : w6.heap[w.heap.size + 1]? = some (.cells #[.int .i64 f.kind, .int .i64 f.node, .int .i64 f.id, .slice a3 f.ops.length c3, .slice a4 f.deps.length c4, .slice a5 f.ats.length c5, .slice a6 f.vals.length c6] 43 (0, 0)) := by rw [hb6.block _ (by omega)]; exact rFX
  have kn6 : w6.cell? ⟨w.heap.size + 1, 1, none⟩ = some (.int .i64 m) := by rw [cell_of_row _ _ _ _ _ _ rF6, ← HMN.out]; rfl
  have q36 := HP6.out.box.told hm6
  have f36 : w6.frozen? ⟨w.heap.size, 3 + m, none⟩ = false := HP6.out.blk.frozen _
  have hz6 := hb6.size
  have HF6 : Hid (FrameB w.heap.size w6 (.agg #[.int .i64 f.kind, .int .i64 f.node, .int .i64 f.id, .slice a3 f.ops.length c3, .slice a4 f.deps.length c4, .slice a5 f.ats.length c5, .slice a6 f.vals.length c6]) f) := HFX.out.later (hb6.mono (by omega))
  obtain ⟨Y, hY⟩ : ∃ Y, Y = w6.setCell ⟨w.heap.size, 3 + m, none⟩ (.bool true) := ⟨_, rfl⟩
  have HPY : Hid (PBox (w.heap.size + 3) w.heap.size Y (putV mv (3 + m) (.bool true)) { c with told := upd c.told m true }) := by unfold Hid; rw [hY]; exact HP6.out.put (3 + m) (.bool true) (HP6.out.case.putTold hm6 true)
  have HGY : Hid (W.grownBy Y (some w.heap.size)) := by unfold Hid; rw [hY]; exact grown_put_same HG6.out _ _
  have hzY : w6.heap.size ≤ Y.heap.size := by rw [hY]; simp [World.setCell]
  have HY : Hid (Y = w6.setCell ⟨w.heap.size, 3 + m, none⟩ (.bool true)) := hY
  have HFY : Hid (FrameB w.heap.size Y (.agg #[.int .i64 f.kind, .int .i64 f.node, .int .i64 f.id, .slice a3 f.ops.length c3, .slice a4 f.deps.length c4, .slice a5 f.ats.length c5, .slice a6 f.vals.length c6]) f) := HF6.out.later (by rw [hY]; exact (Below.refl w.heap.size w6).setCell (show w.heap.size ≤ w.heap.size from Nat.le_refl _) _)
  clear hY hb6 q1 q2 q3 hs2
  go_upto_region 12 with fail
  rw [← HY.out]
  clear HY q36 f36 kn6 rF6
  obtain ⟨y3, z3, y4, z4, y5, z5, y6, z6, efr, _, g4, _, _⟩ := HFY.out
  cases efr
  have rFY : Y.heap[w.heap.size + 1]? = some (.cells #[.int .i64 f.kind, .int .i64 f.node, .int .i64 f.id, .slice a3 f.ops.length c3, .slice a4 f.deps.length c4, .slice a5 f.ats.length c5, .slice a6 f.vals.length c6] 43 (0, 0)) := by rw [HGY.out.block _ (by omega) (fun e => by have := Option.some.inj e; omega)]; exact HR1.out
  have k4 : Y.cell? ⟨w.heap.size + 1, 4, none⟩ = some (.slice a4 f.deps.length c4) := by rw [cell_of_row _ _ _ _ _ _ rFY]; rfl
  obtain ⟨a15, c15, q15, hs15, _⟩ := HPY.out.box.deps
  go_wp2_with fail
  refine (unionOf_any a15 c15 c.deps a4 c4 f.deps Y hs15.2.1 hs15.1 g4.1.2.1 g4.1.1).mono ?_
  rintro e w7 ⟨vu, rfl, hvu, hb7⟩
  obtain ⟨au, cu, evu, _, _⟩ := own_form hvu
  subst evu
  have HP7 : Hid (PBox (w.heap.size + 3) w.heap.size w7 (putV mv (3 + m) (.bool true)) { c with told := upd c.told m true }) := HPY.out.later hb7
  have q15' : w7.cell? ⟨w.heap.size, 15, none⟩ = some (.slice a15 c.deps.length c15) := by rw [hb7.cell (p := ⟨w.heap.size, 15, none⟩) HPY.out.blk.lt]; exact q15
  have f15 : w7.frozen? ⟨w.heap.size, 15, none⟩ = false := HP7.out.blk.frozen _
  have hIv : IsI (w.heap.size + 3 ≤ ·) w7 (.slice au (unionL c.deps f.deps).length cu) (joinL c.deps f.deps) := (IsI.of_owns hvu (union_room _ _)).mono (fun b _ hb => by have := hb.1; show w.heap.size + 3 ≤ b; omega)
  obtain ⟨Z, hZ⟩ : ∃ Z, Z = w7.setCell ⟨w.heap.size, 15, none⟩ (.slice au (unionL c.deps f.deps).length cu) := ⟨_, rfl⟩
  obtain ⟨zv, hzv⟩ : ∃ zv, zv = putV (putV mv (3 + m) (.bool true)) 15 (.slice au (unionL c.deps f.deps).length cu) := ⟨_, rfl⟩
  obtain ⟨c3', hc3⟩ : ∃ c3', c3' = { c with told := upd c.told m true, deps := joinL c.deps f.deps } := ⟨_, rfl⟩
  have HPZ : Hid (PBox (w.heap.size + 3) w.heap.size Z zv c3') := by unfold Hid; rw [hZ, hzv, hc3]; exact HP7.out.put 15 _ (HP7.out.case.putDeps hIv)
  have HGZ : Hid (W.grownBy Z (some w.heap.size)) := by unfold Hid; rw [hZ]; exact grown_put_same (grownR_below HGY.out hb7) _ _
  have HZ : Hid (Z = w7.setCell ⟨w.heap.size, 15, none⟩ (.slice au (unionL c.deps f.deps).length cu)) := hZ
  have HC3 : Hid (c3' = { c with told := upd c.told m true, deps := joinL c.deps f.deps }) := hc3
  have hzZ : w.heap.size + 3 ≤ Z.heap.size := by have := HGZ.out.size; omega
  clear hZ hzv hc3 hIv hvu hb7 q15 hs15 k4 g4
  go_upto_region 13 with fail
  rw [← HZ.out]
  clear HZ q15' f15
  have HT3 : Hid (∀ i, c3'.told i = upd c.told m true i) := fun i => by rw [HC3.out]
  have HO3 : Hid (c3'.ops = c.ops) := by unfold Hid; rw [HC3.out]
  obtain ⟨V, hV⟩ : ∃ V, V = Z.alloc (.cells #[.int .i64 0, .int .i64 0] 121) := ⟨_, rfl⟩
  have HRV : Hid (V.heap[Z.heap.size]? = some (.cells #[.int .i64 0, .int .i64 0] 121 (0, 0))) := by unfold Hid; rw [hV]; exact heap_new _ _
  have HBV : Hid (Below Z.heap.size Z V) := by unfold Hid; rw [hV]; exact (Below.refl _ _).alloc (Nat.le_refl _) _
  have HVe : Hid (V = Z.alloc (.cells #[.int .i64 0, .int .i64 0] 121)) := hV
  obtain ⟨tn, htn⟩ : ∃ tn, tn = upd c.told m true := ⟨_, rfl⟩
  rw [← htn] at HT3
  have HTN : Hid (tn = upd c.told m true) := htn
  clear hV htn
  go_upto_region 14 with fail
  rw [← HVe.out]
  clear HVe
  go_wp2
  go_loopw [90] (fun i wr => ∃ (k : Nat) (x0 x1 : Int), k ≤ 6 ∧ i = .int .i64 k ∧ Hid (((cntT tn 0 k : Nat) : Int) = x0) ∧ Hid (((cntT tn 1 k : Nat) : Int) = x1) ∧ Hid (wr.heap[Z.heap.size]? = some (.cells #[.int .i64 x0, .int .i64 x1] 121 (0, 0))) ∧ Hid (Below Z.heap.size Z wr)) (fun i _ => 6 - (intOf i).toNat)
  case atStart => exact ⟨0, 0, 0, by omega, rfl, rfl, rfl, HRV, HBV⟩
  case round =>
    obtain ⟨k, x0, x1, hk, rfl, Hx0, Hx1, HR, HBr⟩ := hrel
    have hsz := HBr.out.size
    have bx0 : 0 ≤ x0 ∧ x0 ≤ 6 := by have h1 := Hx0.out; have h2 := cntT_le tn 0 k; omega
    have bx1 : 0 ≤ x1 ∧ x1 ≤ 6 := by have h1 := Hx1.out; have h2 := cntT_le tn 1 k; omega
    have HPr : Hid (PBox (w.heap.size + 3) w.heap.size wr zv c3') := HPZ.out.later HBr.out
    have e0 : wr.cell? ⟨Z.heap.size, 0, none⟩ = some (.int .i64 x0) := by rw [cell_of_row _ _ _ _ _ _ HR.out]; rfl
    have e1 : wr.cell? ⟨Z.heap.size, 1, none⟩ = some (.int .i64 x1) := by rw [cell_of_row _ _ _ _ _ _ HR.out]; rfl
    by_cases hlt : k < 6
    · have ek := HPr.out.box.told hlt
      rw [HT3.out k] at ek
      have f0 : wr.frozen? ⟨Z.heap.size, 0, none⟩ = false := frozen_of_row _ _ _ _ _ HR.out
      have f1 : wr.frozen? ⟨Z.heap.size, 1, none⟩ = false := frozen_of_row _ _ _ _ _ HR.out
      have v0 : IntKind.i64.wrap (x0 + 1) = x0 + 1 := wraps_i64 _ (by omega) (by omega)
      have v1 : IntKind.i64.wrap (x1 + 1) = x1 + 1 := wraps_i64 _ (by omega) (by omega)
      have hkk : (k : Int) < 6 := by omega
      have nk : (0 : Int) ≤ (k : Int) ∧ (k : Int) < 6 := by omega
      cases tt : tn k
      · rw [tt] at ek
        have HC : Hid (cntT tn 0 (k + 1) = cntT tn 0 k) := by unfold Hid; simp [cntT, tt]
        have HC' : Hid (cntT tn 1 (k + 1) = cntT tn 1 k) := by unfold Hid; simp [cntT, tt]
        go_wp2
        go_roundw
        case rel => exact ⟨k + 1, x0, x1, by omega, by go_num, by rw [HC.out]; exact Hx0, by rw [HC'.out]; exact Hx1, HR, HBr⟩
        case measure => simp [intOf]; omega
      · rw [tt] at ek
        by_cases h3 : k < 3
        · have HO : Hid (ofL (k : Int) = 0) := by unfold Hid ofL; rw [if_pos (by omega)]
          have hO : ofL (k : Int) = 0 := HO.out
          have HC : Hid (cntT tn 0 (k + 1) = cntT tn 0 k + 1) := by unfold Hid; simp [cntT, tt, HO.out]
          have HC' : Hid (cntT tn 1 (k + 1) = cntT tn 1 k) := by unfold Hid; simp [cntT, tt, HO.out]
          go_wp2_with (go_at_call 69; refine (ofNode_any _ _).mono ?_; rintro e w' ⟨rfl, rfl⟩)
          go_roundw
          case rel =>
            refine ⟨k + 1, x0 + 1, x1, by omega, by go_num, ?_, ?_, ?_, (Below.setCell HBr.out (Nat.le_refl _) _)⟩
            · rw [HC.out]; unfold Hid; have h1 := Hx0.out; omega
            · rw [HC'.out]; exact Hx1
            · unfold Hid; rw [heap_setCell_same _ _ _ _ _ _ HR.out]; rfl
          case measure => simp [intOf]; omega
        · have HO : Hid (ofL (k : Int) = 1) := by unfold Hid ofL; rw [if_neg (by omega)]
          have hO : ofL (k : Int) = 1 := HO.out
          have HC : Hid (cntT tn 1 (k + 1) = cntT tn 1 k + 1) := by unfold Hid; simp [cntT, tt, HO.out]
          have HC' : Hid (cntT tn 0 (k + 1) = cntT tn 0 k) := by unfold Hid; simp [cntT, tt, HO.out]
          go_wp2_with (go_at_call 69; refine (ofNode_any _ _).mono ?_; rintro e w' ⟨rfl, rfl⟩)
          go_roundw
          case rel =>
            refine ⟨k + 1, x0, x1 + 1, by omega, by go_num, ?_, ?_, ?_, (Below.setCell HBr.out (Nat.le_refl _) _)⟩
            · rw [HC'.out]; exact Hx0
            · rw [HC.out]; unfold Hid; have h1 := Hx1.out; omega
            · unfold Hid; rw [heap_setCell_same _ _ _ _ _ _ HR.out]; rfl
          case measure => simp [intOf]; omega
    · have hk6 : k = 6 := by omega
      subst hk6
      obtain ⟨a2, c2, q2, hs2, _⟩ := HPr.out.box.ops
      rw [HO3.out] at q2 hs2
      have HMB : Hid (true = (!(decide (x0 < 2) && touchesL c.ops 0) && !(decide (x1 < 2) && touchesL c.ops 1))) := by
        unfold Hid
        have h9 := Htm.out
        rw [HM.out, ← HTN.out, most_cnt, ← show ∀ n : Nat, decide ((n : Int) < 2) = decide (n < 2) from fun n => by rw [decide_eq_decide]; omega, ← show ∀ n : Nat, decide ((n : Int) < 2) = decide (n < 2) from fun n => by rw [decide_eq_decide]; omega, Hx0.out, Hx1.out] at h9
        exact h9.symm
      have q1r := HPr.out.box.fixed
      have f1r : wr.frozen? ⟨w.heap.size, 1, none⟩ = false := HPr.out.blk.frozen _
      have HGr : Hid (W.grownBy wr (some w.heap.size)) := grownR_below HGZ.out HBr.out
      clear hk hlt
      go_upto_region 20 with fail
      go_cut [] from 11 (fun wc => Hid (PBox (w.heap.size + 3) w.heap.size wc (putV zv 1 (.bool true)) { c3' with fixed := true }) ∧ Hid (W.grownBy wc (some w.heap.size)))
      case first =>
        by_cases d0 : 1 < x0
        · have d0' : ¬ x0 < 2 := by omega
          have dd0 : decide (1 < x0) = true := decide_eq_true d0
          by_cases d1 : 1 < x1
          · have d1' : ¬ x1 < 2 := by omega
            have dd1 : decide (1 < x1) = true := decide_eq_true d1
            go_wp2
            go_meet
            case rel => exact ⟨HPr.out.put 1 (.bool true) (HPr.out.case.putFixed true), grown_put_same HGr.out _ _⟩
          · have d1' : x1 < 2 := by omega
            have dd1 : decide (1 < x1) = false := decide_eq_false d1
            go_wp2_with fail
            refine (touchesShard_any a2 c2 c.ops 1 wr hs2.2.1 hs2.1).mono ?_
            rintro e wz ⟨rfl, hbz⟩
            have hbz2 : Below wr.heap.size wr wz := hbz
            cases u1 : touchesL c.ops 1
            · have q1s : wz.cell? ⟨w.heap.size, 1, none⟩ = some (.bool c3'.fixed) := (HPr.out.later hbz2).box.fixed
              have f1s : wz.frozen? ⟨w.heap.size, 1, none⟩ = false := (HPr.out.later hbz2).blk.frozen _
              go_wp2
              go_meet
              case rel => exact ⟨(HPr.out.later hbz2).put 1 (.bool true) ((HPr.out.later hbz2).case.putFixed true), grown_put_same (grownR_below HGr.out hbz2) _ _⟩
            · exact absurd (show true = false by rw [HMB.out]; simp [d0', d1', u1]) (by decide)
        · have d0' : x0 < 2 := by omega
          have dd0 : decide (1 < x0) = false := decide_eq_false d0
          go_wp2_with fail
          refine (touchesShard_any a2 c2 c.ops 0 wr hs2.2.1 hs2.1).mono ?_
          rintro e wy ⟨rfl, hby⟩
          cases u0 : touchesL c.ops 0
          · have q2s : wy.cell? ⟨w.heap.size, 2, none⟩ = some (.slice a2 c.ops.length c2) := by rw [hby.cell (p := ⟨w.heap.size, 2, none⟩) HPr.out.blk.lt]; exact q2
            have e1s : wy.cell? ⟨Z.heap.size, 1, none⟩ = some (.int .i64 x1) := by rw [hby.cell (p := ⟨Z.heap.size, 1, none⟩) (Array.getElem?_eq_some_iff.1 HR.out).1]; exact e1
            by_cases d1 : 1 < x1
            · have d1' : ¬ x1 < 2 := by omega
              have dd1 : decide (1 < x1) = true := decide_eq_true d1
              have q1s : wy.cell? ⟨w.heap.size, 1, none⟩ = some (.bool c3'.fixed) := (HPr.out.later hby).box.fixed
              have f1s : wy.frozen? ⟨w.heap.size, 1, none⟩ = false := (HPr.out.later hby).blk.frozen _
              go_wp2
              go_meet
              case rel => exact ⟨(HPr.out.later hby).put 1 (.bool true) ((HPr.out.later hby).case.putFixed true), grown_put_same (grownR_below HGr.out hby) _ _⟩
            · have d1' : x1 < 2 := by omega
              have dd1 : decide (1 < x1) = false := decide_eq_false d1
              go_wp2_with fail
              refine (touchesShard_any a2 c2 c.ops 1 wy (hs2.later hby).2.1 (hs2.later hby).1).mono ?_
              rintro e wz ⟨rfl, hbz⟩
              have hbz2 : Below wr.heap.size wr wz := hby.trans (hbz.mono hby.size)
              cases u1 : touchesL c.ops 1
              · have q1s : wz.cell? ⟨w.heap.size, 1, none⟩ = some (.bool c3'.fixed) := (HPr.out.later hbz2).box.fixed
                have f1s : wz.frozen? ⟨w.heap.size, 1, none⟩ = false := (HPr.out.later hbz2).blk.frozen _
                go_wp2
                go_meet
                case rel => exact ⟨(HPr.out.later hbz2).put 1 (.bool true) ((HPr.out.later hbz2).case.putFixed true), grown_put_same (grownR_below HGr.out hbz2) _ _⟩
              · exact absurd (show true = false by rw [HMB.out]; simp [u0, d1', u1]) (by decide)
          · exact absurd (show true = false by rw [HMB.out]; simp [d0', u0]) (by decide)
      case rest =>
        obtain ⟨HPc, HGc⟩ := hcut
        have HDd : Hid (d = { c3' with fixed := true }) := by
          unfold Hid
          rw [HD.out, HC3.out]
          unfold CaseL.hear
          have h9 := Htm.out
          rw [HM.out] at h9 ⊢
          rw [h9]
        have HPd : Hid (PBox (w.heap.size + 3) w.heap.size wc (putV zv 1 (.bool true)) d) := by unfold Hid; rw [HDd.out]; exact HPc.out
        have qc : wc.cell? ⟨w.heap.size, 1, none⟩ = some (.bool true) := HPc.out.box.fixed
        have hzc : w.heap.size + 3 ≤ wc.heap.size := by have := HGc.out.size; omega
        clear q2 hs2 q1r f1r e0 e1
        obtain ⟨fv, hfv⟩ : ∃ fv, fv = putV zv 1 (.bool true) := ⟨_, rfl⟩
        rw [← hfv] at HPd
        obtain ⟨al, hal⟩ : ∃ al, al = (rowF 24 fv).toList := ⟨_, rfl⟩
        have hala : al.toArray = rowF 24 fv := by rw [hal]
        have rA : wc.rangeAt w.heap.size 0 al := by rw [hal]; exact HPd.out.box.range
        have zal : (Try.prog.info? 73).map (·.size) = some al.length := by rw [hal]; exact HPd.out.box.case.len
        have zal2 : (Try.prog.info? 73).map (·.size) = some al.toArray.size := by rw [hala]; exact HPd.out.box.case.info
        have hal1 : al.toArray.all (·.oneCell') = true := by rw [hala]; exact HPd.out.box.case.one
        have hzz9 : zr.size = al.toArray.size := by rw [hala, rowF_size]; exact hzz
        have HALA : Hid (al.toArray = rowF 24 fv) := hala
        have HAg : Hid (∀ wx, wx = wc.drew → Calls Try.prog 49 #[.agg al.toArray, .int .i64 id] wx fun e w' => ∃ x, e = .returned x ∧ Hid (FramesV (w.heap.size + 3) w' x (againC d id)) ∧ Hid (Below wc.heap.size wc w') ∧ w'.rangeAt w.heap.size 0 al) := by
          rintro wx rfl
          refine (ref_again (w.heap.size + 3) al.toArray d id _ ⟨fv, hala, HPd.out.drew.case⟩ (show w.heap.size + 3 ≤ wc.heap.size from hzc)).mono ?_
          rintro e w9 ⟨x, rfl, hfx, hb9⟩
          have hb9' : Below wc.heap.size wc w9 := (Below.drew (Below.refl _ _)).trans hb9
          exact ⟨x, rfl, hfx, hb9', range_keep rA hb9' HPd.out.blk.lt⟩
        have HSr : Hid (∀ w9 : World, w9.rangeAt w.heap.size 0 al → (w9.setRow (w.heap.size + 2) al.toArray).rangeAt w.heap.size 0 al) := fun w9 h9 j v hv => by
          rw [World.cell?_of_block (a := ⟨w.heap.size, 0 + j, none⟩) (setRow_other w9 (k := w.heap.size) al.toArray (by omega))]
          exact h9 j v hv
        clear hal hala hfv
        go_upto_region 22 with fail
        refine wp_region_held_drew (S := fun w' => w'.rangeAt w.heap.size 0 al) (by kernel_rfl) rA ?_
        intro hH
        refine wpAnyH_takeD (i := 0) (d := some 127) (v := .agg al.toArray) rfl rfl (by kernel_rfl) (by kernel_rfl) (by kernel_rfl) (fun _ _ _ h => h) (yieldsIf_load_mid (by rfl) _ _ rfl _ _ rfl al _ (fun _ h => h) Try.underlying73 rfl zal) hH ?_
        simp only [Act.put, List.setIfInBounds_toArray, List.set_cons_zero, List.set_cons_succ]
        refine wpAnyH_takeD (i := 1) (d := some 128) (v := .agg al.toArray) rfl rfl (by kernel_rfl) (by kernel_rfl) (by kernel_rfl) (fun _ _ _ h => h) (yieldsIf_load_mid (by rfl) _ _ rfl _ _ rfl al _ (fun _ h => h) Try.underlying73 rfl zal) hH ?_
        simp only [Act.put, List.setIfInBounds_toArray, List.set_cons_zero, List.set_cons_succ]
        refine wpAnyH_takeD (i := 2) (d := some 129) (v := .int .i64 id) rfl rfl (by kernel_rfl) (by kernel_rfl) (by kernel_rfl) (fun _ _ _ h => h) (Or.inl ⟨by rfl, fun _ _ => by go_simp⟩) hH ?_
        simp only [Act.put, List.setIfInBounds_toArray, List.set_cons_zero, List.set_cons_succ]
        refine wpAnyH_ready (rs := [3]) (by kernel_rfl) (by simp) ?_
        refine AllReadyH.cons rfl (fun K hK => ?_) AllReadyH.nil
        go_simp
        refine (HAg.out _ rfl).mono ?_
        rintro e w9 ⟨x, rfl, HFx, HB9, hS9⟩
        go_wp2_with fail
        refine hK.out _ _ (hS9) (fun hH2 => ?_)
        clear hK K hH
        have hH := hH2
        clear hH2
        have rZ9 : w9.heap[w.heap.size + 2]? = some (.cells zr 73 (0, 0)) := by rw [HB9.out.block _ (by omega), HGc.out.block _ (by omega) (fun e => by have := Option.some.inj e; omega)]; exact HR2.out
        refine wpAnyH_ready (rs := [4]) (by kernel_rfl) (by simp) ?_
        refine AllReadyH.cons rfl (fun K hK => ?_) AllReadyH.nil
        rw [if_pos (by rfl)]
        refine wp_store_row 73 _ _ rfl (w.heap.size + 2) al.toArray rfl rfl 73 _ rZ9 zal2 hzz9 hal1 ?_
        refine hK.out _ _ (HSr.out w9 hS9) (fun hH2 => ?_)
        clear hK K hH
        have hH := hH2
        clear hH2
        refine wpAnyH_takeD (i := 5) (d := some 7) (v := x) rfl rfl (by kernel_rfl) (by kernel_rfl) (by kernel_rfl) (fun _ _ _ h => h) (Or.inl ⟨by rfl, fun _ _ => by go_simp⟩) hH ?_
        simp only [Act.put, List.setIfInBounds_toArray, List.set_cons_zero, List.set_cons_succ]
        refine wpAnyH_takeD (i := 6) (d := some 8) (v := .int .i64 0) rfl rfl (by kernel_rfl) (by kernel_rfl) (by kernel_rfl) (fun _ _ _ h => h) (Or.inl ⟨by rfl, fun _ _ => by go_simp⟩) hH ?_
        simp only [Act.put, List.setIfInBounds_toArray, List.set_cons_zero, List.set_cons_succ]
        refine wpAnyH_done (by kernel_rfl) ?_ _
        have HPe : Hid (CaseV (w9.setRow (w.heap.size + 2) al.toArray) al.toArray d) := by
          unfold Hid
          have h5 := ((HPd.out.later HB9.out).out al.toArray).v
          rw [← HALA.out] at h5
          exact h5
        have HFe : Hid (FramesV 0 (w9.setRow (w.heap.size + 2) al.toArray) x (againC d id)) := (HFx.out.same (w' := w9.setRow (w.heap.size + 2) al.toArray) (fun b _ hb => setRow_other _ _ (by omega))).mono (Nat.zero_le _)
        have hbF : Below w.heap.size w (w9.setRow (w.heap.size + 2) al.toArray) := setRow_below (below_row Hbw.out (grownR_below HGc.out HB9.out) (by omega)) (by omega) _
        go_wp2
        refine bodyPost_ret (v := .tuple #[.agg al.toArray, x, .int .i64 0]) (results_row2 Try.results55 _ _ (w.heap.size + 2) 73 al.toArray (0, 0) _ rfl (heap_setRow rZ9) Try.underlying73 rfl zal2 _ _ rfl rfl) rfl ⟨al.toArray, x, by rw [HE.out], by rw [HE.out]; exact HPe.out, by rw [HE.out]; exact HFe.out, hbF⟩

end Go.Proofs.Ytkoefoccbjhoiab

namespace Go.Proofs.Ytkoefoccbjhoiab
open Go.RowKit

theorem kind_range {f : FrameL} (h : goodL f = 0) : 1 ≤ f.kind ∧ f.kind ≤ 5 := by
  unfold goodL at h
  split at h
  · omega
  · omega
theorem ref_takeAnswer (gr : Array Value) (c : CaseL) (id : Int) (v : Value) (f : FrameL) (w : World) (h : CaseV w gr c) (hf : FrameV w v f) :
    Calls Try.prog 55 #[.agg gr, .int .i64 id, v] w fun e w' => ∃ gr' x, e = .returned (.tuple #[.agg gr', x, .int .i64 (takeC c id f).2.2]) ∧ CaseV w' gr' (takeC c id f).1 ∧ FramesV 0 w' x (takeC c id f).2.1 ∧ Below w.heap.size w w' := by
  by_cases t0 : refC c id f = 0
  · obtain ⟨_, _, h3, h4, h5⟩ := ref_ok t0
    have hk := kind_range h3
    by_cases k2 : f.kind = 2
    · cases tf : c.fixed
      · cases tt : c.told f.node.toNat
        · cases tq : touchesL c.ops (ofL f.node)
          · exact rtake_t2 gr c id v f w h hf t0 k2 tf tt tq
          · cases tm : mostB c.ops (upd c.told f.node.toNat true)
            · exact rtake_t3 gr c id v f w h hf t0 k2 tf tt tq tm
            · exact rtake_t4 gr c id v f w h hf t0 k2 tf tt tq tm
        · exact rtake_t1 gr c id v f w h hf t0 k2 tf tt
      · exact rtake_t0 gr c id v f w h hf t0 k2 tf
    · by_cases k4 : f.kind = 4
      · cases tf : c.fixed
        · exact rtake_k0 gr c id v f w h hf t0 k4 tf
        · exact rtake_k1 gr c id v f w h hf t0 k4 tf
      · have k5 : f.kind = 5 := by omega
        cases tf : c.fixed
        · exact rtake_d0 gr c id v f w h hf t0 k5 tf
        · exact rtake_d1 gr c id v f w h hf t0 k5 tf
  · exact rtake_r gr c id v f w h hf t0

end Go.Proofs.Ytkoefoccbjhoiab
