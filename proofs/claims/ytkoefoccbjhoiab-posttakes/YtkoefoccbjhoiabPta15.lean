/-
  The document's own TakeAnswer: Told, where nothing is heard.
  The contract of the document's own UnionOf.
-/
import Derived.Test.YtkoefoccbjhoiabPta13
import Derived.Test.YtkoefoccbjhoiabPta7
import Derived.Test.YtkoefoccbjhoiabPta10
import Derived.Test.YtkoefoccbjhoiabPta8
namespace Go.Proofs.Ytkoefoccbjhoiab
open Go.RowKit
set_option linter.unusedSimpArgs false
set_option linter.unusedVariables false

set_option maxRecDepth 100000 in
set_option maxHeartbeats 4000000 in
theorem rtake_t0 (gr : Array Value) (c : CaseL) (id : Int) (v : Value) (f : FrameL) (w : World) (h : CaseV w gr c) (hf : FrameV w v f) (t0 : refC c id f = 0) (tk : f.kind = 2) (tf : c.fixed = true) :
    Calls Try.prog 55 #[.agg gr, .int .i64 id, v] w fun e w' => ∃ gr' x, e = .returned (.tuple #[.agg gr', x, .int .i64 (takeC c id f).2.2]) ∧ CaseV w' gr' (takeC c id f).1 ∧ FramesV 0 w' x (takeC c id f).2.1 ∧ Below w.heap.size w w' := by
  have HE : Hid (takeC c id f = (c, [], 0)) := by rw [take_told t0 tk]; unfold toldC; rw [if_pos (Or.inl tf)]; rfl
  have HG : Hid (goodCB c = true ∧ c.begun = true ∧ f.id = id ∧ hasL c.deps id = false ∧ goodL f = 0 ∧ f.kind ≠ 1 ∧ f.kind ≠ 3) := by
    obtain ⟨g1, g2, g3, g4, g5⟩ := ref_ok t0
    unfold isCaseOfB at g1
    simp only [Bool.and_eq_true, Bool.not_eq_true'] at g1
    exact ⟨g1.1.1, g1.1.2, g2, g1.2, g3, g4, g5⟩
  have Htk : Hid (f.kind = 2) := tk
  have Htf : Hid (c.fixed = true) := tf
  clear t0 tk tf
  have e2 : (f.kind == 2) = true := by rw [Htk.out]; decide
  have e4 : (f.kind == 4) = false := by rw [Htk.out]; decide
  have e5 : (f.kind == 5) = false := by rw [Htk.out]; decide
  have HFB : Hid (FrameB w.heap.size w v f) := hf.b
  have HCV : Hid (CaseV w gr c) := h
  obtain ⟨a3, c3, a4, c4, a5, c5, a6, c6, rfl, _⟩ := hf
  obtain ⟨zr, hzr⟩ : ∃ zr, zr = rowF 24 zcv := ⟨_, rfl⟩
  have HZL : Hid ((#[.bool false, .bool false, .slice none 0 0, .bool false, .bool false, .bool false, .bool false, .bool false, .bool false, .bool false, .bool false, .bool false, .bool false, .bool false, .bool false, .slice none 0 0, .bool false, .bool false, .bool false, .bool false, .int .i64 0, .int .i64 0, .int .i64 0, .int .i64 0] : Array Value) = zr) := by unfold Hid; rw [hzr]; rfl
  have hzz : zr.size = 24 := by rw [hzr, rowF_size]
  obtain ⟨W, hW⟩ : ∃ W, W = ((w.alloc (.cells gr 73)).alloc (.cells #[.int .i64 f.kind, .int .i64 f.node, .int .i64 f.id, .slice a3 f.ops.length c3, .slice a4 f.deps.length c4, .slice a5 f.ats.length c5, .slice a6 f.vals.length c6] 43)).alloc (.cells zr 73) := ⟨_, rfl⟩
  have hb : Below w.heap.size w W := by rw [hW]; exact (((Below.refl _ _).alloc (Nat.le_refl _) _).alloc (by rw [size_push]; omega) _).alloc (by rw [size_push, size_push]; omega) _
  have hzW : W.heap.size = w.heap.size + 3 := by rw [hW, size_push, size_push, size_push]
  obtain ⟨r0, r1, r2⟩ := rows3 w (.cells gr 73) (.cells #[.int .i64 f.kind, .int .i64 f.node, .int .i64 f.id, .slice a3 f.ops.length c3, .slice a4 f.deps.length c4, .slice a5 f.ats.length c5, .slice a6 f.vals.length c6] 43) (.cells zr 73)
  rw [← hW] at r0 r1 r2
  have HB0 : Hid (InBox w.heap.size W gr c) := ⟨r0, h.later hb⟩
  have HW : Hid (W = ((w.alloc (.cells gr 73)).alloc (.cells #[.int .i64 f.kind, .int .i64 f.node, .int .i64 f.id, .slice a3 f.ops.length c3, .slice a4 f.deps.length c4, .slice a5 f.ats.length c5, .slice a6 f.vals.length c6] 43)).alloc (.cells zr 73)) := hW
  have HR1 : Hid (W.heap[w.heap.size + 1]? = some (.cells #[.int .i64 f.kind, .int .i64 f.node, .int .i64 f.id, .slice a3 f.ops.length c3, .slice a4 f.deps.length c4, .slice a5 f.ats.length c5, .slice a6 f.vals.length c6] 43 (0, 0))) := r1
  have HR2 : Hid (W.heap[w.heap.size + 2]? = some (.cells zr 73 (0, 0))) := r2
  have Hbw : Hid (Below w.heap.size w W) := hb
  have tG := h.row
  have i9 := h.info
  have s9 : zr.size = gr.size := by rw [hzz, h.size]
  have o9 := h.one
  clear hW h r1 r2 hb hzr
  go_enter Try.func55, Try.ntmps55
  go_upto_region 1 with fail
  rw [HZL.out, ← HW.out]
  clear HW HZL
  go_wp2_with (first
    | ((with_reducible apply wpl_row r0); (· rfl); (· exact tG); (· rfl); simp only [Act.put, List.setIfInBounds_toArray, List.set_cons_zero, List.set_cons_succ])
    | fail)
  refine (ref_isCase gr c W HB0.out.case).mono ?_
  rintro e w1 ⟨rfl, hb1⟩
  have HX1 : Hid (InBox w.heap.size w1 gr c) := HB0.out.later hb1
  have HBW1 : Hid (Below W.heap.size W w1) := hb1
  have hz1 := hb1.size
  have rF1 : w1.heap[w.heap.size + 1]? = some (.cells #[.int .i64 f.kind, .int .i64 f.node, .int .i64 f.id, .slice a3 f.ops.length c3, .slice a4 f.deps.length c4, .slice a5 f.ats.length c5, .slice a6 f.vals.length c6] 43 (0, 0)) := by rw [hb1.block _ (by omega)]; exact HR1.out
  have kid : w1.cell? ⟨w.heap.size + 1, 2, none⟩ = some (.int .i64 f.id) := by rw [cell_of_row _ _ _ _ _ _ rF1]; rfl
  have qb := HX1.out.begun
  obtain ⟨a15, c15, q15, hs15, _⟩ := HX1.out.deps
  clear hb1 r0
  rw [HG.out.1] at *
  rw [HG.out.2.1] at qb
  have d3 : (f.id != id) = false := by have := HG.out.2.2.1; simpa using this
  have d5 : (goodL f != 0) = false := by have := HG.out.2.2.2.2.1; simpa using this
  have d6 : (f.kind == 1) = false := by have := HG.out.2.2.2.2.2.1; simpa using this
  have d7 : (f.kind == 3) = false := by have := HG.out.2.2.2.2.2.2; simpa using this
  go_wp2_with fail
  refine (ref_has a15 c15 c.deps id w1 hs15.2.1 hs15.1).mono ?_
  rintro e w2 ⟨rfl, hw⟩
  subst hw
  rw [HG.out.2.2.2.1]
  go_wp2_with (first
    | ((with_reducible apply wpl_row rF1); (· rfl); (· exact row_frame); (· rfl); simp only [Act.put, List.setIfInBounds_toArray, List.set_cons_zero, List.set_cons_succ])
    | fail)
  refine (isFrame_any _ f w2 (HFB.out.later (Hbw.out.trans (HBW1.out.mono (by omega)))).v).mono ?_
  rintro e w3 ⟨rfl, hb3⟩
  have HBW3 : Hid (Below W.heap.size W w3) := HBW1.out.trans (hb3.mono hz1)
  have HX3 : Hid (InBox w.heap.size w3 gr c) := HX1.out.later hb3
  have rF3 : w3.heap[w.heap.size + 1]? = some (.cells #[.int .i64 f.kind, .int .i64 f.node, .int .i64 f.id, .slice a3 f.ops.length c3, .slice a4 f.deps.length c4, .slice a5 f.ats.length c5, .slice a6 f.vals.length c6] 43 (0, 0)) := by rw [hb3.block _ (by omega)]; exact rF1
  have kk3 : w3.cell? ⟨w.heap.size + 1, 0, none⟩ = some (.int .i64 f.kind) := by rw [cell_of_row _ _ _ _ _ _ rF3]; rfl
  have rB3 := HX3.out.row
  have hz3 : w.heap.size + 3 ≤ w3.heap.size := by have := HBW3.out.size; omega
  clear hb3 rF1 kid q15 qb
  go_wp2_with (first
    | ((with_reducible apply wpl_row rB3); (· rfl); (· exact tG); (· rfl); simp only [Act.put, List.setIfInBounds_toArray, List.set_cons_zero, List.set_cons_succ])
    | fail)
  refine (ref_copyCase gr c w3 HX3.out.case).mono ?_
  rintro e w4 ⟨gr4, rfl, hcg, hb4⟩
  have hz4 := hb4.size
  have HBW4 : Hid (Below W.heap.size W w4) := HBW3.out.trans (hb4.mono (by omega))
  have rB4 : w4.heap[w.heap.size]? = some (.cells gr 73 (0, 0)) := (HX3.out.later hb4).row
  have i4 := hcg.v.info
  have s4 : gr.size = gr4.size := by rw [HCV.out.size, hcg.v.size]
  have o4 := hcg.v.one
  obtain ⟨X, hX⟩ : ∃ X, X = w4.setRow w.heap.size gr4 := ⟨_, rfl⟩
  have HXe : Hid (X = w4.setRow w.heap.size gr4) := hX
  have hzX : X.heap.size = w4.heap.size := by rw [hX, size_setRow]
  have hzX1 : w.heap.size + 3 ≤ X.heap.size := by omega
  obtain ⟨mv, hmv, hmc⟩ := hcg
  have HP : Hid (PBox (w.heap.size + 3) w.heap.size X mv c) := by
    refine ⟨by rw [hX, ← hmv]; exact heap_setRow rB4, ?_, by omega⟩
    rw [hX]
    exact (hmc.later (w' := w4.setRow w.heap.size gr4) (fun b _ hb => setRow_other _ _ (by have hb' : w3.heap.size ≤ b := hb; omega))).mono (fun b _ hb => by have hb' : w3.heap.size ≤ b := hb; show w.heap.size + 3 ≤ b; omega)
  have HGX : Hid (W.grownBy X (some w.heap.size)) := by
    unfold Hid
    rw [hX]
    have g := grownR_below (grownR_refl W (some w.heap.size)) HBW4.out
    exact ⟨g.os, g.tape, g.output, by rw [size_setRow]; exact g.size, fun k hk hr => by rw [setRow_other _ _ (fun e => hr (by rw [e]))]; exact g.block k hk hr⟩
  have HFX : Hid (FrameB w.heap.size X (.agg #[.int .i64 f.kind, .int .i64 f.node, .int .i64 f.id, .slice a3 f.ops.length c3, .slice a4 f.deps.length c4, .slice a5 f.ats.length c5, .slice a6 f.vals.length c6]) f) := HFB.out.later (below_row Hbw.out HGX.out (by omega))
  have rFX : X.heap[w.heap.size + 1]? = some (.cells #[.int .i64 f.kind, .int .i64 f.node, .int .i64 f.id, .slice a3 f.ops.length c3, .slice a4 f.deps.length c4, .slice a5 f.ats.length c5, .slice a6 f.vals.length c6] 43 (0, 0)) := by rw [HGX.out.block _ (by omega) (fun e => by have := Option.some.inj e; omega)]; exact HR1.out
  have kn1 : X.cell? ⟨w.heap.size + 1, 1, none⟩ = some (.int .i64 f.node) := by rw [cell_of_row _ _ _ _ _ _ rFX]; rfl
  have kk1 : X.cell? ⟨w.heap.size + 1, 0, none⟩ = some (.int .i64 f.kind) := by rw [cell_of_row _ _ _ _ _ _ rFX]; rfl
  clear hX hzX hmv hmc hb4 rF3 kk3 rB3 i9 s9 o9
  go_upto_region 9 with (refine wpList_store_row rfl 73 _ _ rfl w.heap.size gr4 rfl rfl 73 _ rB4 i4 s4 o4 ?_)
  rw [← HXe.out]
  clear HXe rB4 i4 s4 o4
  go_wp2_with fail
  refine (ofNode_any f.node X).mono ?_
  rintro e X ⟨rfl, rfl⟩
  obtain ⟨m, hm6, em⟩ : ∃ m : Nat, m < 6 ∧ f.node = m := ⟨f.node.toNat, by have := (good_frame HG.out.2.2.2.2.1).2; omega, by have := (good_frame HG.out.2.2.2.2.1).2; omega⟩
  have HM : Hid (f.node.toNat = m) := by unfold Hid; omega
  have HMN : Hid (f.node = m) := em
  rw [em] at kn1
  have hmm : (0 : Int) ≤ (m : Int) ∧ (m : Int) < 6 := by omega
  clear em
  have q1 := HP.out.box.fixed
  have q3 := HP.out.box.told hm6
  obtain ⟨a2, c2, q2, hs2, _⟩ := HP.out.box.ops
  rw [Htf.out] at q1
  obtain ⟨hs, ehs⟩ : ∃ hs, hs = rowF 24 mv := ⟨_, rfl⟩
  have HHS : Hid (hs = rowF 24 mv) := ehs
  have r9 : X.heap[w.heap.size]? = some (.cells hs 73 (0, 0)) := by rw [ehs]; exact HP.out.row
  have t9 : RowT Try.prog 73 hs.size := by rw [ehs]; exact HP.out.box.case.row
  have i9 : (Try.prog.info? 73).map (·.size) = some hs.size := by rw [ehs]; exact HP.out.box.case.info
  have s9 : zr.size = hs.size := by rw [ehs, rowF_size]; exact hzz
  have o9 : hs.all (·.oneCell') = true := by rw [ehs]; exact HP.out.box.case.one
  have rZ9 : X.heap[w.heap.size + 2]? = some (.cells zr 73 (0, 0)) := by rw [HGX.out.block _ (by omega) (fun e => by have := Option.some.inj e; omega)]; exact HR2.out
  clear ehs
  go_wp2_with (first
    | ((with_reducible apply wpl_row r9); (· rfl); (· exact t9); (· rfl); simp only [Act.put, List.setIfInBounds_toArray, List.set_cons_zero, List.set_cons_succ])
    | (refine wpList_store_row rfl 73 _ _ rfl (w.heap.size + 2) hs rfl rfl 73 _ rZ9 i9 s9 o9 ?_)
    | fail)
  refine bodyPost_ret (v := .tuple #[.agg hs, .slice none 0 0, .int .i64 0]) (results_row2 Try.results55 _ _ (w.heap.size + 2) 73 hs (0, 0) _ rfl (heap_setRow rZ9) Try.underlying73 rfl i9 _ _ rfl rfl) rfl ⟨hs, .slice none 0 0, by rw [HE.out], by rw [HE.out]; have hh := (HP.out.out hs).v; rw [← HHS.out] at hh; exact hh, by rw [HE.out]; exact FramesV.nil _ _, setRow_below (below_row Hbw.out HGX.out (by omega)) (by omega) _⟩

set_option maxRecDepth 100000 in
set_option maxHeartbeats 4000000 in
theorem rtake_t1 (gr : Array Value) (c : CaseL) (id : Int) (v : Value) (f : FrameL) (w : World) (h : CaseV w gr c) (hf : FrameV w v f) (t0 : refC c id f = 0) (tk : f.kind = 2) (tf : c.fixed = false) (tt : c.told f.node.toNat = true) :
    Calls Try.prog 55 #[.agg gr, .int .i64 id, v] w fun e w' => ∃ gr' x, e = .returned (.tuple #[.agg gr', x, .int .i64 (takeC c id f).2.2]) ∧ CaseV w' gr' (takeC c id f).1 ∧ FramesV 0 w' x (takeC c id f).2.1 ∧ Below w.heap.size w w' := by
  have HE : Hid (takeC c id f = (c, [], 0)) := by rw [take_told t0 tk]; unfold toldC; rw [if_pos (Or.inr (Or.inl tt))]; rfl
  have HG : Hid (goodCB c = true ∧ c.begun = true ∧ f.id = id ∧ hasL c.deps id = false ∧ goodL f = 0 ∧ f.kind ≠ 1 ∧ f.kind ≠ 3) := by
    obtain ⟨g1, g2, g3, g4, g5⟩ := ref_ok t0
    unfold isCaseOfB at g1
    simp only [Bool.and_eq_true, Bool.not_eq_true'] at g1
    exact ⟨g1.1.1, g1.1.2, g2, g1.2, g3, g4, g5⟩
  have Htk : Hid (f.kind = 2) := tk
  have Htf : Hid (c.fixed = false) := tf
  have Htt : Hid (c.told f.node.toNat = true) := tt
  clear t0 tk tf tt
  have e2 : (f.kind == 2) = true := by rw [Htk.out]; decide
  have e4 : (f.kind == 4) = false := by rw [Htk.out]; decide
  have e5 : (f.kind == 5) = false := by rw [Htk.out]; decide
  have HFB : Hid (FrameB w.heap.size w v f) := hf.b
  have HCV : Hid (CaseV w gr c) := h
  obtain ⟨a3, c3, a4, c4, a5, c5, a6, c6, rfl, _⟩ := hf
  obtain ⟨zr, hzr⟩ : ∃ zr, zr = rowF 24 zcv := ⟨_, rfl⟩
  have HZL : Hid ((#[.bool false, .bool false, .slice none 0 0, .bool false, .bool false, .bool false, .bool false, .bool false, .bool false, .bool false, .bool false, .bool false, .bool false, .bool false, .bool false, .slice none 0 0, .bool false, .bool false, .bool false, .bool false, .int .i64 0, .int .i64 0, .int .i64 0, .int .i64 0] : Array Value) = zr) := by unfold Hid; rw [hzr]; rfl
  have hzz : zr.size = 24 := by rw [hzr, rowF_size]
  obtain ⟨W, hW⟩ : ∃ W, W = ((w.alloc (.cells gr 73)).alloc (.cells #[.int .i64 f.kind, .int .i64 f.node, .int .i64 f.id, .slice a3 f.ops.length c3, .slice a4 f.deps.length c4, .slice a5 f.ats.length c5, .slice a6 f.vals.length c6] 43)).alloc (.cells zr 73) := ⟨_, rfl⟩
  have hb : Below w.heap.size w W := by rw [hW]; exact (((Below.refl _ _).alloc (Nat.le_refl _) _).alloc (by rw [size_push]; omega) _).alloc (by rw [size_push, size_push]; omega) _
  have hzW : W.heap.size = w.heap.size + 3 := by rw [hW, size_push, size_push, size_push]
  obtain ⟨r0, r1, r2⟩ := rows3 w (.cells gr 73) (.cells #[.int .i64 f.kind, .int .i64 f.node, .int .i64 f.id, .slice a3 f.ops.length c3, .slice a4 f.deps.length c4, .slice a5 f.ats.length c5, .slice a6 f.vals.length c6] 43) (.cells zr 73)
  rw [← hW] at r0 r1 r2
  have HB0 : Hid (InBox w.heap.size W gr c) := ⟨r0, h.later hb⟩
  have HW : Hid (W = ((w.alloc (.cells gr 73)).alloc (.cells #[.int .i64 f.kind, .int .i64 f.node, .int .i64 f.id, .slice a3 f.ops.length c3, .slice a4 f.deps.length c4, .slice a5 f.ats.length c5, .slice a6 f.vals.length c6] 43)).alloc (.cells zr 73)) := hW
  have HR1 : Hid (W.heap[w.heap.size + 1]? = some (.cells #[.int .i64 f.kind, .int .i64 f.node, .int .i64 f.id, .slice a3 f.ops.length c3, .slice a4 f.deps.length c4, .slice a5 f.ats.length c5, .slice a6 f.vals.length c6] 43 (0, 0))) := r1
  have HR2 : Hid (W.heap[w.heap.size + 2]? = some (.cells zr 73 (0, 0))) := r2
  have Hbw : Hid (Below w.heap.size w W) := hb
  have tG := h.row
  have i9 := h.info
  have s9 : zr.size = gr.size := by rw [hzz, h.size]
  have o9 := h.one
  clear hW h r1 r2 hb hzr
  go_enter Try.func55, Try.ntmps55
  go_upto_region 1 with fail
  rw [HZL.out, ← HW.out]
  clear HW HZL
  go_wp2_with (first
    | ((with_reducible apply wpl_row r0); (· rfl); (· exact tG); (· rfl); simp only [Act.put, List.setIfInBounds_toArray, List.set_cons_zero, List.set_cons_succ])
    | fail)
  refine (ref_isCase gr c W HB0.out.case).mono ?_
  rintro e w1 ⟨rfl, hb1⟩
  have HX1 : Hid (InBox w.heap.size w1 gr c) := HB0.out.later hb1
  have HBW1 : Hid (Below W.heap.size W w1) := hb1
  have hz1 := hb1.size
  have rF1 : w1.heap[w.heap.size + 1]? = some (.cells #[.int .i64 f.kind, .int .i64 f.node, .int .i64 f.id, .slice a3 f.ops.length c3, .slice a4 f.deps.length c4, .slice a5 f.ats.length c5, .slice a6 f.vals.length c6] 43 (0, 0)) := by rw [hb1.block _ (by omega)]; exact HR1.out
  have kid : w1.cell? ⟨w.heap.size + 1, 2, none⟩ = some (.int .i64 f.id) := by rw [cell_of_row _ _ _ _ _ _ rF1]; rfl
  have qb := HX1.out.begun
  obtain ⟨a15, c15, q15, hs15, _⟩ := HX1.out.deps
  clear hb1 r0
  rw [HG.out.1] at *
  rw [HG.out.2.1] at qb
  have d3 : (f.id != id) = false := by have := HG.out.2.2.1; simpa using this
  have d5 : (goodL f != 0) = false := by have := HG.out.2.2.2.2.1; simpa using this
  have d6 : (f.kind == 1) = false := by have := HG.out.2.2.2.2.2.1; simpa using this
  have d7 : (f.kind == 3) = false := by have := HG.out.2.2.2.2.2.2; simpa using this
  go_wp2_with fail
  refine (ref_has a15 c15 c.deps id w1 hs15.2.1 hs15.1).mono ?_
  rintro e w2 ⟨rfl, hw⟩
  subst hw
  rw [HG.out.2.2.2.1]
  go_wp2_with (first
    | ((with_reducible apply wpl_row rF1); (· rfl); (· exact row_frame); (· rfl); simp only [Act.put, List.setIfInBounds_toArray, List.set_cons_zero, List.set_cons_succ])
    | fail)
  refine (isFrame_any _ f w2 (HFB.out.later (Hbw.out.trans (HBW1.out.mono (by omega)))).v).mono ?_
  rintro e w3 ⟨rfl, hb3⟩
  have HBW3 : Hid (Below W.heap.size W w3) := HBW1.out.trans (hb3.mono hz1)
  have HX3 : Hid (InBox w.heap.size w3 gr c) := HX1.out.later hb3
  have rF3 : w3.heap[w.heap.size + 1]? = some (.cells #[.int .i64 f.kind, .int .i64 f.node, .int .i64 f.id, .slice a3 f.ops.length c3, .slice a4 f.deps.length c4, .slice a5 f.ats.length c5, .slice a6 f.vals.length c6] 43 (0, 0)) := by rw [hb3.block _ (by omega)]; exact rF1
  have kk3 : w3.cell? ⟨w.heap.size + 1, 0, none⟩ = some (.int .i64 f.kind) := by rw [cell_of_row _ _ _ _ _ _ rF3]; rfl
  have rB3 := HX3.out.row
  have hz3 : w.heap.size + 3 ≤ w3.heap.size := by have := HBW3.out.size; omega
  clear hb3 rF1 kid q15 qb
  go_wp2_with (first
    | ((with_reducible apply wpl_row rB3); (· rfl); (· exact tG); (· rfl); simp only [Act.put, List.setIfInBounds_toArray, List.set_cons_zero, List.set_cons_succ])
    | fail)
  refine (ref_copyCase gr c w3 HX3.out.case).mono ?_
  rintro e w4 ⟨gr4, rfl, hcg, hb4⟩
  have hz4 := hb4.size
  have HBW4 : Hid (Below W.heap.size W w4) := HBW3.out.trans (hb4.mono (by omega))
  have rB4 : w4.heap[w.heap.size]? = some (.cells gr 73 (0, 0)) := (HX3.out.later hb4).row
  have i4 := hcg.v.info
  have s4 : gr.size = gr4.size := by rw [HCV.out.size, hcg.v.size]
  have o4 := hcg.v.one
  obtain ⟨X, hX⟩ : ∃ X, X = w4.setRow w.heap.size gr4 := ⟨_, rfl⟩
  have HXe : Hid (X = w4.setRow w.heap.size gr4) := hX
  have hzX : X.heap.size = w4.heap.size := by rw [hX, size_setRow]
  have hzX1 : w.heap.size + 3 ≤ X.heap.size := by omega
  obtain ⟨mv, hmv, hmc⟩ := hcg
  have HP : Hid (PBox (w.heap.size + 3) w.heap.size X mv c) := by
    refine ⟨by rw [hX, ← hmv]; exact heap_setRow rB4, ?_, by omega⟩
    rw [hX]
    exact (hmc.later (w' := w4.setRow w.heap.size gr4) (fun b _ hb => setRow_other _ _ (by have hb' : w3.heap.size ≤ b := hb; omega))).mono (fun b _ hb => by have hb' : w3.heap.size ≤ b := hb; show w.heap.size + 3 ≤ b; omega)
  have HGX : Hid (W.grownBy X (some w.heap.size)) := by
    unfold Hid
    rw [hX]
    have g := grownR_below (grownR_refl W (some w.heap.size)) HBW4.out
    exact ⟨g.os, g.tape, g.output, by rw [size_setRow]; exact g.size, fun k hk hr => by rw [setRow_other _ _ (fun e => hr (by rw [e]))]; exact g.block k hk hr⟩
  have HFX : Hid (FrameB w.heap.size X (.agg #[.int .i64 f.kind, .int .i64 f.node, .int .i64 f.id, .slice a3 f.ops.length c3, .slice a4 f.deps.length c4, .slice a5 f.ats.length c5, .slice a6 f.vals.length c6]) f) := HFB.out.later (below_row Hbw.out HGX.out (by omega))
  have rFX : X.heap[w.heap.size + 1]? = some (.cells #[.int .i64 f.kind, .int .i64 f.node, .int .i64 f.id, .slice a3 f.ops.length c3, .slice a4 f.deps.length c4, .slice a5 f.ats.length c5, .slice a6 f.vals.length c6] 43 (0, 0)) := by rw [HGX.out.block _ (by omega) (fun e => by have := Option.some.inj e; omega)]; exact HR1.out
  have kn1 : X.cell? ⟨w.heap.size + 1, 1, none⟩ = some (.int .i64 f.node) := by rw [cell_of_row _ _ _ _ _ _ rFX]; rfl
  have kk1 : X.cell? ⟨w.heap.size + 1, 0, none⟩ = some (.int .i64 f.kind) := by rw [cell_of_row _ _ _ _ _ _ rFX]; rfl
  clear hX hzX hmv hmc hb4 rF3 kk3 rB3 i9 s9 o9
  go_upto_region 9 with (refine wpList_store_row rfl 73 _ _ rfl w.heap.size gr4 rfl rfl 73 _ rB4 i4 s4 o4 ?_)
  rw [← HXe.out]
  clear HXe rB4 i4 s4 o4
  go_wp2_with fail
  refine (ofNode_any f.node X).mono ?_
  rintro e X ⟨rfl, rfl⟩
  obtain ⟨m, hm6, em⟩ : ∃ m : Nat, m < 6 ∧ f.node = m := ⟨f.node.toNat, by have := (good_frame HG.out.2.2.2.2.1).2; omega, by have := (good_frame HG.out.2.2.2.2.1).2; omega⟩
  have HM : Hid (f.node.toNat = m) := by unfold Hid; omega
  have HMN : Hid (f.node = m) := em
  rw [em] at kn1
  have hmm : (0 : Int) ≤ (m : Int) ∧ (m : Int) < 6 := by omega
  clear em
  have q1 := HP.out.box.fixed
  have q3 := HP.out.box.told hm6
  obtain ⟨a2, c2, q2, hs2, _⟩ := HP.out.box.ops
  rw [Htf.out] at q1
  rw [← HM.out, Htt.out, HM.out] at q3
  obtain ⟨hs, ehs⟩ : ∃ hs, hs = rowF 24 mv := ⟨_, rfl⟩
  have HHS : Hid (hs = rowF 24 mv) := ehs
  have r9 : X.heap[w.heap.size]? = some (.cells hs 73 (0, 0)) := by rw [ehs]; exact HP.out.row
  have t9 : RowT Try.prog 73 hs.size := by rw [ehs]; exact HP.out.box.case.row
  have i9 : (Try.prog.info? 73).map (·.size) = some hs.size := by rw [ehs]; exact HP.out.box.case.info
  have s9 : zr.size = hs.size := by rw [ehs, rowF_size]; exact hzz
  have o9 : hs.all (·.oneCell') = true := by rw [ehs]; exact HP.out.box.case.one
  have rZ9 : X.heap[w.heap.size + 2]? = some (.cells zr 73 (0, 0)) := by rw [HGX.out.block _ (by omega) (fun e => by have := Option.some.inj e; omega)]; exact HR2.out
  clear ehs
  go_wp2_with (first
    | ((with_reducible apply wpl_row r9); (· rfl); (· exact t9); (· rfl); simp only [Act.put, List.setIfInBounds_toArray, List.set_cons_zero, List.set_cons_succ])
    | (refine wpList_store_row rfl 73 _ _ rfl (w.heap.size + 2) hs rfl rfl 73 _ rZ9 i9 s9 o9 ?_)
    | fail)
  refine bodyPost_ret (v := .tuple #[.agg hs, .slice none 0 0, .int .i64 0]) (results_row2 Try.results55 _ _ (w.heap.size + 2) 73 hs (0, 0) _ rfl (heap_setRow rZ9) Try.underlying73 rfl i9 _ _ rfl rfl) rfl ⟨hs, .slice none 0 0, by rw [HE.out], by rw [HE.out]; have hh := (HP.out.out hs).v; rw [← HHS.out] at hh; exact hh, by rw [HE.out]; exact FramesV.nil _ _, setRow_below (below_row Hbw.out HGX.out (by omega)) (by omega) _⟩

set_option maxRecDepth 100000 in
set_option maxHeartbeats 4000000 in
theorem rtake_t2 (gr : Array Value) (c : CaseL) (id : Int) (v : Value) (f : FrameL) (w : World) (h : CaseV w gr c) (hf : FrameV w v f) (t0 : refC c id f = 0) (tk : f.kind = 2) (tf : c.fixed = false) (tt : c.told f.node.toNat = false) (tq : touchesL c.ops (ofL f.node) = false) :
    Calls Try.prog 55 #[.agg gr, .int .i64 id, v] w fun e w' => ∃ gr' x, e = .returned (.tuple #[.agg gr', x, .int .i64 (takeC c id f).2.2]) ∧ CaseV w' gr' (takeC c id f).1 ∧ FramesV 0 w' x (takeC c id f).2.1 ∧ Below w.heap.size w w' := by
  have HE : Hid (takeC c id f = (c, [], 0)) := by rw [take_told t0 tk]; unfold toldC; rw [if_pos (Or.inr (Or.inr tq))]; rfl
  have HG : Hid (goodCB c = true ∧ c.begun = true ∧ f.id = id ∧ hasL c.deps id = false ∧ goodL f = 0 ∧ f.kind ≠ 1 ∧ f.kind ≠ 3) := by
    obtain ⟨g1, g2, g3, g4, g5⟩ := ref_ok t0
    unfold isCaseOfB at g1
    simp only [Bool.and_eq_true, Bool.not_eq_true'] at g1
    exact ⟨g1.1.1, g1.1.2, g2, g1.2, g3, g4, g5⟩
  have Htk : Hid (f.kind = 2) := tk
  have Htf : Hid (c.fixed = false) := tf
  have Htt : Hid (c.told f.node.toNat = false) := tt
  have Htq : Hid (touchesL c.ops (ofL f.node) = false) := tq
  clear t0 tk tf tt tq
  have e2 : (f.kind == 2) = true := by rw [Htk.out]; decide
  have e4 : (f.kind == 4) = false := by rw [Htk.out]; decide
  have e5 : (f.kind == 5) = false := by rw [Htk.out]; decide
  have HFB : Hid (FrameB w.heap.size w v f) := hf.b
  have HCV : Hid (CaseV w gr c) := h
  obtain ⟨a3, c3, a4, c4, a5, c5, a6, c6, rfl, _⟩ := hf
  obtain ⟨zr, hzr⟩ : ∃ zr, zr = rowF 24 zcv := ⟨_, rfl⟩
  have HZL : Hid ((#[.bool false, .bool false, .slice none 0 0, .bool false, .bool false, .bool false, .bool false, .bool false, .bool false, .bool false, .bool false, .bool false, .bool false, .bool false, .bool false, .slice none 0 0, .bool false, .bool false, .bool false, .bool false, .int .i64 0, .int .i64 0, .int .i64 0, .int .i64 0] : Array Value) = zr) := by unfold Hid; rw [hzr]; rfl
  have hzz : zr.size = 24 := by rw [hzr, rowF_size]
  obtain ⟨W, hW⟩ : ∃ W, W = ((w.alloc (.cells gr 73)).alloc (.cells #[.int .i64 f.kind, .int .i64 f.node, .int .i64 f.id, .slice a3 f.ops.length c3, .slice a4 f.deps.length c4, .slice a5 f.ats.length c5, .slice a6 f.vals.length c6] 43)).alloc (.cells zr 73) := ⟨_, rfl⟩
  have hb : Below w.heap.size w W := by rw [hW]; exact (((Below.refl _ _).alloc (Nat.le_refl _) _).alloc (by rw [size_push]; omega) _).alloc (by rw [size_push, size_push]; omega) _
  have hzW : W.heap.size = w.heap.size + 3 := by rw [hW, size_push, size_push, size_push]
  obtain ⟨r0, r1, r2⟩ := rows3 w (.cells gr 73) (.cells #[.int .i64 f.kind, .int .i64 f.node, .int .i64 f.id, .slice a3 f.ops.length c3, .slice a4 f.deps.length c4, .slice a5 f.ats.length c5, .slice a6 f.vals.length c6] 43) (.cells zr 73)
  rw [← hW] at r0 r1 r2
  have HB0 : Hid (InBox w.heap.size W gr c) := ⟨r0, h.later hb⟩
  have HW : Hid (W = ((w.alloc (.cells gr 73)).alloc (.cells #[.int .i64 f.kind, .int .i64 f.node, .int .i64 f.id, .slice a3 f.ops.length c3, .slice a4 f.deps.length c4, .slice a5 f.ats.length c5, .slice a6 f.vals.length c6] 43)).alloc (.cells zr 73)) := hW
  have HR1 : Hid (W.heap[w.heap.size + 1]? = some (.cells #[.int .i64 f.kind, .int .i64 f.node, .int .i64 f.id, .slice a3 f.ops.length c3, .slice a4 f.deps.length c4, .slice a5 f.ats.length c5, .slice a6 f.vals.length c6] 43 (0, 0))) := r1
  have HR2 : Hid (W.heap[w.heap.size + 2]? = some (.cells zr 73 (0, 0))) := r2
  have Hbw : Hid (Below w.heap.size w W) := hb
  have tG := h.row
  have i9 := h.info
  have s9 : zr.size = gr.size := by rw [hzz, h.size]
  have o9 := h.one
  clear hW h r1 r2 hb hzr
  go_enter Try.func55, Try.ntmps55
  go_upto_region 1 with fail
  rw [HZL.out, ← HW.out]
  clear HW HZL
  go_wp2_with (first
    | ((with_reducible apply wpl_row r0); (· rfl); (· exact tG); (· rfl); simp only [Act.put, List.setIfInBounds_toArray, List.set_cons_zero, List.set_cons_succ])
    | fail)
  refine (ref_isCase gr c W HB0.out.case).mono ?_
  rintro e w1 ⟨rfl, hb1⟩
  have HX1 : Hid (InBox w.heap.size w1 gr c) := HB0.out.later hb1
  have HBW1 : Hid (Below W.heap.size W w1) := hb1
  have hz1 := hb1.size
  have rF1 : w1.heap[w.heap.size + 1]? = some (.cells #[.int .i64 f.kind, .int .i64 f.node, .int .i64 f.id, .slice a3 f.ops.length c3, .slice a4 f.deps.length c4, .slice a5 f.ats.length c5, .slice a6 f.vals.length c6] 43 (0, 0)) := by rw [hb1.block _ (by omega)]; exact HR1.out
  have kid : w1.cell? ⟨w.heap.size + 1, 2, none⟩ = some (.int .i64 f.id) := by rw [cell_of_row _ _ _ _ _ _ rF1]; rfl
  have qb := HX1.out.begun
  obtain ⟨a15, c15, q15, hs15, _⟩ := HX1.out.deps
  clear hb1 r0
  rw [HG.out.1] at *
  rw [HG.out.2.1] at qb
  have d3 : (f.id != id) = false := by have := HG.out.2.2.1; simpa using this
  have d5 : (goodL f != 0) = false := by have := HG.out.2.2.2.2.1; simpa using this
  have d6 : (f.kind == 1) = false := by have := HG.out.2.2.2.2.2.1; simpa using this
  have d7 : (f.kind == 3) = false := by have := HG.out.2.2.2.2.2.2; simpa using this
  go_wp2_with fail
  refine (ref_has a15 c15 c.deps id w1 hs15.2.1 hs15.1).mono ?_
  rintro e w2 ⟨rfl, hw⟩
  subst hw
  rw [HG.out.2.2.2.1]
  go_wp2_with (first
    | ((with_reducible apply wpl_row rF1); (· rfl); (· exact row_frame); (· rfl); simp only [Act.put, List.setIfInBounds_toArray, List.set_cons_zero, List.set_cons_succ])
    | fail)
  refine (isFrame_any _ f w2 (HFB.out.later (Hbw.out.trans (HBW1.out.mono (by omega)))).v).mono ?_
  rintro e w3 ⟨rfl, hb3⟩
  have HBW3 : Hid (Below W.heap.size W w3) := HBW1.out.trans (hb3.mono hz1)
  have HX3 : Hid (InBox w.heap.size w3 gr c) := HX1.out.later hb3
  have rF3 : w3.heap[w.heap.size + 1]? = some (.cells #[.int .i64 f.kind, .int .i64 f.node, .int .i64 f.id, .slice a3 f.ops.length c3, .slice a4 f.deps.length c4, .slice a5 f.ats.length c5, .slice a6 f.vals.length c6] 43 (0, 0)) := by rw [hb3.block _ (by omega)]; exact rF1
  have kk3 : w3.cell? ⟨w.heap.size + 1, 0, none⟩ = some (.int .i64 f.kind) := by rw [cell_of_row _ _ _ _ _ _ rF3]; rfl
  have rB3 := HX3.out.row
  have hz3 : w.heap.size + 3 ≤ w3.heap.size := by have := HBW3.out.size; omega
  clear hb3 rF1 kid q15 qb
  go_wp2_with (first
    | ((with_reducible apply wpl_row rB3); (· rfl); (· exact tG); (· rfl); simp only [Act.put, List.setIfInBounds_toArray, List.set_cons_zero, List.set_cons_succ])
    | fail)
  refine (ref_copyCase gr c w3 HX3.out.case).mono ?_
  rintro e w4 ⟨gr4, rfl, hcg, hb4⟩
  have hz4 := hb4.size
  have HBW4 : Hid (Below W.heap.size W w4) := HBW3.out.trans (hb4.mono (by omega))
  have rB4 : w4.heap[w.heap.size]? = some (.cells gr 73 (0, 0)) := (HX3.out.later hb4).row
  have i4 := hcg.v.info
  have s4 : gr.size = gr4.size := by rw [HCV.out.size, hcg.v.size]
  have o4 := hcg.v.one
  obtain ⟨X, hX⟩ : ∃ X, X = w4.setRow w.heap.size gr4 := ⟨_, rfl⟩
  have HXe : Hid (X = w4.setRow w.heap.size gr4) := hX
  have hzX : X.heap.size = w4.heap.size := by rw [hX, size_setRow]
  have hzX1 : w.heap.size + 3 ≤ X.heap.size := by omega
  obtain ⟨mv, hmv, hmc⟩ := hcg
  have HP : Hid (PBox (w.heap.size + 3) w.heap.size X mv c) := by
    refine ⟨by rw [hX, ← hmv]; exact heap_setRow rB4, ?_, by omega⟩
    rw [hX]
    exact (hmc.later (w' := w4.setRow w.heap.size gr4) (fun b _ hb => setRow_other _ _ (by have hb' : w3.heap.size ≤ b := hb; omega))).mono (fun b _ hb => by have hb' : w3.heap.size ≤ b := hb; show w.heap.size + 3 ≤ b; omega)
  have HGX : Hid (W.grownBy X (some w.heap.size)) := by
    unfold Hid
    rw [hX]
    have g := grownR_below (grownR_refl W (some w.heap.size)) HBW4.out
    exact ⟨g.os, g.tape, g.output, by rw [size_setRow]; exact g.size, fun k hk hr => by rw [setRow_other _ _ (fun e => hr (by rw [e]))]; exact g.block k hk hr⟩
  have HFX : Hid (FrameB w.heap.size X (.agg #[.int .i64 f.kind, .int .i64 f.node, .int .i64 f.id, .slice a3 f.ops.length c3, .slice a4 f.deps.length c4, .slice a5 f.ats.length c5, .slice a6 f.vals.length c6]) f) := HFB.out.later (below_row Hbw.out HGX.out (by omega))
  have rFX : X.heap[w.heap.size + 1]? = some (.cells #[.int .i64 f.kind, .int .i64 f.node, .int .i64 f.id, .slice a3 f.ops.length c3, .slice a4 f.deps.length c4, .slice a5 f.ats.length c5, .slice a6 f.vals.length c6] 43 (0, 0)) := by rw [HGX.out.block _ (by omega) (fun e => by have := Option.some.inj e; omega)]; exact HR1.out
  have kn1 : X.cell? ⟨w.heap.size + 1, 1, none⟩ = some (.int .i64 f.node) := by rw [cell_of_row _ _ _ _ _ _ rFX]; rfl
  have kk1 : X.cell? ⟨w.heap.size + 1, 0, none⟩ = some (.int .i64 f.kind) := by rw [cell_of_row _ _ _ _ _ _ rFX]; rfl
  clear hX hzX hmv hmc hb4 rF3 kk3 rB3 i9 s9 o9
  go_upto_region 9 with (refine wpList_store_row rfl 73 _ _ rfl w.heap.size gr4 rfl rfl 73 _ rB4 i4 s4 o4 ?_)
  rw [← HXe.out]
  clear HXe rB4 i4 s4 o4
  go_wp2_with fail
  refine (ofNode_any f.node X).mono ?_
  rintro e X ⟨rfl, rfl⟩
  obtain ⟨m, hm6, em⟩ : ∃ m : Nat, m < 6 ∧ f.node = m := ⟨f.node.toNat, by have := (good_frame HG.out.2.2.2.2.1).2; omega, by have := (good_frame HG.out.2.2.2.2.1).2; omega⟩
  have HM : Hid (f.node.toNat = m) := by unfold Hid; omega
  have HMN : Hid (f.node = m) := em
  rw [em] at kn1
  have hmm : (0 : Int) ≤ (m : Int) ∧ (m : Int) < 6 := by omega
  clear em
  have q1 := HP.out.box.fixed
  have q3 := HP.out.box.told hm6
  obtain ⟨a2, c2, q2, hs2, _⟩ := HP.out.box.ops
  rw [Htf.out] at q1
  rw [← HM.out, Htt.out, HM.out] at q3
  have htq : touchesL c.ops (ofL m) = false := by rw [← HMN.out]; exact Htq.out
  go_wp2_with fail
  rw [HMN.out]
  refine (touchesShard_any a2 c2 c.ops (ofL m) X hs2.2.1 hs2.1).mono ?_
  rintro e w6 ⟨rfl, hb6⟩
  have HP6 : Hid (PBox (w.heap.size + 3) w.heap.size w6 mv c) := HP.out.later hb6
  have HG6 : Hid (W.grownBy w6 (some w.heap.size)) := grownR_below HGX.out hb6
  have kk6 : w6.cell? ⟨w.heap.size + 1, 0, none⟩ = some (.int .i64 f.kind) := by rw [hb6.cell (p := ⟨w.heap.size + 1, 0, none⟩) (show w.heap.size + 1 < X.heap.size by omega)]; exact kk1
  clear hb6 q1 q2 q3
  obtain ⟨hs, ehs⟩ : ∃ hs, hs = rowF 24 mv := ⟨_, rfl⟩
  have HHS : Hid (hs = rowF 24 mv) := ehs
  have r9 : w6.heap[w.heap.size]? = some (.cells hs 73 (0, 0)) := by rw [ehs]; exact HP6.out.row
  have t9 : RowT Try.prog 73 hs.size := by rw [ehs]; exact HP6.out.box.case.row
  have i9 : (Try.prog.info? 73).map (·.size) = some hs.size := by rw [ehs]; exact HP6.out.box.case.info
  have s9 : zr.size = hs.size := by rw [ehs, rowF_size]; exact hzz
  have o9 : hs.all (·.oneCell') = true := by rw [ehs]; exact HP6.out.box.case.one
  have rZ9 : w6.heap[w.heap.size + 2]? = some (.cells zr 73 (0, 0)) := by rw [HG6.out.block _ (by omega) (fun e => by have := Option.some.inj e; omega)]; exact HR2.out
  clear ehs
  go_wp2_with (first
    | ((with_reducible apply wpl_row r9); (· rfl); (· exact t9); (· rfl); simp only [Act.put, List.setIfInBounds_toArray, List.set_cons_zero, List.set_cons_succ])
    | (refine wpList_store_row rfl 73 _ _ rfl (w.heap.size + 2) hs rfl rfl 73 _ rZ9 i9 s9 o9 ?_)
    | fail)
  refine bodyPost_ret (v := .tuple #[.agg hs, .slice none 0 0, .int .i64 0]) (results_row2 Try.results55 _ _ (w.heap.size + 2) 73 hs (0, 0) _ rfl (heap_setRow rZ9) Try.underlying73 rfl i9 _ _ rfl rfl) rfl ⟨hs, .slice none 0 0, by rw [HE.out], by rw [HE.out]; have hh := (HP6.out.out hs).v; rw [← HHS.out] at hh; exact hh, by rw [HE.out]; exact FramesV.nil _ _, setRow_below (below_row Hbw.out HG6.out (by omega)) (by omega) _⟩

end Go.Proofs.Ytkoefoccbjhoiab

namespace Go.Proofs.Ytkoefoccbjhoiab
open Go.RowKit

set_option maxRecDepth 100000 in
set_option maxHeartbeats 400000 in
theorem unionOf_any (a : Option Addr) (cap : Nat) (zs : List Int) (a' : Option Addr) (cap' : Nat) (ys : List Int) (w : World) (hl : zs.length ≤ maxLen) (hz : IntsAt w.heap.size w a zs) (hl' : ys.length ≤ maxLen) (hy : IntsAt w.heap.size w a' ys) :
    Calls Try.prog 102 #[.slice a zs.length cap, .slice a' ys.length cap'] w fun e w' => ∃ v, e = .returned v ∧ w'.ownsRow w.heap.size 3 1 v (unionL zs ys).length ((unionL zs ys).map (Value.int .i64)) ∧ Below w.heap.size w w' := by
  obtain ⟨i0, hi, hz0, hz1, hz2⟩ := info_parts Try.infoInt
  go_enter Try.func102, Try.ntmps102
  go_wp2
  go_loopw [5, 7] (fun v i wr => ∃ k : Nat, k ≤ 32 ∧ i = .int .i64 k ∧ wr.ownsRow w.heap.size 3 1 v (unionTo (unionB zs ys) k).length ((unionTo (unionB zs ys) k).map (Value.int .i64)) ∧ Below w.heap.size w wr) (fun _ i _ => 32 - (intOf i).toNat)
  case atStart => exact ⟨0, Nat.zero_le _, rfl, World.ownsRow_nil _ _ _ _, Below.refl _ _⟩
  case round =>
    obtain ⟨k, hk, rfl, hown, hB⟩ := hrel
    have hsz1 := hB.size
    by_cases hlt : k < 32
    · have hlen := unionTo_len (unionB zs ys) k
      have hzr : IntsAt wr.heap.size wr a zs := (hz.later hB).mono hsz1
      have hyr : IntsAt wr.heap.size wr a' ys := (hy.later hB).mono hsz1
      have HU : Hid (unionB zs ys k = (hasL zs k || hasL ys k)) := by unfold Hid unionB; rw [has_contains, has_contains]
      go_wp2_with fail
      refine (ref_has _ _ _ _ _ hl hzr).mono ?_
      rintro e wx ⟨rfl, hw⟩
      subst hw
      cases ta : hasL zs k
      · go_wp2_with fail
        refine (ref_has _ _ _ _ _ hl' hyr).mono ?_
        rintro e wx ⟨rfl, hw⟩
        subst hw
        cases tb : hasL ys k
        · have HM : Hid (unionTo (unionB zs ys) (k + 1) = unionTo (unionB zs ys) k) := unionTo_miss (by rw [HU.out, ta, tb]; rfl)
          clear ta tb
          go_wp2
          go_roundw
          case rel => exact ⟨k + 1, by omega, by go_num, by rw [HM.out]; exact hown, hB⟩
          case measure => simp [intOf]; omega
        · have HM : Hid (unionTo (unionB zs ys) (k + 1) = unionTo (unionB zs ys) k ++ [(k : Int)]) := unionTo_hit (by rw [HU.out, ta, tb]; rfl)
          clear ta tb
          go_wp2_with (first
            | (at_builtin; refine wpList_append_own _ rfl _ _ 23 rfl w.heap.size 3 i0 (.int .i64 0) 1 8 Try.underlying23 hi hz0 hz1 hz2 rfl (by decide) _ _ _ rfl (hown.alloc _) ⟨wx.heap.size, 0, none⟩ 1 1 [.int .i64 k] rfl rfl ?c1 ?c2 ?c3 ?c4 ?c5 ?_)
            | go_in)
          case c1 =>
            intro j u hj
            match j, hj with
            | 0, hj => simp at hj; subst hj; simp [Addr.add]
          case c2 => intro u hu; simp at hu; subst hu; rfl
          case c3 => unfold maxLen; omega
          case c4 => omega
          case c5 => simp; omega
          · intro v' w3 hown' hgrow _
            have hB' : Below w.heap.size w w3 := (hB.alloc hsz1 _).grown hgrow (by simp; omega) (owns_block hown)
            clear hgrow hown
            go_wp2
            go_roundw
            case rel => exact ⟨k + 1, by omega, by go_num, by rw [HM.out]; simpa using hown', hB'⟩
            case measure => simp [intOf]; omega
      · have HM : Hid (unionTo (unionB zs ys) (k + 1) = unionTo (unionB zs ys) k ++ [(k : Int)]) := unionTo_hit (by rw [HU.out, ta]; rfl)
        clear ta
        go_wp2_with (first
          | (at_builtin; refine wpList_append_own _ rfl _ _ 23 rfl w.heap.size 3 i0 (.int .i64 0) 1 8 Try.underlying23 hi hz0 hz1 hz2 rfl (by decide) _ _ _ rfl (hown.alloc _) ⟨wx.heap.size, 0, none⟩ 1 1 [.int .i64 k] rfl rfl ?c1 ?c2 ?c3 ?c4 ?c5 ?_)
          | go_in)
        case c1 =>
          intro j u hj
          match j, hj with
          | 0, hj => simp at hj; subst hj; simp [Addr.add]
        case c2 => intro u hu; simp at hu; subst hu; rfl
        case c3 => unfold maxLen; omega
        case c4 => omega
        case c5 => simp; omega
        · intro v' w3 hown' hgrow _
          have hB' : Below w.heap.size w w3 := (hB.alloc hsz1 _).grown hgrow (by simp; omega) (owns_block hown)
          clear hgrow hown
          go_wp2
          go_roundw
          case rel => exact ⟨k + 1, by omega, by go_num, by rw [HM.out]; simpa using hown', hB'⟩
          case measure => simp [intOf]; omega
    · have e : k = 32 := by omega
      subst e
      go_wp2
      go_ret
      exact ⟨_, rfl, hown, hB⟩

end Go.Proofs.Ytkoefoccbjhoiab
