/-
  The document's own TakeAnswer: Known, and Done ahead of what is fixed.
  The document's own TakeAnswer: Done, when it is fixed.
-/
import Derived.Test.YtkoefoccbjhoiabPta13
import Derived.Test.YtkoefoccbjhoiabPta7
namespace Go.Proofs.Ytkoefoccbjhoiab
open Go.RowKit
set_option linter.unusedSimpArgs false
set_option linter.unusedVariables false

set_option maxRecDepth 100000 in
set_option maxHeartbeats 4000000 in
theorem rtake_k0 (gr : Array Value) (c : CaseL) (id : Int) (v : Value) (f : FrameL) (w : World) (h : CaseV w gr c) (hf : FrameV w v f) (t0 : refC c id f = 0) (tk : f.kind = 4) (tf : c.fixed = false) :
    Calls Try.prog 55 #[.agg gr, .int .i64 id, v] w fun e w' => ∃ gr' x, e = .returned (.tuple #[.agg gr', x, .int .i64 (takeC c id f).2.2]) ∧ CaseV w' gr' (takeC c id f).1 ∧ FramesV 0 w' x (takeC c id f).2.1 ∧ Below w.heap.size w w' := by
  have HE : Hid (takeC c id f = (c, [], 0)) := by rw [take_known t0 tk, tf]; rfl
  have HG : Hid (goodCB c = true ∧ c.begun = true ∧ f.id = id ∧ hasL c.deps id = false ∧ goodL f = 0 ∧ f.kind ≠ 1 ∧ f.kind ≠ 3) := by
    obtain ⟨g1, g2, g3, g4, g5⟩ := ref_ok t0
    unfold isCaseOfB at g1
    simp only [Bool.and_eq_true, Bool.not_eq_true'] at g1
    exact ⟨g1.1.1, g1.1.2, g2, g1.2, g3, g4, g5⟩
  have Htk : Hid (f.kind = 4) := tk
  have Htf : Hid (c.fixed = false) := tf
  clear t0 tk tf
  have e2 : (f.kind == 2) = false := by rw [Htk.out]; decide
  have e4 : (f.kind == 4) = true := by rw [Htk.out]; decide
  have e5 : (f.kind == 5) = false := by rw [Htk.out]; decide
  have HFB : Hid (FrameB w.heap.size w v f) := hf.b
  have HCV : Hid (CaseV w gr c) := h
  obtain ⟨a3, c3, a4, c4, a5, c5, a6, c6, rfl, _⟩ := hf
  obtain ⟨zr, hzr⟩ : ∃ zr, zr = rowF 24 zcv := ⟨_, rfl⟩
  have HZL : Hid ((#[.bool false, .bool false, .slice none 0 0, .bool false, .bool false, .bool false, .bool false, .bool false, .bool false, .bool false, .bool false, .bool false, .bool false, .bool false, .bool false, .slice none 0 0, .bool false, .bool false, .bool false, .bool false, .int .i64 0, .int .i64 0, .int .i64 0, .int .i64 0] : Array Value) = zr) := by unfold Hid; rw [hzr]; rfl
  have hzz : zr.size = 24 := by rw [hzr, rowF_size]
  obtain ⟨W, hW⟩ : ∃ W, W = ((w.alloc (.cells gr 73)).alloc (.cells #[.int .i64 f.kind, .int .i64 f.node, .int .i64 f.id, .slice a3 f.ops.length c3, .slice a4 f.deps.length c4, .slice a5 f.ats.length c5, .slice a6 f.vals.length c6] 43)).alloc (.cells zr 73) := ⟨_, rfl⟩
  have hb : Below w.heap.size w W := by rw [hW]; exact (((Below.refl _ _).alloc (Nat.le_refl _) _).alloc (by rw [size_push]; omega) _).alloc (by rw [size_push, size_push]; omega) _
  have hzW : W.heap.size = w.heap.size + 3 := by rw [hW, size_push, size_push, size_push]
  obtain ⟨r0, r1, r2⟩ := rows3 w (.cells gr 73) (.cells #[.int .i64 f.kind, .int .i64 f.node, .int .i64 f.id, .slice a3 f.ops.length c3, .slice a4 f.deps.length c4, .slice a5 f.ats.length c5, .slice a6 f.vals.length c6] 43) (.cells zr 73)
  rw [← hW] at r0 r1 r2
  have HB0 : Hid (InBox w.heap.size W gr c) := ⟨r0, h.later hb⟩
  have HW : Hid (W = ((w.alloc (.cells gr 73)).alloc (.cells #[.int .i64 f.kind, .int .i64 f.node, .int .i64 f.id, .slice a3 f.ops.length c3, .slice a4 f.deps.length c4, .slice a5 f.ats.length c5, .slice a6 f.vals.length c6] 43)).alloc (.cells zr 73)) := hW
  have HR1 : Hid (W.heap[w.heap.size + 1]? = some (.cells #[.int .i64 f.kind, .int .i64 f.node, .int .i64 f.id, .slice a3 f.ops.length c3, .slice a4 f.deps.length c4, .slice a5 f.ats.length c5, .slice a6 f.vals.length c6] 43 (0, 0))) := r1
  have HR2 : Hid (W.heap[w.heap.size + 2]? = some (.cells zr 73 (0, 0))) := r2
  have Hbw : Hid (Below w.heap.size w W) := hb
  have tG := h.row
  have i9 := h.info
  have s9 : zr.size = gr.size := by rw [hzz, h.size]
  have o9 := h.one
  clear hW h r1 r2 hb hzr
  go_enter Try.func55, Try.ntmps55
  go_upto_region 1 with fail
  rw [HZL.out, ← HW.out]
  clear HW HZL
  go_wp2_with (first
    | ((with_reducible apply wpl_row r0); (· rfl); (· exact tG); (· rfl); simp only [Act.put, List.setIfInBounds_toArray, List.set_cons_zero, List.set_cons_succ])
    | fail)
  refine (ref_isCase gr c W HB0.out.case).mono ?_
  rintro e w1 ⟨rfl, hb1⟩
  have HX1 : Hid (InBox w.heap.size w1 gr c) := HB0.out.later hb1
  have HBW1 : Hid (Below W.heap.size W w1) := hb1
  have hz1 := hb1.size
  have rF1 : w1.heap[w.heap.size + 1]? = some (.cells #[.int .i64 f.kind, .int .i64 f.node, .int .i64 f.id, .slice a3 f.ops.length c3, .slice a4 f.deps.length c4, .slice a5 f.ats.length c5, .slice a6 f.vals.length c6] 43 (0, 0)) := by rw [hb1.block _ (by omega)]; exact HR1.out
  have kid : w1.cell? ⟨w.heap.size + 1, 2, none⟩ = some (.int .i64 f.id) := by rw [cell_of_row _ _ _ _ _ _ rF1]; rfl
  have qb := HX1.out.begun
  obtain ⟨a15, c15, q15, hs15, _⟩ := HX1.out.deps
  clear hb1 r0
  rw [HG.out.1] at *
  rw [HG.out.2.1] at qb
  have d3 : (f.id != id) = false := by have := HG.out.2.2.1; simpa using this
  have d5 : (goodL f != 0) = false := by have := HG.out.2.2.2.2.1; simpa using this
  have d6 : (f.kind == 1) = false := by have := HG.out.2.2.2.2.2.1; simpa using this
  have d7 : (f.kind == 3) = false := by have := HG.out.2.2.2.2.2.2; simpa using this
  go_wp2_with fail
  refine (ref_has a15 c15 c.deps id w1 hs15.2.1 hs15.1).mono ?_
  rintro e w2 ⟨rfl, hw⟩
  subst hw
  rw [HG.out.2.2.2.1]
  go_wp2_with (first
    | ((with_reducible apply wpl_row rF1); (· rfl); (· exact row_frame); (· rfl); simp only [Act.put, List.setIfInBounds_toArray, List.set_cons_zero, List.set_cons_succ])
    | fail)
  refine (isFrame_any _ f w2 (HFB.out.later (Hbw.out.trans (HBW1.out.mono (by omega)))).v).mono ?_
  rintro e w3 ⟨rfl, hb3⟩
  have HBW3 : Hid (Below W.heap.size W w3) := HBW1.out.trans (hb3.mono hz1)
  have HX3 : Hid (InBox w.heap.size w3 gr c) := HX1.out.later hb3
  have rF3 : w3.heap[w.heap.size + 1]? = some (.cells #[.int .i64 f.kind, .int .i64 f.node, .int .i64 f.id, .slice a3 f.ops.length c3, .slice a4 f.deps.length c4, .slice a5 f.ats.length c5, .slice a6 f.vals.length c6] 43 (0, 0)) := by rw [hb3.block _ (by omega)]; exact rF1
  have kk3 : w3.cell? ⟨w.heap.size + 1, 0, none⟩ = some (.int .i64 f.kind) := by rw [cell_of_row _ _ _ _ _ _ rF3]; rfl
  have rB3 := HX3.out.row
  have hz3 : w.heap.size + 3 ≤ w3.heap.size := by have := HBW3.out.size; omega
  clear hb3 rF1 kid q15 qb
  go_wp2_with (first
    | ((with_reducible apply wpl_row rB3); (· rfl); (· exact tG); (· rfl); simp only [Act.put, List.setIfInBounds_toArray, List.set_cons_zero, List.set_cons_succ])
    | fail)
  refine (ref_copyCase gr c w3 HX3.out.case).mono ?_
  rintro e w4 ⟨gr4, rfl, hcg, hb4⟩
  have hz4 := hb4.size
  have HBW4 : Hid (Below W.heap.size W w4) := HBW3.out.trans (hb4.mono (by omega))
  have rB4 : w4.heap[w.heap.size]? = some (.cells gr 73 (0, 0)) := (HX3.out.later hb4).row
  have i4 := hcg.v.info
  have s4 : gr.size = gr4.size := by rw [HCV.out.size, hcg.v.size]
  have o4 := hcg.v.one
  obtain ⟨X, hX⟩ : ∃ X, X = w4.setRow w.heap.size gr4 := ⟨_, rfl⟩
  have HXe : Hid (X = w4.setRow w.heap.size gr4) := hX
  have hzX : X.heap.size = w4.heap.size := by rw [hX, size_setRow]
  have hzX1 : w.heap.size + 3 ≤ X.heap.size := by omega
  obtain ⟨mv, hmv, hmc⟩ := hcg
  have HP : Hid (PBox (w.heap.size + 3) w.heap.size X mv c) := by
    refine ⟨by rw [hX, ← hmv]; exact heap_setRow rB4, ?_, by omega⟩
    rw [hX]
    exact (hmc.later (w' := w4.setRow w.heap.size gr4) (fun b _ hb => setRow_other _ _ (by have hb' : w3.heap.size ≤ b := hb; omega))).mono (fun b _ hb => by have hb' : w3.heap.size ≤ b := hb; show w.heap.size + 3 ≤ b; omega)
  have HGX : Hid (W.grownBy X (some w.heap.size)) := by
    unfold Hid
    rw [hX]
    have g := grownR_below (grownR_refl W (some w.heap.size)) HBW4.out
    exact ⟨g.os, g.tape, g.output, by rw [size_setRow]; exact g.size, fun k hk hr => by rw [setRow_other _ _ (fun e => hr (by rw [e]))]; exact g.block k hk hr⟩
  have HFX : Hid (FrameB w.heap.size X (.agg #[.int .i64 f.kind, .int .i64 f.node, .int .i64 f.id, .slice a3 f.ops.length c3, .slice a4 f.deps.length c4, .slice a5 f.ats.length c5, .slice a6 f.vals.length c6]) f) := HFB.out.later (below_row Hbw.out HGX.out (by omega))
  have rFX : X.heap[w.heap.size + 1]? = some (.cells #[.int .i64 f.kind, .int .i64 f.node, .int .i64 f.id, .slice a3 f.ops.length c3, .slice a4 f.deps.length c4, .slice a5 f.ats.length c5, .slice a6 f.vals.length c6] 43 (0, 0)) := by rw [HGX.out.block _ (by omega) (fun e => by have := Option.some.inj e; omega)]; exact HR1.out
  have kn1 : X.cell? ⟨w.heap.size + 1, 1, none⟩ = some (.int .i64 f.node) := by rw [cell_of_row _ _ _ _ _ _ rFX]; rfl
  have kk1 : X.cell? ⟨w.heap.size + 1, 0, none⟩ = some (.int .i64 f.kind) := by rw [cell_of_row _ _ _ _ _ _ rFX]; rfl
  clear hX hzX hmv hmc hb4 rF3 kk3 rB3 i9 s9 o9
  go_upto_region 9 with (refine wpList_store_row rfl 73 _ _ rfl w.heap.size gr4 rfl rfl 73 _ rB4 i4 s4 o4 ?_)
  rw [← HXe.out]
  clear HXe rB4 i4 s4 o4
  go_wp2_with fail
  refine (ofNode_any f.node X).mono ?_
  rintro e X ⟨rfl, rfl⟩
  have q1 := HP.out.box.fixed
  rw [Htf.out] at q1
  obtain ⟨hs, ehs⟩ : ∃ hs, hs = rowF 24 mv := ⟨_, rfl⟩
  have HHS : Hid (hs = rowF 24 mv) := ehs
  have r9 : X.heap[w.heap.size]? = some (.cells hs 73 (0, 0)) := by rw [ehs]; exact HP.out.row
  have t9 : RowT Try.prog 73 hs.size := by rw [ehs]; exact HP.out.box.case.row
  have i9 : (Try.prog.info? 73).map (·.size) = some hs.size := by rw [ehs]; exact HP.out.box.case.info
  have s9 : zr.size = hs.size := by rw [ehs, rowF_size]; exact hzz
  have o9 : hs.all (·.oneCell') = true := by rw [ehs]; exact HP.out.box.case.one
  have rZ9 : X.heap[w.heap.size + 2]? = some (.cells zr 73 (0, 0)) := by rw [HGX.out.block _ (by omega) (fun e => by have := Option.some.inj e; omega)]; exact HR2.out
  clear ehs
  go_wp2_with (first
    | ((with_reducible apply wpl_row r9); (· rfl); (· exact t9); (· rfl); simp only [Act.put, List.setIfInBounds_toArray, List.set_cons_zero, List.set_cons_succ])
    | (refine wpList_store_row rfl 73 _ _ rfl (w.heap.size + 2) hs rfl rfl 73 _ rZ9 i9 s9 o9 ?_)
    | fail)
  refine bodyPost_ret (v := .tuple #[.agg hs, .slice none 0 0, .int .i64 0]) (results_row2 Try.results55 _ _ (w.heap.size + 2) 73 hs (0, 0) _ rfl (heap_setRow rZ9) Try.underlying73 rfl i9 _ _ rfl rfl) rfl ⟨hs, .slice none 0 0, by rw [HE.out], by rw [HE.out]; have hh := (HP.out.out hs).v; rw [← HHS.out] at hh; exact hh, by rw [HE.out]; exact FramesV.nil _ _, setRow_below (below_row Hbw.out HGX.out (by omega)) (by omega) _⟩

set_option maxRecDepth 100000 in
set_option maxHeartbeats 4000000 in
theorem rtake_k1 (gr : Array Value) (c : CaseL) (id : Int) (v : Value) (f : FrameL) (w : World) (h : CaseV w gr c) (hf : FrameV w v f) (t0 : refC c id f = 0) (tk : f.kind = 4) (tf : c.fixed = true) :
    Calls Try.prog 55 #[.agg gr, .int .i64 id, v] w fun e w' => ∃ gr' x, e = .returned (.tuple #[.agg gr', x, .int .i64 (takeC c id f).2.2]) ∧ CaseV w' gr' (takeC c id f).1 ∧ FramesV 0 w' x (takeC c id f).2.1 ∧ Below w.heap.size w w' := by
  have HE : Hid (takeC c id f = ({ c with known := upd c.known f.node.toNat true }, [], 0)) := by rw [take_known t0 tk, tf]; rfl
  have HG : Hid (goodCB c = true ∧ c.begun = true ∧ f.id = id ∧ hasL c.deps id = false ∧ goodL f = 0 ∧ f.kind ≠ 1 ∧ f.kind ≠ 3) := by
    obtain ⟨g1, g2, g3, g4, g5⟩ := ref_ok t0
    unfold isCaseOfB at g1
    simp only [Bool.and_eq_true, Bool.not_eq_true'] at g1
    exact ⟨g1.1.1, g1.1.2, g2, g1.2, g3, g4, g5⟩
  have Htk : Hid (f.kind = 4) := tk
  have Htf : Hid (c.fixed = true) := tf
  clear t0 tk tf
  have e2 : (f.kind == 2) = false := by rw [Htk.out]; decide
  have e4 : (f.kind == 4) = true := by rw [Htk.out]; decide
  have e5 : (f.kind == 5) = false := by rw [Htk.out]; decide
  have HFB : Hid (FrameB w.heap.size w v f) := hf.b
  have HCV : Hid (CaseV w gr c) := h
  obtain ⟨a3, c3, a4, c4, a5, c5, a6, c6, rfl, _⟩ := hf
  obtain ⟨zr, hzr⟩ : ∃ zr, zr = rowF 24 zcv := ⟨_, rfl⟩
  have HZL : Hid ((#[.bool false, .bool false, .slice none 0 0, .bool false, .bool false, .bool false, .bool false, .bool false, .bool false, .bool false, .bool false, .bool false, .bool false, .bool false, .bool false, .slice none 0 0, .bool false, .bool false, .bool false, .bool false, .int .i64 0, .int .i64 0, .int .i64 0, .int .i64 0] : Array Value) = zr) := by unfold Hid; rw [hzr]; rfl
  have hzz : zr.size = 24 := by rw [hzr, rowF_size]
  obtain ⟨W, hW⟩ : ∃ W, W = ((w.alloc (.cells gr 73)).alloc (.cells #[.int .i64 f.kind, .int .i64 f.node, .int .i64 f.id, .slice a3 f.ops.length c3, .slice a4 f.deps.length c4, .slice a5 f.ats.length c5, .slice a6 f.vals.length c6] 43)).alloc (.cells zr 73) := ⟨_, rfl⟩
  have hb : Below w.heap.size w W := by rw [hW]; exact (((Below.refl _ _).alloc (Nat.le_refl _) _).alloc (by rw [size_push]; omega) _).alloc (by rw [size_push, size_push]; omega) _
  have hzW : W.heap.size = w.heap.size + 3 := by rw [hW, size_push, size_push, size_push]
  obtain ⟨r0, r1, r2⟩ := rows3 w (.cells gr 73) (.cells #[.int .i64 f.kind, .int .i64 f.node, .int .i64 f.id, .slice a3 f.ops.length c3, .slice a4 f.deps.length c4, .slice a5 f.ats.length c5, .slice a6 f.vals.length c6] 43) (.cells zr 73)
  rw [← hW] at r0 r1 r2
  have HB0 : Hid (InBox w.heap.size W gr c) := ⟨r0, h.later hb⟩
  have HW : Hid (W = ((w.alloc (.cells gr 73)).alloc (.cells #[.int .i64 f.kind, .int .i64 f.node, .int .i64 f.id, .slice a3 f.ops.length c3, .slice a4 f.deps.length c4, .slice a5 f.ats.length c5, .slice a6 f.vals.length c6] 43)).alloc (.cells zr 73)) := hW
  have HR1 : Hid (W.heap[w.heap.size + 1]? = some (.cells #[.int .i64 f.kind, .int .i64 f.node, .int .i64 f.id, .slice a3 f.ops.length c3, .slice a4 f.deps.length c4, .slice a5 f.ats.length c5, .slice a6 f.vals.length c6] 43 (0, 0))) := r1
  have HR2 : Hid (W.heap[w.heap.size + 2]? = some (.cells zr 73 (0, 0))) := r2
  have Hbw : Hid (Below w.heap.size w W) := hb
  have tG := h.row
  have i9 := h.info
  have s9 : zr.size = gr.size := by rw [hzz, h.size]
  have o9 := h.one
  clear hW h r1 r2 hb hzr
  go_enter Try.func55, Try.ntmps55
  go_upto_region 1 with fail
  rw [HZL.out, ← HW.out]
  clear HW HZL
  go_wp2_with (first
    | ((with_reducible apply wpl_row r0); (· rfl); (· exact tG); (· rfl); simp only [Act.put, List.setIfInBounds_toArray, List.set_cons_zero, List.set_cons_succ])
    | fail)
  refine (ref_isCase gr c W HB0.out.case).mono ?_
  rintro e w1 ⟨rfl, hb1⟩
  have HX1 : Hid (InBox w.heap.size w1 gr c) := HB0.out.later hb1
  have HBW1 : Hid (Below W.heap.size W w1) := hb1
  have hz1 := hb1.size
  have rF1 : w1.heap[w.heap.size + 1]? = some (.cells #[.int .i64 f.kind, .int .i64 f.node, .int .i64 f.id, .slice a3 f.ops.length c3, .slice a4 f.deps.length c4, .slice a5 f.ats.length c5, .slice a6 f.vals.length c6] 43 (0, 0)) := by rw [hb1.block _ (by omega)]; exact HR1.out
  have kid : w1.cell? ⟨w.heap.size + 1, 2, none⟩ = some (.int .i64 f.id) := by rw [cell_of_row _ _ _ _ _ _ rF1]; rfl
  have qb := HX1.out.begun
  obtain ⟨a15, c15, q15, hs15, _⟩ := HX1.out.deps
  clear hb1 r0
  rw [HG.out.1] at *
  rw [HG.out.2.1] at qb
  have d3 : (f.id != id) = false := by have := HG.out.2.2.1; simpa using this
  have d5 : (goodL f != 0) = false := by have := HG.out.2.2.2.2.1; simpa using this
  have d6 : (f.kind == 1) = false := by have := HG.out.2.2.2.2.2.1; simpa using this
  have d7 : (f.kind == 3) = false := by have := HG.out.2.2.2.2.2.2; simpa using this
  go_wp2_with fail
  refine (ref_has a15 c15 c.deps id w1 hs15.2.1 hs15.1).mono ?_
  rintro e w2 ⟨rfl, hw⟩
  subst hw
  rw [HG.out.2.2.2.1]
  go_wp2_with (first
    | ((with_reducible apply wpl_row rF1); (· rfl); (· exact row_frame); (· rfl); simp only [Act.put, List.setIfInBounds_toArray, List.set_cons_zero, List.set_cons_succ])
    | fail)
  refine (isFrame_any _ f w2 (HFB.out.later (Hbw.out.trans (HBW1.out.mono (by omega)))).v).mono ?_
  rintro e w3 ⟨rfl, hb3⟩
  have HBW3 : Hid (Below W.heap.size W w3) := HBW1.out.trans (hb3.mono hz1)
  have HX3 : Hid (InBox w.heap.size w3 gr c) := HX1.out.later hb3
  have rF3 : w3.heap[w.heap.size + 1]? = some (.cells #[.int .i64 f.kind, .int .i64 f.node, .int .i64 f.id, .slice a3 f.ops.length c3, .slice a4 f.deps.length c4, .slice a5 f.ats.length c5, .slice a6 f.vals.length c6] 43 (0, 0)) := by rw [hb3.block _ (by omega)]; exact rF1
  have kk3 : w3.cell? ⟨w.heap.size + 1, 0, none⟩ = some (.int .i64 f.kind) := by rw [cell_of_row _ _ _ _ _ _ rF3]; rfl
  have rB3 := HX3.out.row
  have hz3 : w.heap.size + 3 ≤ w3.heap.size := by have := HBW3.out.size; omega
  clear hb3 rF1 kid q15 qb
  go_wp2_with (first
    | ((with_reducible apply wpl_row rB3); (· rfl); (· exact tG); (· rfl); simp only [Act.put, List.setIfInBounds_toArray, List.set_cons_zero, List.set_cons_succ])
    | fail)
  refine (ref_copyCase gr c w3 HX3.out.case).mono ?_
  rintro e w4 ⟨gr4, rfl, hcg, hb4⟩
  have hz4 := hb4.size
  have HBW4 : Hid (Below W.heap.size W w4) := HBW3.out.trans (hb4.mono (by omega))
  have rB4 : w4.heap[w.heap.size]? = some (.cells gr 73 (0, 0)) := (HX3.out.later hb4).row
  have i4 := hcg.v.info
  have s4 : gr.size = gr4.size := by rw [HCV.out.size, hcg.v.size]
  have o4 := hcg.v.one
  obtain ⟨X, hX⟩ : ∃ X, X = w4.setRow w.heap.size gr4 := ⟨_, rfl⟩
  have HXe : Hid (X = w4.setRow w.heap.size gr4) := hX
  have hzX : X.heap.size = w4.heap.size := by rw [hX, size_setRow]
  have hzX1 : w.heap.size + 3 ≤ X.heap.size := by omega
  obtain ⟨mv, hmv, hmc⟩ := hcg
  have HP : Hid (PBox (w.heap.size + 3) w.heap.size X mv c) := by
    refine ⟨by rw [hX, ← hmv]; exact heap_setRow rB4, ?_, by omega⟩
    rw [hX]
    exact (hmc.later (w' := w4.setRow w.heap.size gr4) (fun b _ hb => setRow_other _ _ (by have hb' : w3.heap.size ≤ b := hb; omega))).mono (fun b _ hb => by have hb' : w3.heap.size ≤ b := hb; show w.heap.size + 3 ≤ b; omega)
  have HGX : Hid (W.grownBy X (some w.heap.size)) := by
    unfold Hid
    rw [hX]
    have g := grownR_below (grownR_refl W (some w.heap.size)) HBW4.out
    exact ⟨g.os, g.tape, g.output, by rw [size_setRow]; exact g.size, fun k hk hr => by rw [setRow_other _ _ (fun e => hr (by rw [e]))]; exact g.block k hk hr⟩
  have HFX : Hid (FrameB w.heap.size X (.agg #[.int .i64 f.kind, .int .i64 f.node, .int .i64 f.id, .slice a3 f.ops.length c3, .slice a4 f.deps.length c4, .slice a5 f.ats.length c5, .slice a6 f.vals.length c6]) f) := HFB.out.later (below_row Hbw.out HGX.out (by omega))
  have rFX : X.heap[w.heap.size + 1]? = some (.cells #[.int .i64 f.kind, .int .i64 f.node, .int .i64 f.id, .slice a3 f.ops.length c3, .slice a4 f.deps.length c4, .slice a5 f.ats.length c5, .slice a6 f.vals.length c6] 43 (0, 0)) := by rw [HGX.out.block _ (by omega) (fun e => by have := Option.some.inj e; omega)]; exact HR1.out
  have kn1 : X.cell? ⟨w.heap.size + 1, 1, none⟩ = some (.int .i64 f.node) := by rw [cell_of_row _ _ _ _ _ _ rFX]; rfl
  have kk1 : X.cell? ⟨w.heap.size + 1, 0, none⟩ = some (.int .i64 f.kind) := by rw [cell_of_row _ _ _ _ _ _ rFX]; rfl
  clear hX hzX hmv hmc hb4 rF3 kk3 rB3 i9 s9 o9
  go_upto_region 9 with (refine wpList_store_row rfl 73 _ _ rfl w.heap.size gr4 rfl rfl 73 _ rB4 i4 s4 o4 ?_)
  rw [← HXe.out]
  clear HXe rB4 i4 s4 o4
  go_wp2_with fail
  refine (ofNode_any f.node X).mono ?_
  rintro e X ⟨rfl, rfl⟩
  have q1 := HP.out.box.fixed
  rw [Htf.out] at q1
  obtain ⟨m, hm6, em⟩ : ∃ m : Nat, m < 6 ∧ f.node = m := ⟨f.node.toNat, by have := (good_frame HG.out.2.2.2.2.1).2; omega, by have := (good_frame HG.out.2.2.2.2.1).2; omega⟩
  have HM : Hid (f.node.toNat = m) := by unfold Hid; omega
  rw [em] at kn1
  have hmm : (0 : Int) ≤ (m : Int) ∧ (m : Int) < 6 := by omega
  have q9 := HP.out.box.known hm6
  have f9 : X.frozen? ⟨w.heap.size, 9 + m, none⟩ = false := HP.out.blk.frozen _
  obtain ⟨Y, hY⟩ : ∃ Y, Y = X.setCell ⟨w.heap.size, 9 + m, none⟩ (.bool true) := ⟨_, rfl⟩
  have HPY : Hid (PBox (w.heap.size + 3) w.heap.size Y (putV mv (9 + m) (.bool true)) { c with known := upd c.known f.node.toNat true }) := by unfold Hid; rw [hY, HM.out]; exact HP.out.put (9 + m) (.bool true) (HP.out.case.putKnown hm6 true)
  have HGY : Hid (W.grownBy Y (some w.heap.size)) := by unfold Hid; rw [hY]; exact grown_put_same HGX.out _ _
  have HY : Hid (Y = X.setCell ⟨w.heap.size, 9 + m, none⟩ (.bool true)) := hY
  have HEM : Hid (f.node = m) := em
  clear hY em
  go_upto_region 32 with fail
  rw [← HY.out]
  clear HY q9 f9
  obtain ⟨hs, ehs⟩ : ∃ hs, hs = rowF 24 (putV mv (9 + m) (.bool true)) := ⟨_, rfl⟩
  have HHS : Hid (hs = rowF 24 (putV mv (9 + m) (.bool true))) := ehs
  have r9 : Y.heap[w.heap.size]? = some (.cells hs 73 (0, 0)) := by rw [ehs]; exact HPY.out.row
  have t9 : RowT Try.prog 73 hs.size := by rw [ehs]; exact HPY.out.box.case.row
  have i9 : (Try.prog.info? 73).map (·.size) = some hs.size := by rw [ehs]; exact HPY.out.box.case.info
  have s9 : zr.size = hs.size := by rw [ehs, rowF_size]; exact hzz
  have o9 : hs.all (·.oneCell') = true := by rw [ehs]; exact HPY.out.box.case.one
  have rZ9 : Y.heap[w.heap.size + 2]? = some (.cells zr 73 (0, 0)) := by rw [HGY.out.block _ (by omega) (fun e => by have := Option.some.inj e; omega)]; exact HR2.out
  clear ehs
  go_wp2_with (first
    | ((with_reducible apply wpl_row r9); (· rfl); (· exact t9); (· rfl); simp only [Act.put, List.setIfInBounds_toArray, List.set_cons_zero, List.set_cons_succ])
    | (refine wpList_store_row rfl 73 _ _ rfl (w.heap.size + 2) hs rfl rfl 73 _ rZ9 i9 s9 o9 ?_)
    | fail)
  refine bodyPost_ret (v := .tuple #[.agg hs, .slice none 0 0, .int .i64 0]) (results_row2 Try.results55 _ _ (w.heap.size + 2) 73 hs (0, 0) _ rfl (heap_setRow rZ9) Try.underlying73 rfl i9 _ _ rfl rfl) rfl ⟨hs, .slice none 0 0, by rw [HE.out], by rw [HE.out]; have hh := (HPY.out.out hs).v; rw [← HHS.out] at hh; exact hh, by rw [HE.out]; exact FramesV.nil _ _, setRow_below (below_row Hbw.out HGY.out (by omega)) (by omega) _⟩

set_option maxRecDepth 100000 in
set_option maxHeartbeats 4000000 in
theorem rtake_d0 (gr : Array Value) (c : CaseL) (id : Int) (v : Value) (f : FrameL) (w : World) (h : CaseV w gr c) (hf : FrameV w v f) (t0 : refC c id f = 0) (tk : f.kind = 5) (tf : c.fixed = false) :
    Calls Try.prog 55 #[.agg gr, .int .i64 id, v] w fun e w' => ∃ gr' x, e = .returned (.tuple #[.agg gr', x, .int .i64 (takeC c id f).2.2]) ∧ CaseV w' gr' (takeC c id f).1 ∧ FramesV 0 w' x (takeC c id f).2.1 ∧ Below w.heap.size w w' := by
  have HE : Hid (takeC c id f = (c, [], 0)) := by rw [take_done t0 tk, tf]; rfl
  have HG : Hid (goodCB c = true ∧ c.begun = true ∧ f.id = id ∧ hasL c.deps id = false ∧ goodL f = 0 ∧ f.kind ≠ 1 ∧ f.kind ≠ 3) := by
    obtain ⟨g1, g2, g3, g4, g5⟩ := ref_ok t0
    unfold isCaseOfB at g1
    simp only [Bool.and_eq_true, Bool.not_eq_true'] at g1
    exact ⟨g1.1.1, g1.1.2, g2, g1.2, g3, g4, g5⟩
  have Htk : Hid (f.kind = 5) := tk
  have Htf : Hid (c.fixed = false) := tf
  clear t0 tk tf
  have e2 : (f.kind == 2) = false := by rw [Htk.out]; decide
  have e4 : (f.kind == 4) = false := by rw [Htk.out]; decide
  have e5 : (f.kind == 5) = true := by rw [Htk.out]; decide
  have HFB : Hid (FrameB w.heap.size w v f) := hf.b
  have HCV : Hid (CaseV w gr c) := h
  obtain ⟨a3, c3, a4, c4, a5, c5, a6, c6, rfl, _⟩ := hf
  obtain ⟨zr, hzr⟩ : ∃ zr, zr = rowF 24 zcv := ⟨_, rfl⟩
  have HZL : Hid ((#[.bool false, .bool false, .slice none 0 0, .bool false, .bool false, .bool false, .bool false, .bool false, .bool false, .bool false, .bool false, .bool false, .bool false, .bool false, .bool false, .slice none 0 0, .bool false, .bool false, .bool false, .bool false, .int .i64 0, .int .i64 0, .int .i64 0, .int .i64 0] : Array Value) = zr) := by unfold Hid; rw [hzr]; rfl
  have hzz : zr.size = 24 := by rw [hzr, rowF_size]
  obtain ⟨W, hW⟩ : ∃ W, W = ((w.alloc (.cells gr 73)).alloc (.cells #[.int .i64 f.kind, .int .i64 f.node, .int .i64 f.id, .slice a3 f.ops.length c3, .slice a4 f.deps.length c4, .slice a5 f.ats.length c5, .slice a6 f.vals.length c6] 43)).alloc (.cells zr 73) := ⟨_, rfl⟩
  have hb : Below w.heap.size w W := by rw [hW]; exact (((Below.refl _ _).alloc (Nat.le_refl _) _).alloc (by rw [size_push]; omega) _).alloc (by rw [size_push, size_push]; omega) _
  have hzW : W.heap.size = w.heap.size + 3 := by rw [hW, size_push, size_push, size_push]
  obtain ⟨r0, r1, r2⟩ := rows3 w (.cells gr 73) (.cells #[.int .i64 f.kind, .int .i64 f.node, .int .i64 f.id, .slice a3 f.ops.length c3, .slice a4 f.deps.length c4, .slice a5 f.ats.length c5, .slice a6 f.vals.length c6] 43) (.cells zr 73)
  rw [← hW] at r0 r1 r2
  have HB0 : Hid (InBox w.heap.size W gr c) := ⟨r0, h.later hb⟩
  have HW : Hid (W = ((w.alloc (.cells gr 73)).alloc (.cells #[.int .i64 f.kind, .int .i64 f.node, .int .i64 f.id, .slice a3 f.ops.length c3, .slice a4 f.deps.length c4, .slice a5 f.ats.length c5, .slice a6 f.vals.length c6] 43)).alloc (.cells zr 73)) := hW
  have HR1 : Hid (W.heap[w.heap.size + 1]? = some (.cells #[.int .i64 f.kind, .int .i64 f.node, .int .i64 f.id, .slice a3 f.ops.length c3, .slice a4 f.deps.length c4, .slice a5 f.ats.length c5, .slice a6 f.vals.length c6] 43 (0, 0))) := r1
  have HR2 : Hid (W.heap[w.heap.size + 2]? = some (.cells zr 73 (0, 0))) := r2
  have Hbw : Hid (Below w.heap.size w W) := hb
  have tG := h.row
  have i9 := h.info
  have s9 : zr.size = gr.size := by rw [hzz, h.size]
  have o9 := h.one
  clear hW h r1 r2 hb hzr
  go_enter Try.func55, Try.ntmps55
  go_upto_region 1 with fail
  rw [HZL.out, ← HW.out]
  clear HW HZL
  go_wp2_with (first
    | ((with_reducible apply wpl_row r0); (· rfl); (· exact tG); (· rfl); simp only [Act.put, List.setIfInBounds_toArray, List.set_cons_zero, List.set_cons_succ])
    | fail)
  refine (ref_isCase gr c W HB0.out.case).mono ?_
  rintro e w1 ⟨rfl, hb1⟩
  have HX1 : Hid (InBox w.heap.size w1 gr c) := HB0.out.later hb1
  have HBW1 : Hid (Below W.heap.size W w1) := hb1
  have hz1 := hb1.size
  have rF1 : w1.heap[w.heap.size + 1]? = some (.cells #[.int .i64 f.kind, .int .i64 f.node, .int .i64 f.id, .slice a3 f.ops.length c3, .slice a4 f.deps.length c4, .slice a5 f.ats.length c5, .slice a6 f.vals.length c6] 43 (0, 0)) := by rw [hb1.block _ (by omega)]; exact HR1.out
  have kid : w1.cell? ⟨w.heap.size + 1, 2, none⟩ = some (.int .i64 f.id) := by rw [cell_of_row _ _ _ _ _ _ rF1]; rfl
  have qb := HX1.out.begun
  obtain ⟨a15, c15, q15, hs15, _⟩ := HX1.out.deps
  clear hb1 r0
  rw [HG.out.1] at *
  rw [HG.out.2.1] at qb
  have d3 : (f.id != id) = false := by have := HG.out.2.2.1; simpa using this
  have d5 : (goodL f != 0) = false := by have := HG.out.2.2.2.2.1; simpa using this
  have d6 : (f.kind == 1) = false := by have := HG.out.2.2.2.2.2.1; simpa using this
  have d7 : (f.kind == 3) = false := by have := HG.out.2.2.2.2.2.2; simpa using this
  go_wp2_with fail
  refine (ref_has a15 c15 c.deps id w1 hs15.2.1 hs15.1).mono ?_
  rintro e w2 ⟨rfl, hw⟩
  subst hw
  rw [HG.out.2.2.2.1]
  go_wp2_with (first
    | ((with_reducible apply wpl_row rF1); (· rfl); (· exact row_frame); (· rfl); simp only [Act.put, List.setIfInBounds_toArray, List.set_cons_zero, List.set_cons_succ])
    | fail)
  refine (isFrame_any _ f w2 (HFB.out.later (Hbw.out.trans (HBW1.out.mono (by omega)))).v).mono ?_
  rintro e w3 ⟨rfl, hb3⟩
  have HBW3 : Hid (Below W.heap.size W w3) := HBW1.out.trans (hb3.mono hz1)
  have HX3 : Hid (InBox w.heap.size w3 gr c) := HX1.out.later hb3
  have rF3 : w3.heap[w.heap.size + 1]? = some (.cells #[.int .i64 f.kind, .int .i64 f.node, .int .i64 f.id, .slice a3 f.ops.length c3, .slice a4 f.deps.length c4, .slice a5 f.ats.length c5, .slice a6 f.vals.length c6] 43 (0, 0)) := by rw [hb3.block _ (by omega)]; exact rF1
  have kk3 : w3.cell? ⟨w.heap.size + 1, 0, none⟩ = some (.int .i64 f.kind) := by rw [cell_of_row _ _ _ _ _ _ rF3]; rfl
  have rB3 := HX3.out.row
  have hz3 : w.heap.size + 3 ≤ w3.heap.size := by have := HBW3.out.size; omega
  clear hb3 rF1 kid q15 qb
  go_wp2_with (first
    | ((with_reducible apply wpl_row rB3); (· rfl); (· exact tG); (· rfl); simp only [Act.put, List.setIfInBounds_toArray, List.set_cons_zero, List.set_cons_succ])
    | fail)
  refine (ref_copyCase gr c w3 HX3.out.case).mono ?_
  rintro e w4 ⟨gr4, rfl, hcg, hb4⟩
  have hz4 := hb4.size
  have HBW4 : Hid (Below W.heap.size W w4) := HBW3.out.trans (hb4.mono (by omega))
  have rB4 : w4.heap[w.heap.size]? = some (.cells gr 73 (0, 0)) := (HX3.out.later hb4).row
  have i4 := hcg.v.info
  have s4 : gr.size = gr4.size := by rw [HCV.out.size, hcg.v.size]
  have o4 := hcg.v.one
  obtain ⟨X, hX⟩ : ∃ X, X = w4.setRow w.heap.size gr4 := ⟨_, rfl⟩
  have HXe : Hid (X = w4.setRow w.heap.size gr4) := hX
  have hzX : X.heap.size = w4.heap.size := by rw [hX, size_setRow]
  have hzX1 : w.heap.size + 3 ≤ X.heap.size := by omega
  obtain ⟨mv, hmv, hmc⟩ := hcg
  have HP : Hid (PBox (w.heap.size + 3) w.heap.size X mv c) := by
    refine ⟨by rw [hX, ← hmv]; exact heap_setRow rB4, ?_, by omega⟩
    rw [hX]
    exact (hmc.later (w' := w4.setRow w.heap.size gr4) (fun b _ hb => setRow_other _ _ (by have hb' : w3.heap.size ≤ b := hb; omega))).mono (fun b _ hb => by have hb' : w3.heap.size ≤ b := hb; show w.heap.size + 3 ≤ b; omega)
  have HGX : Hid (W.grownBy X (some w.heap.size)) := by
    unfold Hid
    rw [hX]
    have g := grownR_below (grownR_refl W (some w.heap.size)) HBW4.out
    exact ⟨g.os, g.tape, g.output, by rw [size_setRow]; exact g.size, fun k hk hr => by rw [setRow_other _ _ (fun e => hr (by rw [e]))]; exact g.block k hk hr⟩
  have HFX : Hid (FrameB w.heap.size X (.agg #[.int .i64 f.kind, .int .i64 f.node, .int .i64 f.id, .slice a3 f.ops.length c3, .slice a4 f.deps.length c4, .slice a5 f.ats.length c5, .slice a6 f.vals.length c6]) f) := HFB.out.later (below_row Hbw.out HGX.out (by omega))
  have rFX : X.heap[w.heap.size + 1]? = some (.cells #[.int .i64 f.kind, .int .i64 f.node, .int .i64 f.id, .slice a3 f.ops.length c3, .slice a4 f.deps.length c4, .slice a5 f.ats.length c5, .slice a6 f.vals.length c6] 43 (0, 0)) := by rw [HGX.out.block _ (by omega) (fun e => by have := Option.some.inj e; omega)]; exact HR1.out
  have kn1 : X.cell? ⟨w.heap.size + 1, 1, none⟩ = some (.int .i64 f.node) := by rw [cell_of_row _ _ _ _ _ _ rFX]; rfl
  have kk1 : X.cell? ⟨w.heap.size + 1, 0, none⟩ = some (.int .i64 f.kind) := by rw [cell_of_row _ _ _ _ _ _ rFX]; rfl
  clear hX hzX hmv hmc hb4 rF3 kk3 rB3 i9 s9 o9
  go_upto_region 9 with (refine wpList_store_row rfl 73 _ _ rfl w.heap.size gr4 rfl rfl 73 _ rB4 i4 s4 o4 ?_)
  rw [← HXe.out]
  clear HXe rB4 i4 s4 o4
  go_wp2_with fail
  refine (ofNode_any f.node X).mono ?_
  rintro e X ⟨rfl, rfl⟩
  have q1 := HP.out.box.fixed
  rw [Htf.out] at q1
  obtain ⟨hs, ehs⟩ : ∃ hs, hs = rowF 24 mv := ⟨_, rfl⟩
  have HHS : Hid (hs = rowF 24 mv) := ehs
  have r9 : X.heap[w.heap.size]? = some (.cells hs 73 (0, 0)) := by rw [ehs]; exact HP.out.row
  have t9 : RowT Try.prog 73 hs.size := by rw [ehs]; exact HP.out.box.case.row
  have i9 : (Try.prog.info? 73).map (·.size) = some hs.size := by rw [ehs]; exact HP.out.box.case.info
  have s9 : zr.size = hs.size := by rw [ehs, rowF_size]; exact hzz
  have o9 : hs.all (·.oneCell') = true := by rw [ehs]; exact HP.out.box.case.one
  have rZ9 : X.heap[w.heap.size + 2]? = some (.cells zr 73 (0, 0)) := by rw [HGX.out.block _ (by omega) (fun e => by have := Option.some.inj e; omega)]; exact HR2.out
  clear ehs
  go_wp2_with (first
    | ((with_reducible apply wpl_row r9); (· rfl); (· exact t9); (· rfl); simp only [Act.put, List.setIfInBounds_toArray, List.set_cons_zero, List.set_cons_succ])
    | (refine wpList_store_row rfl 73 _ _ rfl (w.heap.size + 2) hs rfl rfl 73 _ rZ9 i9 s9 o9 ?_)
    | fail)
  refine bodyPost_ret (v := .tuple #[.agg hs, .slice none 0 0, .int .i64 0]) (results_row2 Try.results55 _ _ (w.heap.size + 2) 73 hs (0, 0) _ rfl (heap_setRow rZ9) Try.underlying73 rfl i9 _ _ rfl rfl) rfl ⟨hs, .slice none 0 0, by rw [HE.out], by rw [HE.out]; have hh := (HP.out.out hs).v; rw [← HHS.out] at hh; exact hh, by rw [HE.out]; exact FramesV.nil _ _, setRow_below (below_row Hbw.out HGX.out (by omega)) (by omega) _⟩

end Go.Proofs.Ytkoefoccbjhoiab

namespace Go.Proofs.Ytkoefoccbjhoiab
open Go.RowKit
set_option linter.unusedSimpArgs false
set_option linter.unusedVariables false

set_option maxRecDepth 100000 in
set_option maxHeartbeats 4000000 in
theorem rtake_d1 (gr : Array Value) (c : CaseL) (id : Int) (v : Value) (f : FrameL) (w : World) (h : CaseV w gr c) (hf : FrameV w v f) (t0 : refC c id f = 0) (tk : f.kind = 5) (tf : c.fixed = true) :
    Calls Try.prog 55 #[.agg gr, .int .i64 id, v] w fun e w' => ∃ gr' x, e = .returned (.tuple #[.agg gr', x, .int .i64 (takeC c id f).2.2]) ∧ CaseV w' gr' (takeC c id f).1 ∧ FramesV 0 w' x (takeC c id f).2.1 ∧ Below w.heap.size w w' := by
  have HE : Hid (takeC c id f = (c.dones (ofL f.node) (f.ats.zip f.vals), [], 0)) := by rw [take_done t0 tk, tf]; rfl
  have HG : Hid (goodCB c = true ∧ c.begun = true ∧ f.id = id ∧ hasL c.deps id = false ∧ goodL f = 0 ∧ f.kind ≠ 1 ∧ f.kind ≠ 3) := by
    obtain ⟨g1, g2, g3, g4, g5⟩ := ref_ok t0
    unfold isCaseOfB at g1
    simp only [Bool.and_eq_true, Bool.not_eq_true'] at g1
    exact ⟨g1.1.1, g1.1.2, g2, g1.2, g3, g4, g5⟩
  have Htk : Hid (f.kind = 5) := tk
  have Htf : Hid (c.fixed = true) := tf
  clear t0 tk tf
  have e2 : (f.kind == 2) = false := by rw [Htk.out]; decide
  have e4 : (f.kind == 4) = false := by rw [Htk.out]; decide
  have e5 : (f.kind == 5) = true := by rw [Htk.out]; decide
  have HFB : Hid (FrameB w.heap.size w v f) := hf.b
  have HCV : Hid (CaseV w gr c) := h
  obtain ⟨a3, c3, a4, c4, a5, c5, a6, c6, rfl, _⟩ := hf
  obtain ⟨zr, hzr⟩ : ∃ zr, zr = rowF 24 zcv := ⟨_, rfl⟩
  have HZL : Hid ((#[.bool false, .bool false, .slice none 0 0, .bool false, .bool false, .bool false, .bool false, .bool false, .bool false, .bool false, .bool false, .bool false, .bool false, .bool false, .bool false, .slice none 0 0, .bool false, .bool false, .bool false, .bool false, .int .i64 0, .int .i64 0, .int .i64 0, .int .i64 0] : Array Value) = zr) := by unfold Hid; rw [hzr]; rfl
  have hzz : zr.size = 24 := by rw [hzr, rowF_size]
  obtain ⟨W, hW⟩ : ∃ W, W = ((w.alloc (.cells gr 73)).alloc (.cells #[.int .i64 f.kind, .int .i64 f.node, .int .i64 f.id, .slice a3 f.ops.length c3, .slice a4 f.deps.length c4, .slice a5 f.ats.length c5, .slice a6 f.vals.length c6] 43)).alloc (.cells zr 73) := ⟨_, rfl⟩
  have hb : Below w.heap.size w W := by rw [hW]; exact (((Below.refl _ _).alloc (Nat.le_refl _) _).alloc (by rw [size_push]; omega) _).alloc (by rw [size_push, size_push]; omega) _
  have hzW : W.heap.size = w.heap.size + 3 := by rw [hW, size_push, size_push, size_push]
  obtain ⟨r0, r1, r2⟩ := rows3 w (.cells gr 73) (.cells #[.int .i64 f.kind, .int .i64 f.node, .int .i64 f.id, .slice a3 f.ops.length c3, .slice a4 f.deps.length c4, .slice a5 f.ats.length c5, .slice a6 f.vals.length c6] 43) (.cells zr 73)
  rw [← hW] at r0 r1 r2
  have HB0 : Hid (InBox w.heap.size W gr c) := ⟨r0, h.later hb⟩
  have HW : Hid (W = ((w.alloc (.cells gr 73)).alloc (.cells #[.int .i64 f.kind, .int .i64 f.node, .int .i64 f.id, .slice a3 f.ops.length c3, .slice a4 f.deps.length c4, .slice a5 f.ats.length c5, .slice a6 f.vals.length c6] 43)).alloc (.cells zr 73)) := hW
  have HR1 : Hid (W.heap[w.heap.size + 1]? = some (.cells #[.int .i64 f.kind, .int .i64 f.node, .int .i64 f.id, .slice a3 f.ops.length c3, .slice a4 f.deps.length c4, .slice a5 f.ats.length c5, .slice a6 f.vals.length c6] 43 (0, 0))) := r1
  have HR2 : Hid (W.heap[w.heap.size + 2]? = some (.cells zr 73 (0, 0))) := r2
  have Hbw : Hid (Below w.heap.size w W) := hb
  have tG := h.row
  have i9 := h.info
  have s9 : zr.size = gr.size := by rw [hzz, h.size]
  have o9 := h.one
  clear hW h r1 r2 hb hzr
  go_enter Try.func55, Try.ntmps55
  go_upto_region 1 with fail
  rw [HZL.out, ← HW.out]
  clear HW HZL
  go_wp2_with (first
    | ((with_reducible apply wpl_row r0); (· rfl); (· exact tG); (· rfl); simp only [Act.put, List.setIfInBounds_toArray, List.set_cons_zero, List.set_cons_succ])
    | fail)
  refine (ref_isCase gr c W HB0.out.case).mono ?_
  rintro e w1 ⟨rfl, hb1⟩
  have HX1 : Hid (InBox w.heap.size w1 gr c) := HB0.out.later hb1
  have HBW1 : Hid (Below W.heap.size W w1) := hb1
  have hz1 := hb1.size
  have rF1 : w1.heap[w.heap.size + 1]? = some (.cells #[.int .i64 f.kind, .int .i64 f.node, .int .i64 f.id, .slice a3 f.ops.length c3, .slice a4 f.deps.length c4, .slice a5 f.ats.length c5, .slice a6 f.vals.length c6] 43 (0, 0)) := by rw [hb1.block _ (by omega)]; exact HR1.out
  have kid : w1.cell? ⟨w.heap.size + 1, 2, none⟩ = some (.int .i64 f.id) := by rw [cell_of_row _ _ _ _ _ _ rF1]; rfl
  have qb := HX1.out.begun
  obtain ⟨a15, c15, q15, hs15, _⟩ := HX1.out.deps
  clear hb1 r0
  rw [HG.out.1] at *
  rw [HG.out.2.1] at qb
  have d3 : (f.id != id) = false := by have := HG.out.2.2.1; simpa using this
  have d5 : (goodL f != 0) = false := by have := HG.out.2.2.2.2.1; simpa using this
  have d6 : (f.kind == 1) = false := by have := HG.out.2.2.2.2.2.1; simpa using this
  have d7 : (f.kind == 3) = false := by have := HG.out.2.2.2.2.2.2; simpa using this
  go_wp2_with fail
  refine (ref_has a15 c15 c.deps id w1 hs15.2.1 hs15.1).mono ?_
  rintro e w2 ⟨rfl, hw⟩
  subst hw
  rw [HG.out.2.2.2.1]
  go_wp2_with (first
    | ((with_reducible apply wpl_row rF1); (· rfl); (· exact row_frame); (· rfl); simp only [Act.put, List.setIfInBounds_toArray, List.set_cons_zero, List.set_cons_succ])
    | fail)
  refine (isFrame_any _ f w2 (HFB.out.later (Hbw.out.trans (HBW1.out.mono (by omega)))).v).mono ?_
  rintro e w3 ⟨rfl, hb3⟩
  have HBW3 : Hid (Below W.heap.size W w3) := HBW1.out.trans (hb3.mono hz1)
  have HX3 : Hid (InBox w.heap.size w3 gr c) := HX1.out.later hb3
  have rF3 : w3.heap[w.heap.size + 1]? = some (.cells #[.int .i64 f.kind, .int .i64 f.node, .int .i64 f.id, .slice a3 f.ops.length c3, .slice a4 f.deps.length c4, .slice a5 f.ats.length c5, .slice a6 f.vals.length c6] 43 (0, 0)) := by rw [hb3.block _ (by omega)]; exact rF1
  have kk3 : w3.cell? ⟨w.heap.size + 1, 0, none⟩ = some (.int .i64 f.kind) := by rw [cell_of_row _ _ _ _ _ _ rF3]; rfl
  have rB3 := HX3.out.row
  have hz3 : w.heap.size + 3 ≤ w3.heap.size := by have := HBW3.out.size; omega
  clear hb3 rF1 kid q15 qb
  go_wp2_with (first
    | ((with_reducible apply wpl_row rB3); (· rfl); (· exact tG); (· rfl); simp only [Act.put, List.setIfInBounds_toArray, List.set_cons_zero, List.set_cons_succ])
    | fail)
  refine (ref_copyCase gr c w3 HX3.out.case).mono ?_
  rintro e w4 ⟨gr4, rfl, hcg, hb4⟩
  have hz4 := hb4.size
  have HBW4 : Hid (Below W.heap.size W w4) := HBW3.out.trans (hb4.mono (by omega))
  have rB4 : w4.heap[w.heap.size]? = some (.cells gr 73 (0, 0)) := (HX3.out.later hb4).row
  have i4 := hcg.v.info
  have s4 : gr.size = gr4.size := by rw [HCV.out.size, hcg.v.size]
  have o4 := hcg.v.one
  obtain ⟨X, hX⟩ : ∃ X, X = w4.setRow w.heap.size gr4 := ⟨_, rfl⟩
  have HXe : Hid (X = w4.setRow w.heap.size gr4) := hX
  have hzX : X.heap.size = w4.heap.size := by rw [hX, size_setRow]
  have hzX1 : w.heap.size + 3 ≤ X.heap.size := by omega
  obtain ⟨mv, hmv, hmc⟩ := hcg
  have HP : Hid (PBox (w.heap.size + 3) w.heap.size X mv c) := by
    refine ⟨by rw [hX, ← hmv]; exact heap_setRow rB4, ?_, by omega⟩
    rw [hX]
    exact (hmc.later (w' := w4.setRow w.heap.size gr4) (fun b _ hb => setRow_other _ _ (by have hb' : w3.heap.size ≤ b := hb; omega))).mono (fun b _ hb => by have hb' : w3.heap.size ≤ b := hb; show w.heap.size + 3 ≤ b; omega)
  have HGX : Hid (W.grownBy X (some w.heap.size)) := by
    unfold Hid
    rw [hX]
    have g := grownR_below (grownR_refl W (some w.heap.size)) HBW4.out
    exact ⟨g.os, g.tape, g.output, by rw [size_setRow]; exact g.size, fun k hk hr => by rw [setRow_other _ _ (fun e => hr (by rw [e]))]; exact g.block k hk hr⟩
  have HFX : Hid (FrameB w.heap.size X (.agg #[.int .i64 f.kind, .int .i64 f.node, .int .i64 f.id, .slice a3 f.ops.length c3, .slice a4 f.deps.length c4, .slice a5 f.ats.length c5, .slice a6 f.vals.length c6]) f) := HFB.out.later (below_row Hbw.out HGX.out (by omega))
  have rFX : X.heap[w.heap.size + 1]? = some (.cells #[.int .i64 f.kind, .int .i64 f.node, .int .i64 f.id, .slice a3 f.ops.length c3, .slice a4 f.deps.length c4, .slice a5 f.ats.length c5, .slice a6 f.vals.length c6] 43 (0, 0)) := by rw [HGX.out.block _ (by omega) (fun e => by have := Option.some.inj e; omega)]; exact HR1.out
  have kn1 : X.cell? ⟨w.heap.size + 1, 1, none⟩ = some (.int .i64 f.node) := by rw [cell_of_row _ _ _ _ _ _ rFX]; rfl
  have kk1 : X.cell? ⟨w.heap.size + 1, 0, none⟩ = some (.int .i64 f.kind) := by rw [cell_of_row _ _ _ _ _ _ rFX]; rfl
  clear hX hzX hmv hmc hb4 rF3 kk3 rB3 i9 s9 o9
  go_upto_region 9 with (refine wpList_store_row rfl 73 _ _ rfl w.heap.size gr4 rfl rfl 73 _ rB4 i4 s4 o4 ?_)
  rw [← HXe.out]
  clear HXe rB4 i4 s4 o4
  go_wp2_with fail
  refine (ofNode_any f.node X).mono ?_
  rintro e X ⟨rfl, rfl⟩
  have q1 := HP.out.box.fixed
  rw [Htf.out] at q1
  obtain ⟨hvl, hats⟩ := done_good HG.out.2.2.2.2.1
  have HVL : Hid (f.vals.length = f.ats.length) := hvl
  have HAT : Hid (∀ x ∈ f.ats, -1 < x ∧ x < 4) := hats
  obtain ⟨sh, hsh⟩ : ∃ sh, sh = ofL f.node := ⟨_, rfl⟩
  rw [← hsh]
  have HSH : Hid (sh = ofL f.node) := hsh
  obtain ⟨y3, z3, y4, z4, y5, z5, y6, z6, efr, _, _, g5, g6⟩ := HFX.out
  cases efr
  have e5 : X.cell? ⟨w.heap.size + 1, 5, none⟩ = some (.slice a5 f.ats.length c5) := by rw [cell_of_row _ _ _ _ _ _ rFX]; rfl
  have HR : Hid (∀ wx, X.grownBy wx (some w.heap.size) → wx.heap[w.heap.size + 1]? = some (.cells #[.int .i64 f.kind, .int .i64 f.node, .int .i64 f.id, .slice a3 f.ops.length c3, .slice a4 f.deps.length c4, .slice a5 f.ats.length c5, .slice a6 f.vals.length c6] 43 (0, 0))) := fun wx hx => by rw [hx.block _ (by omega) (fun e => by have := Option.some.inj e; omega)]; exact rFX
  have H5 : Hid (∀ wx, X.grownBy wx (some w.heap.size) → IntsIn (· < w.heap.size) wx a5 f.ats) := fun wx hx => g5.2.later (fun b hb' hk => by have : b < w.heap.size := hk; rw [hx.block _ (by omega) (fun e => by have := Option.some.inj e; omega)])
  have H6 : Hid (∀ wx, X.grownBy wx (some w.heap.size) → IntsIn (· < w.heap.size) wx a6 f.vals) := fun wx hx => g6.2.later (fun b hb' hk => by have : b < w.heap.size := hk; rw [hx.block _ (by omega) (fun e => by have := Option.some.inj e; omega)])
  have hl5 := g5.1.2.1
  unfold maxLen at hl5
  clear hvl hats hsh g5 g6
  go_wp2
  go_loopw [154] (fun i wr => ∃ (k : Nat) (nv' : Nat → Value), k ≤ f.ats.length ∧ i = .int .i64 k ∧ PBox (w.heap.size + 3) w.heap.size wr nv' (c.dones sh ((f.ats.zip f.vals).take k)) ∧ X.grownBy wr (some w.heap.size)) (fun i _ => f.ats.length - (intOf i).toNat)
  case atStart => exact ⟨0, mv, Nat.zero_le _, rfl, HP.out, grownR_refl _ _⟩
  case round =>
    obtain ⟨k, nv', hk, rfl, hPk, hGk⟩ := hrel
    have hsz := hGk.size
    have hR := HR.out wr hGk
    have HPk : Hid (PBox (w.heap.size + 3) w.heap.size wr nv' (c.dones sh ((f.ats.zip f.vals).take k))) := hPk
    have HGr : Hid (X.grownBy wr (some w.heap.size)) := hGk
    by_cases hlt : k < f.ats.length
    · obtain ⟨ck, hck⟩ : ∃ ck, ck = c.dones sh ((f.ats.zip f.vals).take k) := ⟨_, rfl⟩
      rw [← hck] at hPk HPk
      have hzs := zip_take_succ hlt (show k < f.vals.length by have := HVL.out; omega)
      have HSn : Hid (c.dones sh ((f.ats.zip f.vals).take (k + 1)) = CaseL.done1 sh ck (f.ats.getD k 0, f.vals.getD k 0)) := by unfold Hid; rw [hzs, dones_snoc, hck]
      obtain ⟨q, Hq, b5, o5, ea5, eq5⟩ := (IntsIn.at (H5.out wr hGk)).get hlt
      obtain ⟨u, Hu, b6, o6, ea6, eu6⟩ := (IntsIn.at (H6.out wr hGk)).get (show k < f.vals.length by have := HVL.out; omega)
      subst ea5
      have hq4 : -1 < q ∧ q < 4 := HAT.out q (by rw [← Hq.out]; simp [List.getD, hlt])
      obtain ⟨m, hm4, rfl⟩ : ∃ m : Nat, m < 4 ∧ q = m := ⟨q.toNat, by omega, by omega⟩
      have hb6 : b6 < w.heap.size := by
        rcases H6.out wr hGk with e | ⟨b', o', e', hb', _⟩
        · have hvl := HVL.out; rw [e] at hvl; simp at hvl; omega
        · rw [ea6] at e'; cases e'; exact hb'
      have HS0 : Hid (c.dones sh ((f.ats.zip f.vals).take (k + 1)) = CaseL.done1 sh ck ((m : Int), u)) := by unfold Hid; rw [HSn.out, Hq.out, Hu.out]
      have k6 : wr.cell? ⟨w.heap.size + 1, 6, none⟩ = some (.slice (some ⟨b6, o6, none⟩) f.vals.length c6) := by rw [cell_of_row _ _ _ _ _ _ hR, ← ea6]; rfl
      obtain ⟨a2, c2, q2, hs2, hl2⟩ := hPk.box.ops
      have qh := hPk.box.has hm4
      have n1 : (0 : Int) ≤ (k : Int) ∧ (k : Int) < (f.ats.length : Int) := by omega
      have n2 : (0 : Int) ≤ (k : Int) ∧ (k : Int) < (f.vals.length : Int) := by have := HVL.out; omega
      have m1 : (0 : Int) ≤ (m : Int) ∧ (m : Int) < 4 := by omega
      clear HSn Hq Hu hzs hR ea6 hGk hPk hck
      by_cases tl : m < ck.ops.length
      · have dl : decide ((m : Int) < (ck.ops.length : Int)) = true := decide_eq_true (by omega)
        have m2 : (0 : Int) ≤ (m : Int) ∧ (m : Int) < (ck.ops.length : Int) := by omega
        rcases hs2.1 with h0 | ⟨b2, o2, rfl, hb2, hc2⟩
        · rw [h0] at tl; simp at tl
        obtain ⟨x0, x1, x2, Hx, e0, e1, e2⟩ := OpsAt.at hc2 hb2 (Below.refl _ _) tl
        have HT : Hid (touchB sh (ck.ops.getD m (0, 0, 0)) = (x1 % 2 == sh)) := by unfold Hid; rw [Hx.out]; rfl
        clear hc2 hs2 Hx
        cases tt : x1 % 2 == sh
        · have HS : Hid (c.dones sh ((f.ats.zip f.vals).take (k + 1)) = ck) := by
            unfold Hid
            rw [HS0.out]
            unfold CaseL.done1
            rw [if_neg]
            rintro ⟨_, e, _⟩
            have e : touchB sh (ck.ops.getD m (0, 0, 0)) = true := by simpa using e
            rw [HT.out, tt] at e; cases e
          clear tl
          go_wp2_with (go_at_call 103; refine (shardOf_any _ _).mono ?_; rintro e w' ⟨rfl, rfl⟩)
          go_roundw
          case rel => exact ⟨k + 1, nv', by omega, by go_num, by rw [HS.out]; exact HPk.out, HGr.out⟩
          case measure => simp [intOf]; omega
        · cases th : ck.has m
          · rw [th] at qh
            have HS : Hid (c.dones sh ((f.ats.zip f.vals).take (k + 1)) = { ck with has := upd ck.has m true, vals := upd ck.vals m u }) := by
              unfold Hid
              rw [HS0.out]
              unfold CaseL.done1
              rw [if_pos]
              · simp
              · exact ⟨by simpa using tl, by have := HT.out.trans tt; simpa using this, by simpa using th⟩
            have fh : wr.frozen? ⟨w.heap.size, 16 + m, none⟩ = false := HPk.out.blk.frozen _
            have fv : wr.frozen? ⟨w.heap.size, 20 + m, none⟩ = false := HPk.out.blk.frozen _
            have qv := HPk.out.box.vals hm4
            have z1 : ¬ b6 = w.heap.size := by omega
            clear tl th
            go_wp2_with (go_at_call 103; refine (shardOf_any _ _).mono ?_; rintro e w' ⟨rfl, rfl⟩)
            go_region
            all_goals
              go_wp2
              go_roundw
              case rel =>
                have p1 := HPk.out.drew.put (16 + m) (.bool true) (HPk.out.drew.case.putHas hm4 true)
                have p2 := p1.put (20 + m) (.int .i64 u) (p1.case.putVal hm4 u)
                exact ⟨k + 1, _, by omega, by go_num, by rw [HS.out]; exact p2, grown_put_same (grown_put_same (grownR_drew HGr.out) _ _) _ _⟩
              case measure => simp [intOf]; omega
          · rw [th] at qh
            have HS : Hid (c.dones sh ((f.ats.zip f.vals).take (k + 1)) = ck) := by
              unfold Hid
              rw [HS0.out]
              unfold CaseL.done1
              rw [if_neg]
              rintro ⟨_, _, e⟩
              have e : ck.has m = false := by simpa using e
              rw [th] at e; cases e
            clear tl th
            go_wp2_with (go_at_call 103; refine (shardOf_any _ _).mono ?_; rintro e w' ⟨rfl, rfl⟩)
            go_roundw
            case rel => exact ⟨k + 1, nv', by omega, by go_num, by rw [HS.out]; exact HPk.out, HGr.out⟩
            case measure => simp [intOf]; omega
      · have dl : decide ((m : Int) < (ck.ops.length : Int)) = false := decide_eq_false (by omega)
        have HS : Hid (c.dones sh ((f.ats.zip f.vals).take (k + 1)) = ck) := by
          unfold Hid
          rw [HS0.out]
          unfold CaseL.done1
          rw [if_neg]
          rintro ⟨e, _⟩
          exact tl (by simpa using e)
        have tl' : ck.ops.length ≤ m := by omega
        clear tl
        go_wp2_with (go_at_call 103; refine (shardOf_any _ _).mono ?_; rintro e w' ⟨rfl, rfl⟩)
        go_roundw
        case rel => exact ⟨k + 1, nv', by omega, by go_num, by rw [HS.out]; exact HPk.out, HGr.out⟩
        case measure => simp [intOf]; omega
    · have hke : k = f.ats.length := by omega
      have HF : Hid (PBox (w.heap.size + 3) w.heap.size wr nv' (c.dones (ofL f.node) (f.ats.zip f.vals))) := by
        unfold Hid
        have : (f.ats.zip f.vals).take k = f.ats.zip f.vals := List.take_of_length_le (by have := HVL.out; rw [List.length_zip]; omega)
        rw [← HSH.out, ← this]
        exact HPk.out
      have HGF : Hid (W.grownBy wr (some w.heap.size)) := grownR_trans HGX.out HGr.out
      clear hPk hGk hke
      obtain ⟨hs, ehs⟩ : ∃ hs, hs = rowF 24 nv' := ⟨_, rfl⟩
      have HHS : Hid (hs = rowF 24 nv') := ehs
      have r9 : wr.heap[w.heap.size]? = some (.cells hs 73 (0, 0)) := by rw [ehs]; exact HF.out.row
      have t9 : RowT Try.prog 73 hs.size := by rw [ehs]; exact HF.out.box.case.row
      have i9 : (Try.prog.info? 73).map (·.size) = some hs.size := by rw [ehs]; exact HF.out.box.case.info
      have s9 : zr.size = hs.size := by rw [ehs, rowF_size]; exact hzz
      have o9 : hs.all (·.oneCell') = true := by rw [ehs]; exact HF.out.box.case.one
      have rZ9 : wr.heap[w.heap.size + 2]? = some (.cells zr 73 (0, 0)) := by rw [HGF.out.block _ (by omega) (fun e => by have := Option.some.inj e; omega)]; exact HR2.out
      clear ehs
      go_wp2_with (first
        | ((with_reducible apply wpl_row r9); (· rfl); (· exact t9); (· rfl); simp only [Act.put, List.setIfInBounds_toArray, List.set_cons_zero, List.set_cons_succ])
        | (refine wpList_store_row rfl 73 _ _ rfl (w.heap.size + 2) hs rfl rfl 73 _ rZ9 i9 s9 o9 ?_)
        | fail)
      refine bodyPost_ret (v := .tuple #[.agg hs, .slice none 0 0, .int .i64 0]) (results_row2 Try.results55 _ _ (w.heap.size + 2) 73 hs (0, 0) _ rfl (heap_setRow rZ9) Try.underlying73 rfl i9 _ _ rfl rfl) rfl ⟨hs, .slice none 0 0, by rw [HE.out], by rw [HE.out]; have hh := (HF.out.out hs).v; rw [← HHS.out] at hh; exact hh, by rw [HE.out]; exact FramesV.nil _ _, setRow_below (below_row Hbw.out HGF.out (by omega)) (by omega) _⟩

end Go.Proofs.Ytkoefoccbjhoiab
