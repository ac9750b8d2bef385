/-
  What a Take answers, by its kind; a case whose lists are new.
  The contract of post's Take (what is refused).
  The contract of post's Take (Told).
  The contract of post's Take (Known).
  The contract of post's Take (Done).
-/
import Derived.Test.YtkoefoccbjhoiabPfx11
set_option linter.unusedVariables false
set_option linter.unusedSimpArgs false
namespace Go.Proofs.Ytkoefoccbjhoiab
open Go.RowKit

/-- A case by value whose lists lie from lo on. -/
def CaseG (lo : Nat) (w : World) (gr : Array Value) (c : CaseL) : Prop := ∃ nv, gr = rowF 24 nv ∧ CaseC (fun b => lo ≤ b) w nv c
theorem CaseG.v {lo : Nat} {w : World} {gr : Array Value} {c : CaseL} (h : CaseG lo w gr c) : CaseV w gr c := by
  obtain ⟨nv, e, h⟩ := h
  exact ⟨nv, e, h.any⟩
theorem below_row {a w w' : World} {B : Nat} (h : Below B a w) (hg : w.grownBy w' (some B)) (hB : B ≤ w.heap.size) : Below B a w' :=
  ⟨hg.os.trans h.os, hg.tape.trans h.tape, hg.output.trans h.output, by have := h.size; have := hg.size; omega, fun k hk => by
    rw [hg.block k (by omega) (fun e => by have := Option.some.inj e; omega)]
    exact h.block k hk⟩
/-- Out of its box, into another one. -/
theorem PBox.out {B : Nat} {w : World} {nv : Nat → Value} {c : CaseL} (h : PBox (B + 3) B w nv c) (r : Array Value) : CaseG B (w.setRow (B + 2) r) (rowF 24 nv) c :=
  ⟨nv, rfl, (h.case.later (w' := w.setRow (B + 2) r) (fun k _ hk => setRow_other _ _ (by have : B + 3 ≤ k := hk; omega))).mono (fun k _ hk => by have : B + 3 ≤ k := hk; show B ≤ k; omega)⟩
theorem take_goes {c : CaseL} {id : Int} {f : FrameL} (h : refC c id f = 0) : ¬ (goodCB c = false ∨ c.begun = false ∨ f.id ≠ id ∨ hasL c.deps id = true) ∧ ¬ goodL f ≠ 0 ∧ ¬ (f.kind = 1 ∨ f.kind = 3) := by
  obtain ⟨h1, h2, h3, h4, h5⟩ := ref_ok h
  refine ⟨fun e => ?_, fun e => e h3, fun e => ?_⟩
  · rcases (bad_iff c id f).1 e with e | e
    · rw [h1] at e; cases e
    · exact e h2
  · rcases e with e | e
    · exact h4 e
    · exact h5 e
theorem take_told {c : CaseL} {id : Int} {f : FrameL} (h : refC c id f = 0) (hk : f.kind = 2) : takeC c id f = ((toldC c f).1, (toldC c f).2, 0) := by
  obtain ⟨g1, g2, g3⟩ := take_goes h
  have hid := (ref_ok h).2.1
  unfold takeC toldC
  rw [if_neg g1, if_neg g2, if_neg g3, if_pos hk]
  split
  · rfl
  · rw [hid]
theorem take_known {c : CaseL} {id : Int} {f : FrameL} (h : refC c id f = 0) (hk : f.kind = 4) : takeC c id f = ((if c.fixed then { c with known := upd c.known f.node.toNat true } else c), [], 0) := by
  obtain ⟨g1, g2, g3⟩ := take_goes h
  unfold takeC
  rw [if_neg g1, if_neg g2, if_neg g3, if_neg (by omega)]
  cases e : c.fixed
  · rfl
  · rw [if_neg (by decide), if_pos hk]; rfl
theorem take_done {c : CaseL} {id : Int} {f : FrameL} (h : refC c id f = 0) (hk : f.kind = 5) : takeC c id f = ((if c.fixed then c.dones (ofL f.node) (f.ats.zip f.vals) else c), [], 0) := by
  obtain ⟨g1, g2, g3⟩ := take_goes h
  unfold takeC
  rw [if_neg g1, if_neg g2, if_neg g3, if_neg (by omega)]
  cases e : c.fixed
  · rfl
  · rw [if_neg (by decide), if_neg (by omega)]; rfl

end Go.Proofs.Ytkoefoccbjhoiab

namespace Go.Proofs.Ytkoefoccbjhoiab
open Go.RowKit

set_option maxRecDepth 100000 in
set_option maxHeartbeats 4000000 in
theorem take_0 (gr : Array Value) (c : CaseL) (id : Int) (v : Value) (f : FrameL) (w : World) (h : CaseV w gr c) (hf : FrameV w v f) (t0 : refC c id f ≠ 0) :
    Calls Try.prog 54 #[.agg gr, .int .i64 id, v] w fun e w' => ∃ gr' x, e = .returned (.tuple #[.agg gr', x, .int .i64 (takeC c id f).2.2]) ∧ CaseG w.heap.size w' gr' (takeC c id f).1 ∧ FramesV w.heap.size w' x (takeC c id f).2.1 ∧ Below w.heap.size w w' := by
  have Ht0 : Hid (refC c id f ≠ 0) := t0
  clear t0
  have HE : Hid (takeC c id f = (c, [], refC c id f)) := take_refused Ht0.out
  have d0 : (refC c id f != 0) = true := by have := Ht0.out; simpa using this
  have HFB : Hid (FrameB w.heap.size w v f) := hf.b
  obtain ⟨a3, c3, a4, c4, a5, c5, a6, c6, rfl, _⟩ := hf
  obtain ⟨zr, hzr⟩ : ∃ zr, zr = rowF 24 zcv := ⟨_, rfl⟩
  have HZL : Hid ((#[.bool false, .bool false, .slice none 0 0, .bool false, .bool false, .bool false, .bool false, .bool false, .bool false, .bool false, .bool false, .bool false, .bool false, .bool false, .bool false, .slice none 0 0, .bool false, .bool false, .bool false, .bool false, .int .i64 0, .int .i64 0, .int .i64 0, .int .i64 0] : Array Value) = zr) := by unfold Hid; rw [hzr]; rfl
  have hzz : zr.size = 24 := by rw [hzr, rowF_size]
  obtain ⟨W, hW⟩ : ∃ W, W = ((w.alloc (.cells gr 73)).alloc (.cells #[.int .i64 f.kind, .int .i64 f.node, .int .i64 f.id, .slice a3 f.ops.length c3, .slice a4 f.deps.length c4, .slice a5 f.ats.length c5, .slice a6 f.vals.length c6] 43)).alloc (.cells zr 73) := ⟨_, rfl⟩
  have hb : Below w.heap.size w W := by rw [hW]; exact (((Below.refl _ _).alloc (Nat.le_refl _) _).alloc (by rw [size_push]; omega) _).alloc (by rw [size_push, size_push]; omega) _
  have hzW : W.heap.size = w.heap.size + 3 := by rw [hW, size_push, size_push, size_push]
  obtain ⟨r0, r1, r2⟩ := rows3 w (.cells gr 73) (.cells #[.int .i64 f.kind, .int .i64 f.node, .int .i64 f.id, .slice a3 f.ops.length c3, .slice a4 f.deps.length c4, .slice a5 f.ats.length c5, .slice a6 f.vals.length c6] 43) (.cells zr 73)
  rw [← hW] at r0 r1 r2
  have hB : InBox w.heap.size W gr c := ⟨r0, h.later hb⟩
  obtain ⟨a2, c2, q2, hs2, hl2⟩ := hB.ops
  obtain ⟨a15, c15, q15, hs15, hl15⟩ := hB.deps
  obtain ⟨nv, hnv, hcc⟩ := h
  have HW : Hid (W = ((w.alloc (.cells gr 73)).alloc (.cells #[.int .i64 f.kind, .int .i64 f.node, .int .i64 f.id, .slice a3 f.ops.length c3, .slice a4 f.deps.length c4, .slice a5 f.ats.length c5, .slice a6 f.vals.length c6] 43)).alloc (.cells zr 73)) := hW
  have HR1 : Hid (W.heap[w.heap.size + 1]? = some (.cells #[.int .i64 f.kind, .int .i64 f.node, .int .i64 f.id, .slice a3 f.ops.length c3, .slice a4 f.deps.length c4, .slice a5 f.ats.length c5, .slice a6 f.vals.length c6] 43 (0, 0))) := r1
  have HR2 : Hid (W.heap[w.heap.size + 2]? = some (.cells zr 73 (0, 0))) := r2
  have Hbw : Hid (Below w.heap.size w W) := hb
  have HC1 : Hid (∀ wx, wx = W.drew → Calls Try.prog 91 #[.slice a2 c.ops.length c2] wx fun e w' => ∃ ao co, e = .returned (.slice ao c.ops.length co) ∧ Hid (w'.ownsRow W.heap.size 108 3 (.slice ao c.ops.length co) c.ops.length (opsCells c.ops)) ∧ Hid (Below W.heap.size W w') ∧ w'.cell? ⟨w.heap.size, 15, none⟩ = some (.slice a15 c.deps.length c15)) := by
    rintro wx rfl
    refine (cloneO_any a2 c2 c.ops _ (hs2.later (Below.drew (Below.refl _ _))) hl2).mono ?_
    rintro e w1 ⟨v, rfl, hv, _, hb1⟩
    obtain ⟨ao, co, rfl, _, _⟩ := own_form hv
    have hb1' : Below W.heap.size W w1 := (Below.drew (Below.refl _ _)).trans hb1
    exact ⟨ao, co, rfl, hv, hb1', by rw [hb1'.cell (p := ⟨w.heap.size, 15, none⟩) (show w.heap.size < W.heap.size by omega)]; exact q15⟩
  have HC2 : Hid (∀ wx, Below W.heap.size W wx → Calls Try.prog 86 #[.slice a15 c.deps.length c15] wx fun e w' => ∃ ad cd, e = .returned (.slice ad c.deps.length cd) ∧ Hid (w'.ownsRow wx.heap.size 3 1 (.slice ad c.deps.length cd) c.deps.length (intCells c.deps)) ∧ Hid (Below wx.heap.size wx w') ∧
      w'.cell? ⟨w.heap.size, 2, none⟩ = some (.slice a2 c.ops.length c2) ∧ w'.cell? ⟨w.heap.size, 15, none⟩ = some (.slice a15 c.deps.length c15) ∧ w'.frozen? ⟨w.heap.size, 2, none⟩ = false ∧ w'.frozen? ⟨w.heap.size, 15, none⟩ = false) := by
    intro wx hx
    refine (cloneI_any a15 c15 c.deps wx (hs15.later hx) hl15).mono ?_
    rintro e w1 ⟨v, rfl, hv, _, hb1⟩
    obtain ⟨ad, cd, rfl, _, _⟩ := own_form hv
    have hz := hx.size
    have hrow : w1.heap[w.heap.size]? = some (.cells gr 73 (0, 0)) := by rw [hb1.block _ (by omega), hx.block _ (by omega)]; exact r0
    refine ⟨ad, cd, rfl, hv, hb1, ?_, ?_, frozen_of_row _ _ _ _ _ hrow, frozen_of_row _ _ _ _ _ hrow⟩
    · rw [hb1.cell (p := ⟨w.heap.size, 2, none⟩) (show w.heap.size < wx.heap.size by omega), hx.cell (p := ⟨w.heap.size, 2, none⟩) (show w.heap.size < W.heap.size by omega)]; exact q2
    · rw [hb1.cell (p := ⟨w.heap.size, 15, none⟩) (show w.heap.size < wx.heap.size by omega), hx.cell (p := ⟨w.heap.size, 15, none⟩) (show w.heap.size < W.heap.size by omega)]; exact q15
  have HPT : Hid (∀ w1 w2 ao co ad cd, w1.ownsRow W.heap.size 108 3 (.slice ao c.ops.length co) c.ops.length (opsCells c.ops) → Below W.heap.size W w1 → w2.ownsRow w1.heap.size 3 1 (.slice ad c.deps.length cd) c.deps.length (intCells c.deps) → Below w1.heap.size w1 w2 →
      ∃ mv, PBox (w.heap.size + 3) w.heap.size ((w2.setCell ⟨w.heap.size, 2, none⟩ (.slice ao c.ops.length co)).setCell ⟨w.heap.size, 15, none⟩ (.slice ad c.deps.length cd)) mv c) := by
    intro w1 w2 ao co ad cd h1 hb1 h2 hb2
    have hz1 := hb1.size
    have hz2 := hb2.size
    have i1 : IsO (w.heap.size + 3 ≤ ·) w2 (.slice ao c.ops.length co) c.ops := ((IsO.of_owns h1 hl2).later (SameOn.of_size hb2)).mono (fun b _ hb => by have := hb.1; show w.heap.size + 3 ≤ b; omega)
    have i2 : IsI (w.heap.size + 3 ≤ ·) w2 (.slice ad c.deps.length cd) c.deps := (IsI.of_owns h2 hl15).mono (fun b _ hb => by have := hb.1; show w.heap.size + 3 ≤ b; omega)
    refine ⟨putV (putV nv 2 (.slice ao c.ops.length co)) 15 (.slice ad c.deps.length cd), ?_, ?_, by omega⟩
    · rw [heap_setCell_same _ _ _ _ _ _ (heap_setCell_same w2 w.heap.size 2 _ _ _ (show w2.heap[w.heap.size]? = some (.cells gr 73 (0, 0)) by rw [hb2.block _ (by omega), hb1.block _ (by omega)]; exact r0)), hnv, rowF_set, rowF_set]
      rfl
    · have hoth : SameOn (w.heap.size + 3 ≤ ·) w2 ((w2.setCell ⟨w.heap.size, 2, none⟩ (.slice ao c.ops.length co)).setCell ⟨w.heap.size, 15, none⟩ (.slice ad c.deps.length cd)) := fun k _ hk => by
        have : w.heap.size + 3 ≤ k := hk
        rw [Below.heap_setCell _ _ _ _ (show k ≠ w.heap.size by omega), Below.heap_setCell _ _ _ _ (show k ≠ w.heap.size by omega)]
      refine CaseC.later ?_ hoth
      exact ⟨hcc.begun, hcc.fixed, i1, fun i hi => by unfold putV; rw [if_neg (by omega), if_neg (by omega)]; exact hcc.told i hi, fun i hi => by unfold putV; rw [if_neg (by omega), if_neg (by omega)]; exact hcc.known i hi, i2, fun i hi => by unfold putV; rw [if_neg (by omega), if_neg (by omega)]; exact hcc.has i hi, fun i hi => by unfold putV; rw [if_neg (by omega), if_neg (by omega)]; exact hcc.vals i hi⟩
  clear hW r0 r1 r2 hB hs2 hs15 hb hzr hnv hcc
  go_enter Try.func54, Try.ntmps54
  go_upto_region 1 with fail
  rw [HZL.out, ← HW.out]
  clear HW HZL
  go_region_with (first
    | (go_at_call 91; refine (HC1.out _ rfl).mono ?_; rintro e w1 ⟨ao, co, rfl, HO1, HB1, k15⟩)
    | (go_at_call 86; refine (HC2.out w1 HB1.out).mono ?_; rintro e w2 ⟨ad, cd, rfl, HO2, HB2, j2, j15, g2, g15⟩))
  all_goals
    obtain ⟨mv, hmv⟩ := HPT.out w1 w2 ao co ad cd HO1.out HB1.out HO2.out HB2.out
    obtain ⟨X, hX⟩ : ∃ X, X = (w2.setCell ⟨w.heap.size, 2, none⟩ (.slice ao c.ops.length co)).setCell ⟨w.heap.size, 15, none⟩ (.slice ad c.deps.length cd) := ⟨_, rfl⟩
    have hzX : w.heap.size + 3 ≤ X.heap.size := by
      have e1 := HB1.out.size
      have e2 := HB2.out.size
      have e3 : X.heap.size = w2.heap.size := by rw [hX]; simp [World.setCell]
      omega
    have HGX : Hid (W.grownBy X (some w.heap.size)) := by
      unfold Hid
      rw [hX]
      exact grown_put_same (grown_put_same (grownR_below (grownR_below (grownR_refl _ _) HB1.out) HB2.out) _ _) _ _
    have HX : Hid (X = (w2.setCell ⟨w.heap.size, 2, none⟩ (.slice ao c.ops.length co)).setCell ⟨w.heap.size, 15, none⟩ (.slice ad c.deps.length cd)) := hX
    rw [← hX] at hmv
    have HP : Hid (PBox (w.heap.size + 3) w.heap.size X mv c) := hmv
    obtain ⟨hr, ehr⟩ : ∃ hr, hr = rowF 24 mv := ⟨_, rfl⟩
    have rX : X.heap[w.heap.size]? = some (.cells hr 73 (0, 0)) := by rw [ehr]; exact hmv.row
    have tX : RowT Try.prog 73 hr.size := by rw [ehr]; exact hmv.box.case.row
    have HCX : Hid (CaseV X hr c) := by unfold Hid; rw [ehr]; exact hmv.box.case
    have HHR : Hid (hr = rowF 24 mv) := ehr
    have rF : X.heap[w.heap.size + 1]? = some (.cells #[.int .i64 f.kind, .int .i64 f.node, .int .i64 f.id, .slice a3 f.ops.length c3, .slice a4 f.deps.length c4, .slice a5 f.ats.length c5, .slice a6 f.vals.length c6] 43 (0, 0)) := by rw [HGX.out.block _ (by omega) (fun e => by have := Option.some.inj e; omega)]; exact HR1.out
    have HFX : Hid (FrameB w.heap.size X (.agg #[.int .i64 f.kind, .int .i64 f.node, .int .i64 f.id, .slice a3 f.ops.length c3, .slice a4 f.deps.length c4, .slice a5 f.ats.length c5, .slice a6 f.vals.length c6]) f) := HFB.out.later (below_row Hbw.out HGX.out (by omega))
    clear hX hmv ehr HO1 HO2 HB1 HB2 j2 j15 g2 g15 k15
    rw [← HX.out]
    clear HX
    go_wp2_with (first
      | ((with_reducible apply wpl_row rX); (· rfl); (· exact tX); (· rfl); simp only [Act.put, List.setIfInBounds_toArray, List.set_cons_zero, List.set_cons_succ])
      | ((with_reducible apply wpl_row rF); (· rfl); (· exact row_frame); (· rfl); simp only [Act.put, List.setIfInBounds_toArray, List.set_cons_zero, List.set_cons_succ])
      | fail)
    refine (p_refusal hr c id _ f X HCX.out HFX.out.v).mono ?_
    rintro e w3 ⟨rfl, hb3⟩
    have HP3 : Hid (PBox (w.heap.size + 3) w.heap.size w3 mv c) := HP.out.later hb3
    have HG3 : Hid (W.grownBy w3 (some w.heap.size)) := grownR_below HGX.out hb3
    have HF3 : Hid (FrameB w.heap.size w3 (.agg #[.int .i64 f.kind, .int .i64 f.node, .int .i64 f.id, .slice a3 f.ops.length c3, .slice a4 f.deps.length c4, .slice a5 f.ats.length c5, .slice a6 f.vals.length c6]) f) := HFX.out.later (hb3.mono (by omega))
    have hz3 : w.heap.size + 3 ≤ w3.heap.size := by have := hb3.size; omega
    have r3 : w3.heap[w.heap.size]? = some (.cells hr 73 (0, 0)) := by rw [HHR.out]; exact HP3.out.row
    have rF3 : w3.heap[w.heap.size + 1]? = some (.cells #[.int .i64 f.kind, .int .i64 f.node, .int .i64 f.id, .slice a3 f.ops.length c3, .slice a4 f.deps.length c4, .slice a5 f.ats.length c5, .slice a6 f.vals.length c6] 43 (0, 0)) := by rw [hb3.block _ (by omega)]; exact rF
    have rZ3 : w3.heap[w.heap.size + 2]? = some (.cells zr 73 (0, 0)) := by rw [HG3.out.block _ (by omega) (fun e => by have := Option.some.inj e; omega)]; exact HR2.out
    have k03 : w3.cell? ⟨w.heap.size + 1, 0, none⟩ = some (.int .i64 f.kind) := by rw [cell_of_row _ _ _ _ _ _ rF3]; rfl
    clear hb3 rX rF HP HGX HFX
    have r9 : w3.heap[w.heap.size]? = some (.cells hr 73 (0, 0)) := by rw [HHR.out]; exact HP3.out.row
    have t9 : RowT Try.prog 73 hr.size := by rw [HHR.out]; exact HP3.out.box.case.row
    have i9 : (Try.prog.info? 73).map (·.size) = some hr.size := by rw [HHR.out]; exact HP3.out.box.case.info
    have s9 : zr.size = hr.size := by rw [HHR.out, rowF_size]; exact hzz
    have o9 : hr.all (·.oneCell') = true := by rw [HHR.out]; exact HP3.out.box.case.one
    have rZ9 : w3.heap[w.heap.size + 2]? = some (.cells zr 73 (0, 0)) := by rw [HG3.out.block _ (by omega) (fun e => by have := Option.some.inj e; omega)]; exact HR2.out
    go_wp2_with (first
      | ((with_reducible apply wpl_row r9); (· rfl); (· exact t9); (· rfl); simp only [Act.put, List.setIfInBounds_toArray, List.set_cons_zero, List.set_cons_succ])
      | (refine wpList_store_row rfl 73 _ _ rfl (w.heap.size + 2) hr rfl rfl 73 _ rZ9 i9 s9 o9 ?_)
      | fail)
    refine bodyPost_ret (v := .tuple #[.agg hr, .slice none 0 0, .int .i64 (refC c id f)]) (results_row2 Try.results54 _ _ (w.heap.size + 2) 73 hr (0, 0) _ rfl (heap_setRow rZ9) Try.underlying73 rfl i9 _ _ rfl rfl) rfl ⟨_, _, by rw [HE.out], by rw [HE.out]; have hh := HP3.out.out hr; rw [← HHR.out] at hh; exact hh, by rw [HE.out]; exact FramesV.nil _ _, setRow_below (below_row Hbw.out HG3.out (by omega)) (by omega) _⟩

end Go.Proofs.Ytkoefoccbjhoiab

namespace Go.Proofs.Ytkoefoccbjhoiab
open Go.RowKit

set_option maxRecDepth 100000 in
set_option maxHeartbeats 4000000 in
theorem take_1 (gr : Array Value) (c : CaseL) (id : Int) (v : Value) (f : FrameL) (w : World) (h : CaseV w gr c) (hf : FrameV w v f) (t0 : refC c id f = 0) (t1 : f.kind = 2) :
    Calls Try.prog 54 #[.agg gr, .int .i64 id, v] w fun e w' => ∃ gr' x, e = .returned (.tuple #[.agg gr', x, .int .i64 (takeC c id f).2.2]) ∧ CaseG w.heap.size w' gr' (takeC c id f).1 ∧ FramesV w.heap.size w' x (takeC c id f).2.1 ∧ Below w.heap.size w w' := by
  have Ht0 : Hid (refC c id f = 0) := t0
  have Ht1 : Hid (f.kind = 2) := t1
  clear t0 t1
  have HE : Hid (takeC c id f = ((toldC c f).1, (toldC c f).2, 0)) := take_told Ht0.out Ht1.out
  have d0 : (refC c id f != 0) = false := by have := Ht0.out; simpa using this
  have d2 : (f.kind == 2) = true := by rw [Ht1.out]; decide
  have d4 : (f.kind == 4) = false := by rw [Ht1.out]; decide
  have d5 : (f.kind == 5) = false := by rw [Ht1.out]; decide
  have hg : goodL f = 0 := (ref_ok Ht0.out).2.2.1
  have HFB : Hid (FrameB w.heap.size w v f) := hf.b
  obtain ⟨a3, c3, a4, c4, a5, c5, a6, c6, rfl, _⟩ := hf
  obtain ⟨zr, hzr⟩ : ∃ zr, zr = rowF 24 zcv := ⟨_, rfl⟩
  have HZL : Hid ((#[.bool false, .bool false, .slice none 0 0, .bool false, .bool false, .bool false, .bool false, .bool false, .bool false, .bool false, .bool false, .bool false, .bool false, .bool false, .bool false, .slice none 0 0, .bool false, .bool false, .bool false, .bool false, .int .i64 0, .int .i64 0, .int .i64 0, .int .i64 0] : Array Value) = zr) := by unfold Hid; rw [hzr]; rfl
  have hzz : zr.size = 24 := by rw [hzr, rowF_size]
  obtain ⟨W, hW⟩ : ∃ W, W = ((w.alloc (.cells gr 73)).alloc (.cells #[.int .i64 f.kind, .int .i64 f.node, .int .i64 f.id, .slice a3 f.ops.length c3, .slice a4 f.deps.length c4, .slice a5 f.ats.length c5, .slice a6 f.vals.length c6] 43)).alloc (.cells zr 73) := ⟨_, rfl⟩
  have hb : Below w.heap.size w W := by rw [hW]; exact (((Below.refl _ _).alloc (Nat.le_refl _) _).alloc (by rw [size_push]; omega) _).alloc (by rw [size_push, size_push]; omega) _
  have hzW : W.heap.size = w.heap.size + 3 := by rw [hW, size_push, size_push, size_push]
  obtain ⟨r0, r1, r2⟩ := rows3 w (.cells gr 73) (.cells #[.int .i64 f.kind, .int .i64 f.node, .int .i64 f.id, .slice a3 f.ops.length c3, .slice a4 f.deps.length c4, .slice a5 f.ats.length c5, .slice a6 f.vals.length c6] 43) (.cells zr 73)
  rw [← hW] at r0 r1 r2
  have hB : InBox w.heap.size W gr c := ⟨r0, h.later hb⟩
  obtain ⟨a2, c2, q2, hs2, hl2⟩ := hB.ops
  obtain ⟨a15, c15, q15, hs15, hl15⟩ := hB.deps
  obtain ⟨nv, hnv, hcc⟩ := h
  have HW : Hid (W = ((w.alloc (.cells gr 73)).alloc (.cells #[.int .i64 f.kind, .int .i64 f.node, .int .i64 f.id, .slice a3 f.ops.length c3, .slice a4 f.deps.length c4, .slice a5 f.ats.length c5, .slice a6 f.vals.length c6] 43)).alloc (.cells zr 73)) := hW
  have HR1 : Hid (W.heap[w.heap.size + 1]? = some (.cells #[.int .i64 f.kind, .int .i64 f.node, .int .i64 f.id, .slice a3 f.ops.length c3, .slice a4 f.deps.length c4, .slice a5 f.ats.length c5, .slice a6 f.vals.length c6] 43 (0, 0))) := r1
  have HR2 : Hid (W.heap[w.heap.size + 2]? = some (.cells zr 73 (0, 0))) := r2
  have Hbw : Hid (Below w.heap.size w W) := hb
  have HC1 : Hid (∀ wx, wx = W.drew → Calls Try.prog 91 #[.slice a2 c.ops.length c2] wx fun e w' => ∃ ao co, e = .returned (.slice ao c.ops.length co) ∧ Hid (w'.ownsRow W.heap.size 108 3 (.slice ao c.ops.length co) c.ops.length (opsCells c.ops)) ∧ Hid (Below W.heap.size W w') ∧ w'.cell? ⟨w.heap.size, 15, none⟩ = some (.slice a15 c.deps.length c15)) := by
    rintro wx rfl
    refine (cloneO_any a2 c2 c.ops _ (hs2.later (Below.drew (Below.refl _ _))) hl2).mono ?_
    rintro e w1 ⟨v, rfl, hv, _, hb1⟩
    obtain ⟨ao, co, rfl, _, _⟩ := own_form hv
    have hb1' : Below W.heap.size W w1 := (Below.drew (Below.refl _ _)).trans hb1
    exact ⟨ao, co, rfl, hv, hb1', by rw [hb1'.cell (p := ⟨w.heap.size, 15, none⟩) (show w.heap.size < W.heap.size by omega)]; exact q15⟩
  have HC2 : Hid (∀ wx, Below W.heap.size W wx → Calls Try.prog 86 #[.slice a15 c.deps.length c15] wx fun e w' => ∃ ad cd, e = .returned (.slice ad c.deps.length cd) ∧ Hid (w'.ownsRow wx.heap.size 3 1 (.slice ad c.deps.length cd) c.deps.length (intCells c.deps)) ∧ Hid (Below wx.heap.size wx w') ∧
      w'.cell? ⟨w.heap.size, 2, none⟩ = some (.slice a2 c.ops.length c2) ∧ w'.cell? ⟨w.heap.size, 15, none⟩ = some (.slice a15 c.deps.length c15) ∧ w'.frozen? ⟨w.heap.size, 2, none⟩ = false ∧ w'.frozen? ⟨w.heap.size, 15, none⟩ = false) := by
    intro wx hx
    refine (cloneI_any a15 c15 c.deps wx (hs15.later hx) hl15).mono ?_
    rintro e w1 ⟨v, rfl, hv, _, hb1⟩
    obtain ⟨ad, cd, rfl, _, _⟩ := own_form hv
    have hz := hx.size
    have hrow : w1.heap[w.heap.size]? = some (.cells gr 73 (0, 0)) := by rw [hb1.block _ (by omega), hx.block _ (by omega)]; exact r0
    refine ⟨ad, cd, rfl, hv, hb1, ?_, ?_, frozen_of_row _ _ _ _ _ hrow, frozen_of_row _ _ _ _ _ hrow⟩
    · rw [hb1.cell (p := ⟨w.heap.size, 2, none⟩) (show w.heap.size < wx.heap.size by omega), hx.cell (p := ⟨w.heap.size, 2, none⟩) (show w.heap.size < W.heap.size by omega)]; exact q2
    · rw [hb1.cell (p := ⟨w.heap.size, 15, none⟩) (show w.heap.size < wx.heap.size by omega), hx.cell (p := ⟨w.heap.size, 15, none⟩) (show w.heap.size < W.heap.size by omega)]; exact q15
  have HPT : Hid (∀ w1 w2 ao co ad cd, w1.ownsRow W.heap.size 108 3 (.slice ao c.ops.length co) c.ops.length (opsCells c.ops) → Below W.heap.size W w1 → w2.ownsRow w1.heap.size 3 1 (.slice ad c.deps.length cd) c.deps.length (intCells c.deps) → Below w1.heap.size w1 w2 →
      ∃ mv, PBox (w.heap.size + 3) w.heap.size ((w2.setCell ⟨w.heap.size, 2, none⟩ (.slice ao c.ops.length co)).setCell ⟨w.heap.size, 15, none⟩ (.slice ad c.deps.length cd)) mv c) := by
    intro w1 w2 ao co ad cd h1 hb1 h2 hb2
    have hz1 := hb1.size
    have hz2 := hb2.size
    have i1 : IsO (w.heap.size + 3 ≤ ·) w2 (.slice ao c.ops.length co) c.ops := ((IsO.of_owns h1 hl2).later (SameOn.of_size hb2)).mono (fun b _ hb => by have := hb.1; show w.heap.size + 3 ≤ b; omega)
    have i2 : IsI (w.heap.size + 3 ≤ ·) w2 (.slice ad c.deps.length cd) c.deps := (IsI.of_owns h2 hl15).mono (fun b _ hb => by have := hb.1; show w.heap.size + 3 ≤ b; omega)
    refine ⟨putV (putV nv 2 (.slice ao c.ops.length co)) 15 (.slice ad c.deps.length cd), ?_, ?_, by omega⟩
    · rw [heap_setCell_same _ _ _ _ _ _ (heap_setCell_same w2 w.heap.size 2 _ _ _ (show w2.heap[w.heap.size]? = some (.cells gr 73 (0, 0)) by rw [hb2.block _ (by omega), hb1.block _ (by omega)]; exact r0)), hnv, rowF_set, rowF_set]
      rfl
    · have hoth : SameOn (w.heap.size + 3 ≤ ·) w2 ((w2.setCell ⟨w.heap.size, 2, none⟩ (.slice ao c.ops.length co)).setCell ⟨w.heap.size, 15, none⟩ (.slice ad c.deps.length cd)) := fun k _ hk => by
        have : w.heap.size + 3 ≤ k := hk
        rw [Below.heap_setCell _ _ _ _ (show k ≠ w.heap.size by omega), Below.heap_setCell _ _ _ _ (show k ≠ w.heap.size by omega)]
      refine CaseC.later ?_ hoth
      exact ⟨hcc.begun, hcc.fixed, i1, fun i hi => by unfold putV; rw [if_neg (by omega), if_neg (by omega)]; exact hcc.told i hi, fun i hi => by unfold putV; rw [if_neg (by omega), if_neg (by omega)]; exact hcc.known i hi, i2, fun i hi => by unfold putV; rw [if_neg (by omega), if_neg (by omega)]; exact hcc.has i hi, fun i hi => by unfold putV; rw [if_neg (by omega), if_neg (by omega)]; exact hcc.vals i hi⟩
  clear hW r0 r1 r2 hB hs2 hs15 hb hzr hnv hcc
  go_enter Try.func54, Try.ntmps54
  go_upto_region 1 with fail
  rw [HZL.out, ← HW.out]
  clear HW HZL
  go_region_with (first
    | (go_at_call 91; refine (HC1.out _ rfl).mono ?_; rintro e w1 ⟨ao, co, rfl, HO1, HB1, k15⟩)
    | (go_at_call 86; refine (HC2.out w1 HB1.out).mono ?_; rintro e w2 ⟨ad, cd, rfl, HO2, HB2, j2, j15, g2, g15⟩))
  all_goals
    obtain ⟨mv, hmv⟩ := HPT.out w1 w2 ao co ad cd HO1.out HB1.out HO2.out HB2.out
    obtain ⟨X, hX⟩ : ∃ X, X = (w2.setCell ⟨w.heap.size, 2, none⟩ (.slice ao c.ops.length co)).setCell ⟨w.heap.size, 15, none⟩ (.slice ad c.deps.length cd) := ⟨_, rfl⟩
    have hzX : w.heap.size + 3 ≤ X.heap.size := by
      have e1 := HB1.out.size
      have e2 := HB2.out.size
      have e3 : X.heap.size = w2.heap.size := by rw [hX]; simp [World.setCell]
      omega
    have HGX : Hid (W.grownBy X (some w.heap.size)) := by
      unfold Hid
      rw [hX]
      exact grown_put_same (grown_put_same (grownR_below (grownR_below (grownR_refl _ _) HB1.out) HB2.out) _ _) _ _
    have HX : Hid (X = (w2.setCell ⟨w.heap.size, 2, none⟩ (.slice ao c.ops.length co)).setCell ⟨w.heap.size, 15, none⟩ (.slice ad c.deps.length cd)) := hX
    rw [← hX] at hmv
    have HP : Hid (PBox (w.heap.size + 3) w.heap.size X mv c) := hmv
    obtain ⟨hr, ehr⟩ : ∃ hr, hr = rowF 24 mv := ⟨_, rfl⟩
    have rX : X.heap[w.heap.size]? = some (.cells hr 73 (0, 0)) := by rw [ehr]; exact hmv.row
    have tX : RowT Try.prog 73 hr.size := by rw [ehr]; exact hmv.box.case.row
    have HCX : Hid (CaseV X hr c) := by unfold Hid; rw [ehr]; exact hmv.box.case
    have HHR : Hid (hr = rowF 24 mv) := ehr
    have rF : X.heap[w.heap.size + 1]? = some (.cells #[.int .i64 f.kind, .int .i64 f.node, .int .i64 f.id, .slice a3 f.ops.length c3, .slice a4 f.deps.length c4, .slice a5 f.ats.length c5, .slice a6 f.vals.length c6] 43 (0, 0)) := by rw [HGX.out.block _ (by omega) (fun e => by have := Option.some.inj e; omega)]; exact HR1.out
    have HFX : Hid (FrameB w.heap.size X (.agg #[.int .i64 f.kind, .int .i64 f.node, .int .i64 f.id, .slice a3 f.ops.length c3, .slice a4 f.deps.length c4, .slice a5 f.ats.length c5, .slice a6 f.vals.length c6]) f) := HFB.out.later (below_row Hbw.out HGX.out (by omega))
    clear hX hmv ehr HO1 HO2 HB1 HB2 j2 j15 g2 g15 k15
    rw [← HX.out]
    clear HX
    go_wp2_with (first
      | ((with_reducible apply wpl_row rX); (· rfl); (· exact tX); (· rfl); simp only [Act.put, List.setIfInBounds_toArray, List.set_cons_zero, List.set_cons_succ])
      | ((with_reducible apply wpl_row rF); (· rfl); (· exact row_frame); (· rfl); simp only [Act.put, List.setIfInBounds_toArray, List.set_cons_zero, List.set_cons_succ])
      | fail)
    refine (p_refusal hr c id _ f X HCX.out HFX.out.v).mono ?_
    rintro e w3 ⟨rfl, hb3⟩
    have HP3 : Hid (PBox (w.heap.size + 3) w.heap.size w3 mv c) := HP.out.later hb3
    have HG3 : Hid (W.grownBy w3 (some w.heap.size)) := grownR_below HGX.out hb3
    have HF3 : Hid (FrameB w.heap.size w3 (.agg #[.int .i64 f.kind, .int .i64 f.node, .int .i64 f.id, .slice a3 f.ops.length c3, .slice a4 f.deps.length c4, .slice a5 f.ats.length c5, .slice a6 f.vals.length c6]) f) := HFX.out.later (hb3.mono (by omega))
    have hz3 : w.heap.size + 3 ≤ w3.heap.size := by have := hb3.size; omega
    have r3 : w3.heap[w.heap.size]? = some (.cells hr 73 (0, 0)) := by rw [HHR.out]; exact HP3.out.row
    have rF3 : w3.heap[w.heap.size + 1]? = some (.cells #[.int .i64 f.kind, .int .i64 f.node, .int .i64 f.id, .slice a3 f.ops.length c3, .slice a4 f.deps.length c4, .slice a5 f.ats.length c5, .slice a6 f.vals.length c6] 43 (0, 0)) := by rw [hb3.block _ (by omega)]; exact rF
    have rZ3 : w3.heap[w.heap.size + 2]? = some (.cells zr 73 (0, 0)) := by rw [HG3.out.block _ (by omega) (fun e => by have := Option.some.inj e; omega)]; exact HR2.out
    have k03 : w3.cell? ⟨w.heap.size + 1, 0, none⟩ = some (.int .i64 f.kind) := by rw [cell_of_row _ _ _ _ _ _ rF3]; rfl
    clear hb3 rX rF HP HGX HFX
    have HCall := p_takeTold (w.heap.size + 3) w.heap.size mv c _ f w3 HP3.out HF3.out hg hz3
    obtain ⟨d, hd⟩ : ∃ d, d = (toldC c f).1 := ⟨_, rfl⟩
    rw [← hd] at HCall
    have HCall : Hid _ := HCall
    have HD : Hid (d = (toldC c f).1) := hd
    clear hd
    go_wp2_with (first
      | ((with_reducible apply wpl_row rF3); (· rfl); (· exact row_frame); (· rfl); simp only [Act.put, List.setIfInBounds_toArray, List.set_cons_zero, List.set_cons_succ])
      | fail)
    refine Calls.mono HCall.out ?_
    rintro e w4 ⟨nv4, x4, rfl, hP4, hF4, hG4⟩
    have HF4 : Hid (FramesV w3.heap.size w4 x4 (toldC c f).2) := hF4
    clear hF4
    have HP4 : Hid (PBox (w.heap.size + 3) w.heap.size w4 nv4 d) := hP4
    have HG4 : Hid (W.grownBy w4 (some w.heap.size)) := grownR_trans HG3.out hG4
    have hz4 : w3.heap.size ≤ w4.heap.size := hG4.size
    obtain ⟨hs, ehs⟩ : ∃ hs, hs = rowF 24 nv4 := ⟨_, rfl⟩
    have HHS : Hid (hs = rowF 24 nv4) := ehs
    clear hP4 hG4 ehs r3 rF3 rZ3 k03 HCall HP3
    have r9 : w4.heap[w.heap.size]? = some (.cells hs 73 (0, 0)) := by rw [HHS.out]; exact HP4.out.row
    have t9 : RowT Try.prog 73 hs.size := by rw [HHS.out]; exact HP4.out.box.case.row
    have i9 : (Try.prog.info? 73).map (·.size) = some hs.size := by rw [HHS.out]; exact HP4.out.box.case.info
    have s9 : zr.size = hs.size := by rw [HHS.out, rowF_size]; exact hzz
    have o9 : hs.all (·.oneCell') = true := by rw [HHS.out]; exact HP4.out.box.case.one
    have rZ9 : w4.heap[w.heap.size + 2]? = some (.cells zr 73 (0, 0)) := by rw [HG4.out.block _ (by omega) (fun e => by have := Option.some.inj e; omega)]; exact HR2.out
    go_wp2_with (first
      | ((with_reducible apply wpl_row r9); (· rfl); (· exact t9); (· rfl); simp only [Act.put, List.setIfInBounds_toArray, List.set_cons_zero, List.set_cons_succ])
      | (refine wpList_store_row rfl 73 _ _ rfl (w.heap.size + 2) hs rfl rfl 73 _ rZ9 i9 s9 o9 ?_)
      | fail)
    refine bodyPost_ret (v := .tuple #[.agg hs, x4, .int .i64 0]) (results_row2 Try.results54 _ _ (w.heap.size + 2) 73 hs (0, 0) _ rfl (heap_setRow rZ9) Try.underlying73 rfl i9 _ _ rfl rfl) rfl ⟨hs, x4, by rw [HE.out], by rw [HE.out]; have hh := HP4.out.out hs; rw [← HHS.out, HD.out] at hh; exact hh, by rw [HE.out]; exact (HF4.out.same (fun b _ hb => setRow_other _ _ (by omega))).mono (by omega), setRow_below (below_row Hbw.out HG4.out (by omega)) (by omega) _⟩

end Go.Proofs.Ytkoefoccbjhoiab

namespace Go.Proofs.Ytkoefoccbjhoiab
open Go.RowKit

set_option maxRecDepth 100000 in
set_option maxHeartbeats 4000000 in
theorem take_2 (gr : Array Value) (c : CaseL) (id : Int) (v : Value) (f : FrameL) (w : World) (h : CaseV w gr c) (hf : FrameV w v f) (t0 : refC c id f = 0) (t1 : f.kind = 4) :
    Calls Try.prog 54 #[.agg gr, .int .i64 id, v] w fun e w' => ∃ gr' x, e = .returned (.tuple #[.agg gr', x, .int .i64 (takeC c id f).2.2]) ∧ CaseG w.heap.size w' gr' (takeC c id f).1 ∧ FramesV w.heap.size w' x (takeC c id f).2.1 ∧ Below w.heap.size w w' := by
  have Ht0 : Hid (refC c id f = 0) := t0
  have Ht1 : Hid (f.kind = 4) := t1
  clear t0 t1
  have HE : Hid (takeC c id f = ((if c.fixed then { c with known := upd c.known f.node.toNat true } else c), [], 0)) := take_known Ht0.out Ht1.out
  have d0 : (refC c id f != 0) = false := by have := Ht0.out; simpa using this
  have d2 : (f.kind == 2) = false := by rw [Ht1.out]; decide
  have d4 : (f.kind == 4) = true := by rw [Ht1.out]; decide
  have d5 : (f.kind == 5) = false := by rw [Ht1.out]; decide
  have hg : goodL f = 0 := (ref_ok Ht0.out).2.2.1
  have HFB : Hid (FrameB w.heap.size w v f) := hf.b
  obtain ⟨a3, c3, a4, c4, a5, c5, a6, c6, rfl, _⟩ := hf
  obtain ⟨zr, hzr⟩ : ∃ zr, zr = rowF 24 zcv := ⟨_, rfl⟩
  have HZL : Hid ((#[.bool false, .bool false, .slice none 0 0, .bool false, .bool false, .bool false, .bool false, .bool false, .bool false, .bool false, .bool false, .bool false, .bool false, .bool false, .bool false, .slice none 0 0, .bool false, .bool false, .bool false, .bool false, .int .i64 0, .int .i64 0, .int .i64 0, .int .i64 0] : Array Value) = zr) := by unfold Hid; rw [hzr]; rfl
  have hzz : zr.size = 24 := by rw [hzr, rowF_size]
  obtain ⟨W, hW⟩ : ∃ W, W = ((w.alloc (.cells gr 73)).alloc (.cells #[.int .i64 f.kind, .int .i64 f.node, .int .i64 f.id, .slice a3 f.ops.length c3, .slice a4 f.deps.length c4, .slice a5 f.ats.length c5, .slice a6 f.vals.length c6] 43)).alloc (.cells zr 73) := ⟨_, rfl⟩
  have hb : Below w.heap.size w W := by rw [hW]; exact (((Below.refl _ _).alloc (Nat.le_refl _) _).alloc (by rw [size_push]; omega) _).alloc (by rw [size_push, size_push]; omega) _
  have hzW : W.heap.size = w.heap.size + 3 := by rw [hW, size_push, size_push, size_push]
  obtain ⟨r0, r1, r2⟩ := rows3 w (.cells gr 73) (.cells #[.int .i64 f.kind, .int .i64 f.node, .int .i64 f.id, .slice a3 f.ops.length c3, .slice a4 f.deps.length c4, .slice a5 f.ats.length c5, .slice a6 f.vals.length c6] 43) (.cells zr 73)
  rw [← hW] at r0 r1 r2
  have hB : InBox w.heap.size W gr c := ⟨r0, h.later hb⟩
  obtain ⟨a2, c2, q2, hs2, hl2⟩ := hB.ops
  obtain ⟨a15, c15, q15, hs15, hl15⟩ := hB.deps
  obtain ⟨nv, hnv, hcc⟩ := h
  have HW : Hid (W = ((w.alloc (.cells gr 73)).alloc (.cells #[.int .i64 f.kind, .int .i64 f.node, .int .i64 f.id, .slice a3 f.ops.length c3, .slice a4 f.deps.length c4, .slice a5 f.ats.length c5, .slice a6 f.vals.length c6] 43)).alloc (.cells zr 73)) := hW
  have HR1 : Hid (W.heap[w.heap.size + 1]? = some (.cells #[.int .i64 f.kind, .int .i64 f.node, .int .i64 f.id, .slice a3 f.ops.length c3, .slice a4 f.deps.length c4, .slice a5 f.ats.length c5, .slice a6 f.vals.length c6] 43 (0, 0))) := r1
  have HR2 : Hid (W.heap[w.heap.size + 2]? = some (.cells zr 73 (0, 0))) := r2
  have Hbw : Hid (Below w.heap.size w W) := hb
  have HC1 : Hid (∀ wx, wx = W.drew → Calls Try.prog 91 #[.slice a2 c.ops.length c2] wx fun e w' => ∃ ao co, e = .returned (.slice ao c.ops.length co) ∧ Hid (w'.ownsRow W.heap.size 108 3 (.slice ao c.ops.length co) c.ops.length (opsCells c.ops)) ∧ Hid (Below W.heap.size W w') ∧ w'.cell? ⟨w.heap.size, 15, none⟩ = some (.slice a15 c.deps.length c15)) := by
    rintro wx rfl
    refine (cloneO_any a2 c2 c.ops _ (hs2.later (Below.drew (Below.refl _ _))) hl2).mono ?_
    rintro e w1 ⟨v, rfl, hv, _, hb1⟩
    obtain ⟨ao, co, rfl, _, _⟩ := own_form hv
    have hb1' : Below W.heap.size W w1 := (Below.drew (Below.refl _ _)).trans hb1
    exact ⟨ao, co, rfl, hv, hb1', by rw [hb1'.cell (p := ⟨w.heap.size, 15, none⟩) (show w.heap.size < W.heap.size by omega)]; exact q15⟩
  have HC2 : Hid (∀ wx, Below W.heap.size W wx → Calls Try.prog 86 #[.slice a15 c.deps.length c15] wx fun e w' => ∃ ad cd, e = .returned (.slice ad c.deps.length cd) ∧ Hid (w'.ownsRow wx.heap.size 3 1 (.slice ad c.deps.length cd) c.deps.length (intCells c.deps)) ∧ Hid (Below wx.heap.size wx w') ∧
      w'.cell? ⟨w.heap.size, 2, none⟩ = some (.slice a2 c.ops.length c2) ∧ w'.cell? ⟨w.heap.size, 15, none⟩ = some (.slice a15 c.deps.length c15) ∧ w'.frozen? ⟨w.heap.size, 2, none⟩ = false ∧ w'.frozen? ⟨w.heap.size, 15, none⟩ = false) := by
    intro wx hx
    refine (cloneI_any a15 c15 c.deps wx (hs15.later hx) hl15).mono ?_
    rintro e w1 ⟨v, rfl, hv, _, hb1⟩
    obtain ⟨ad, cd, rfl, _, _⟩ := own_form hv
    have hz := hx.size
    have hrow : w1.heap[w.heap.size]? = some (.cells gr 73 (0, 0)) := by rw [hb1.block _ (by omega), hx.block _ (by omega)]; exact r0
    refine ⟨ad, cd, rfl, hv, hb1, ?_, ?_, frozen_of_row _ _ _ _ _ hrow, frozen_of_row _ _ _ _ _ hrow⟩
    · rw [hb1.cell (p := ⟨w.heap.size, 2, none⟩) (show w.heap.size < wx.heap.size by omega), hx.cell (p := ⟨w.heap.size, 2, none⟩) (show w.heap.size < W.heap.size by omega)]; exact q2
    · rw [hb1.cell (p := ⟨w.heap.size, 15, none⟩) (show w.heap.size < wx.heap.size by omega), hx.cell (p := ⟨w.heap.size, 15, none⟩) (show w.heap.size < W.heap.size by omega)]; exact q15
  have HPT : Hid (∀ w1 w2 ao co ad cd, w1.ownsRow W.heap.size 108 3 (.slice ao c.ops.length co) c.ops.length (opsCells c.ops) → Below W.heap.size W w1 → w2.ownsRow w1.heap.size 3 1 (.slice ad c.deps.length cd) c.deps.length (intCells c.deps) → Below w1.heap.size w1 w2 →
      ∃ mv, PBox (w.heap.size + 3) w.heap.size ((w2.setCell ⟨w.heap.size, 2, none⟩ (.slice ao c.ops.length co)).setCell ⟨w.heap.size, 15, none⟩ (.slice ad c.deps.length cd)) mv c) := by
    intro w1 w2 ao co ad cd h1 hb1 h2 hb2
    have hz1 := hb1.size
    have hz2 := hb2.size
    have i1 : IsO (w.heap.size + 3 ≤ ·) w2 (.slice ao c.ops.length co) c.ops := ((IsO.of_owns h1 hl2).later (SameOn.of_size hb2)).mono (fun b _ hb => by have := hb.1; show w.heap.size + 3 ≤ b; omega)
    have i2 : IsI (w.heap.size + 3 ≤ ·) w2 (.slice ad c.deps.length cd) c.deps := (IsI.of_owns h2 hl15).mono (fun b _ hb => by have := hb.1; show w.heap.size + 3 ≤ b; omega)
    refine ⟨putV (putV nv 2 (.slice ao c.ops.length co)) 15 (.slice ad c.deps.length cd), ?_, ?_, by omega⟩
    · rw [heap_setCell_same _ _ _ _ _ _ (heap_setCell_same w2 w.heap.size 2 _ _ _ (show w2.heap[w.heap.size]? = some (.cells gr 73 (0, 0)) by rw [hb2.block _ (by omega), hb1.block _ (by omega)]; exact r0)), hnv, rowF_set, rowF_set]
      rfl
    · have hoth : SameOn (w.heap.size + 3 ≤ ·) w2 ((w2.setCell ⟨w.heap.size, 2, none⟩ (.slice ao c.ops.length co)).setCell ⟨w.heap.size, 15, none⟩ (.slice ad c.deps.length cd)) := fun k _ hk => by
        have : w.heap.size + 3 ≤ k := hk
        rw [Below.heap_setCell _ _ _ _ (show k ≠ w.heap.size by omega), Below.heap_setCell _ _ _ _ (show k ≠ w.heap.size by omega)]
      refine CaseC.later ?_ hoth
      exact ⟨hcc.begun, hcc.fixed, i1, fun i hi => by unfold putV; rw [if_neg (by omega), if_neg (by omega)]; exact hcc.told i hi, fun i hi => by unfold putV; rw [if_neg (by omega), if_neg (by omega)]; exact hcc.known i hi, i2, fun i hi => by unfold putV; rw [if_neg (by omega), if_neg (by omega)]; exact hcc.has i hi, fun i hi => by unfold putV; rw [if_neg (by omega), if_neg (by omega)]; exact hcc.vals i hi⟩
  clear hW r0 r1 r2 hB hs2 hs15 hb hzr hnv hcc
  go_enter Try.func54, Try.ntmps54
  go_upto_region 1 with fail
  rw [HZL.out, ← HW.out]
  clear HW HZL
  go_region_with (first
    | (go_at_call 91; refine (HC1.out _ rfl).mono ?_; rintro e w1 ⟨ao, co, rfl, HO1, HB1, k15⟩)
    | (go_at_call 86; refine (HC2.out w1 HB1.out).mono ?_; rintro e w2 ⟨ad, cd, rfl, HO2, HB2, j2, j15, g2, g15⟩))
  all_goals
    obtain ⟨mv, hmv⟩ := HPT.out w1 w2 ao co ad cd HO1.out HB1.out HO2.out HB2.out
    obtain ⟨X, hX⟩ : ∃ X, X = (w2.setCell ⟨w.heap.size, 2, none⟩ (.slice ao c.ops.length co)).setCell ⟨w.heap.size, 15, none⟩ (.slice ad c.deps.length cd) := ⟨_, rfl⟩
    have hzX : w.heap.size + 3 ≤ X.heap.size := by
      have e1 := HB1.out.size
      have e2 := HB2.out.size
      have e3 : X.heap.size = w2.heap.size := by rw [hX]; simp [World.setCell]
      omega
    have HGX : Hid (W.grownBy X (some w.heap.size)) := by
      unfold Hid
      rw [hX]
      exact grown_put_same (grown_put_same (grownR_below (grownR_below (grownR_refl _ _) HB1.out) HB2.out) _ _) _ _
    have HX : Hid (X = (w2.setCell ⟨w.heap.size, 2, none⟩ (.slice ao c.ops.length co)).setCell ⟨w.heap.size, 15, none⟩ (.slice ad c.deps.length cd)) := hX
    rw [← hX] at hmv
    have HP : Hid (PBox (w.heap.size + 3) w.heap.size X mv c) := hmv
    obtain ⟨hr, ehr⟩ : ∃ hr, hr = rowF 24 mv := ⟨_, rfl⟩
    have rX : X.heap[w.heap.size]? = some (.cells hr 73 (0, 0)) := by rw [ehr]; exact hmv.row
    have tX : RowT Try.prog 73 hr.size := by rw [ehr]; exact hmv.box.case.row
    have HCX : Hid (CaseV X hr c) := by unfold Hid; rw [ehr]; exact hmv.box.case
    have HHR : Hid (hr = rowF 24 mv) := ehr
    have rF : X.heap[w.heap.size + 1]? = some (.cells #[.int .i64 f.kind, .int .i64 f.node, .int .i64 f.id, .slice a3 f.ops.length c3, .slice a4 f.deps.length c4, .slice a5 f.ats.length c5, .slice a6 f.vals.length c6] 43 (0, 0)) := by rw [HGX.out.block _ (by omega) (fun e => by have := Option.some.inj e; omega)]; exact HR1.out
    have HFX : Hid (FrameB w.heap.size X (.agg #[.int .i64 f.kind, .int .i64 f.node, .int .i64 f.id, .slice a3 f.ops.length c3, .slice a4 f.deps.length c4, .slice a5 f.ats.length c5, .slice a6 f.vals.length c6]) f) := HFB.out.later (below_row Hbw.out HGX.out (by omega))
    clear hX hmv ehr HO1 HO2 HB1 HB2 j2 j15 g2 g15 k15
    rw [← HX.out]
    clear HX
    go_wp2_with (first
      | ((with_reducible apply wpl_row rX); (· rfl); (· exact tX); (· rfl); simp only [Act.put, List.setIfInBounds_toArray, List.set_cons_zero, List.set_cons_succ])
      | ((with_reducible apply wpl_row rF); (· rfl); (· exact row_frame); (· rfl); simp only [Act.put, List.setIfInBounds_toArray, List.set_cons_zero, List.set_cons_succ])
      | fail)
    refine (p_refusal hr c id _ f X HCX.out HFX.out.v).mono ?_
    rintro e w3 ⟨rfl, hb3⟩
    have HP3 : Hid (PBox (w.heap.size + 3) w.heap.size w3 mv c) := HP.out.later hb3
    have HG3 : Hid (W.grownBy w3 (some w.heap.size)) := grownR_below HGX.out hb3
    have HF3 : Hid (FrameB w.heap.size w3 (.agg #[.int .i64 f.kind, .int .i64 f.node, .int .i64 f.id, .slice a3 f.ops.length c3, .slice a4 f.deps.length c4, .slice a5 f.ats.length c5, .slice a6 f.vals.length c6]) f) := HFX.out.later (hb3.mono (by omega))
    have hz3 : w.heap.size + 3 ≤ w3.heap.size := by have := hb3.size; omega
    have r3 : w3.heap[w.heap.size]? = some (.cells hr 73 (0, 0)) := by rw [HHR.out]; exact HP3.out.row
    have rF3 : w3.heap[w.heap.size + 1]? = some (.cells #[.int .i64 f.kind, .int .i64 f.node, .int .i64 f.id, .slice a3 f.ops.length c3, .slice a4 f.deps.length c4, .slice a5 f.ats.length c5, .slice a6 f.vals.length c6] 43 (0, 0)) := by rw [hb3.block _ (by omega)]; exact rF
    have rZ3 : w3.heap[w.heap.size + 2]? = some (.cells zr 73 (0, 0)) := by rw [HG3.out.block _ (by omega) (fun e => by have := Option.some.inj e; omega)]; exact HR2.out
    have k03 : w3.cell? ⟨w.heap.size + 1, 0, none⟩ = some (.int .i64 f.kind) := by rw [cell_of_row _ _ _ _ _ _ rF3]; rfl
    clear hb3 rX rF HP HGX HFX
    have HCall := p_takeKnown (w.heap.size + 3) w.heap.size mv c _ f w3 HP3.out HF3.out.v (good_frame hg).2
    obtain ⟨d, hd⟩ : ∃ d, d = (if c.fixed then { c with known := upd c.known f.node.toNat true } else c) := ⟨_, rfl⟩
    rw [← hd] at HCall
    have HCall : Hid _ := HCall
    have HD : Hid (d = (if c.fixed then { c with known := upd c.known f.node.toNat true } else c)) := hd
    clear hd
    go_wp2_with (first
      | ((with_reducible apply wpl_row rF3); (· rfl); (· exact row_frame); (· rfl); simp only [Act.put, List.setIfInBounds_toArray, List.set_cons_zero, List.set_cons_succ])
      | fail)
    refine Calls.mono HCall.out ?_
    rintro e w4 ⟨rfl, nv4, hP4, hG4⟩
    have HP4 : Hid (PBox (w.heap.size + 3) w.heap.size w4 nv4 d) := hP4
    have HG4 : Hid (W.grownBy w4 (some w.heap.size)) := grownR_trans HG3.out hG4
    have hz4 : w3.heap.size ≤ w4.heap.size := hG4.size
    obtain ⟨hs, ehs⟩ : ∃ hs, hs = rowF 24 nv4 := ⟨_, rfl⟩
    have HHS : Hid (hs = rowF 24 nv4) := ehs
    clear hP4 hG4 ehs r3 rF3 rZ3 k03 HCall HP3
    have r9 : w4.heap[w.heap.size]? = some (.cells hs 73 (0, 0)) := by rw [HHS.out]; exact HP4.out.row
    have t9 : RowT Try.prog 73 hs.size := by rw [HHS.out]; exact HP4.out.box.case.row
    have i9 : (Try.prog.info? 73).map (·.size) = some hs.size := by rw [HHS.out]; exact HP4.out.box.case.info
    have s9 : zr.size = hs.size := by rw [HHS.out, rowF_size]; exact hzz
    have o9 : hs.all (·.oneCell') = true := by rw [HHS.out]; exact HP4.out.box.case.one
    have rZ9 : w4.heap[w.heap.size + 2]? = some (.cells zr 73 (0, 0)) := by rw [HG4.out.block _ (by omega) (fun e => by have := Option.some.inj e; omega)]; exact HR2.out
    go_wp2_with (first
      | ((with_reducible apply wpl_row r9); (· rfl); (· exact t9); (· rfl); simp only [Act.put, List.setIfInBounds_toArray, List.set_cons_zero, List.set_cons_succ])
      | (refine wpList_store_row rfl 73 _ _ rfl (w.heap.size + 2) hs rfl rfl 73 _ rZ9 i9 s9 o9 ?_)
      | fail)
    refine bodyPost_ret (v := .tuple #[.agg hs, .slice none 0 0, .int .i64 0]) (results_row2 Try.results54 _ _ (w.heap.size + 2) 73 hs (0, 0) _ rfl (heap_setRow rZ9) Try.underlying73 rfl i9 _ _ rfl rfl) rfl ⟨hs, .slice none 0 0, by rw [HE.out], by rw [HE.out]; have hh := HP4.out.out hs; rw [← HHS.out, HD.out] at hh; exact hh, by rw [HE.out]; exact FramesV.nil _ _, setRow_below (below_row Hbw.out HG4.out (by omega)) (by omega) _⟩

end Go.Proofs.Ytkoefoccbjhoiab

namespace Go.Proofs.Ytkoefoccbjhoiab
open Go.RowKit

set_option maxRecDepth 100000 in
set_option maxHeartbeats 4000000 in
theorem take_3 (gr : Array Value) (c : CaseL) (id : Int) (v : Value) (f : FrameL) (w : World) (h : CaseV w gr c) (hf : FrameV w v f) (t0 : refC c id f = 0) (t1 : f.kind = 5) :
    Calls Try.prog 54 #[.agg gr, .int .i64 id, v] w fun e w' => ∃ gr' x, e = .returned (.tuple #[.agg gr', x, .int .i64 (takeC c id f).2.2]) ∧ CaseG w.heap.size w' gr' (takeC c id f).1 ∧ FramesV w.heap.size w' x (takeC c id f).2.1 ∧ Below w.heap.size w w' := by
  have Ht0 : Hid (refC c id f = 0) := t0
  have Ht1 : Hid (f.kind = 5) := t1
  clear t0 t1
  have HE : Hid (takeC c id f = ((if c.fixed then c.dones (ofL f.node) (f.ats.zip f.vals) else c), [], 0)) := take_done Ht0.out Ht1.out
  have d0 : (refC c id f != 0) = false := by have := Ht0.out; simpa using this
  have d2 : (f.kind == 2) = false := by rw [Ht1.out]; decide
  have d4 : (f.kind == 4) = false := by rw [Ht1.out]; decide
  have d5 : (f.kind == 5) = true := by rw [Ht1.out]; decide
  have hg : goodL f = 0 := (ref_ok Ht0.out).2.2.1
  have HFB : Hid (FrameB w.heap.size w v f) := hf.b
  obtain ⟨a3, c3, a4, c4, a5, c5, a6, c6, rfl, _⟩ := hf
  obtain ⟨zr, hzr⟩ : ∃ zr, zr = rowF 24 zcv := ⟨_, rfl⟩
  have HZL : Hid ((#[.bool false, .bool false, .slice none 0 0, .bool false, .bool false, .bool false, .bool false, .bool false, .bool false, .bool false, .bool false, .bool false, .bool false, .bool false, .bool false, .slice none 0 0, .bool false, .bool false, .bool false, .bool false, .int .i64 0, .int .i64 0, .int .i64 0, .int .i64 0] : Array Value) = zr) := by unfold Hid; rw [hzr]; rfl
  have hzz : zr.size = 24 := by rw [hzr, rowF_size]
  obtain ⟨W, hW⟩ : ∃ W, W = ((w.alloc (.cells gr 73)).alloc (.cells #[.int .i64 f.kind, .int .i64 f.node, .int .i64 f.id, .slice a3 f.ops.length c3, .slice a4 f.deps.length c4, .slice a5 f.ats.length c5, .slice a6 f.vals.length c6] 43)).alloc (.cells zr 73) := ⟨_, rfl⟩
  have hb : Below w.heap.size w W := by rw [hW]; exact (((Below.refl _ _).alloc (Nat.le_refl _) _).alloc (by rw [size_push]; omega) _).alloc (by rw [size_push, size_push]; omega) _
  have hzW : W.heap.size = w.heap.size + 3 := by rw [hW, size_push, size_push, size_push]
  obtain ⟨r0, r1, r2⟩ := rows3 w (.cells gr 73) (.cells #[.int .i64 f.kind, .int .i64 f.node, .int .i64 f.id, .slice a3 f.ops.length c3, .slice a4 f.deps.length c4, .slice a5 f.ats.length c5, .slice a6 f.vals.length c6] 43) (.cells zr 73)
  rw [← hW] at r0 r1 r2
  have hB : InBox w.heap.size W gr c := ⟨r0, h.later hb⟩
  obtain ⟨a2, c2, q2, hs2, hl2⟩ := hB.ops
  obtain ⟨a15, c15, q15, hs15, hl15⟩ := hB.deps
  obtain ⟨nv, hnv, hcc⟩ := h
  have HW : Hid (W = ((w.alloc (.cells gr 73)).alloc (.cells #[.int .i64 f.kind, .int .i64 f.node, .int .i64 f.id, .slice a3 f.ops.length c3, .slice a4 f.deps.length c4, .slice a5 f.ats.length c5, .slice a6 f.vals.length c6] 43)).alloc (.cells zr 73)) := hW
  have HR1 : Hid (W.heap[w.heap.size + 1]? = some (.cells #[.int .i64 f.kind, .int .i64 f.node, .int .i64 f.id, .slice a3 f.ops.length c3, .slice a4 f.deps.length c4, .slice a5 f.ats.length c5, .slice a6 f.vals.length c6] 43 (0, 0))) := r1
  have HR2 : Hid (W.heap[w.heap.size + 2]? = some (.cells zr 73 (0, 0))) := r2
  have Hbw : Hid (Below w.heap.size w W) := hb
  have HC1 : Hid (∀ wx, wx = W.drew → Calls Try.prog 91 #[.slice a2 c.ops.length c2] wx fun e w' => ∃ ao co, e = .returned (.slice ao c.ops.length co) ∧ Hid (w'.ownsRow W.heap.size 108 3 (.slice ao c.ops.length co) c.ops.length (opsCells c.ops)) ∧ Hid (Below W.heap.size W w') ∧ w'.cell? ⟨w.heap.size, 15, none⟩ = some (.slice a15 c.deps.length c15)) := by
    rintro wx rfl
    refine (cloneO_any a2 c2 c.ops _ (hs2.later (Below.drew (Below.refl _ _))) hl2).mono ?_
    rintro e w1 ⟨v, rfl, hv, _, hb1⟩
    obtain ⟨ao, co, rfl, _, _⟩ := own_form hv
    have hb1' : Below W.heap.size W w1 := (Below.drew (Below.refl _ _)).trans hb1
    exact ⟨ao, co, rfl, hv, hb1', by rw [hb1'.cell (p := ⟨w.heap.size, 15, none⟩) (show w.heap.size < W.heap.size by omega)]; exact q15⟩
  have HC2 : Hid (∀ wx, Below W.heap.size W wx → Calls Try.prog 86 #[.slice a15 c.deps.length c15] wx fun e w' => ∃ ad cd, e = .returned (.slice ad c.deps.length cd) ∧ Hid (w'.ownsRow wx.heap.size 3 1 (.slice ad c.deps.length cd) c.deps.length (intCells c.deps)) ∧ Hid (Below wx.heap.size wx w') ∧
      w'.cell? ⟨w.heap.size, 2, none⟩ = some (.slice a2 c.ops.length c2) ∧ w'.cell? ⟨w.heap.size, 15, none⟩ = some (.slice a15 c.deps.length c15) ∧ w'.frozen? ⟨w.heap.size, 2, none⟩ = false ∧ w'.frozen? ⟨w.heap.size, 15, none⟩ = false) := by
    intro wx hx
    refine (cloneI_any a15 c15 c.deps wx (hs15.later hx) hl15).mono ?_
    rintro e w1 ⟨v, rfl, hv, _, hb1⟩
    obtain ⟨ad, cd, rfl, _, _⟩ := own_form hv
    have hz := hx.size
    have hrow : w1.heap[w.heap.size]? = some (.cells gr 73 (0, 0)) := by rw [hb1.block _ (by omega), hx.block _ (by omega)]; exact r0
    refine ⟨ad, cd, rfl, hv, hb1, ?_, ?_, frozen_of_row _ _ _ _ _ hrow, frozen_of_row _ _ _ _ _ hrow⟩
    · rw [hb1.cell (p := ⟨w.heap.size, 2, none⟩) (show w.heap.size < wx.heap.size by omega), hx.cell (p := ⟨w.heap.size, 2, none⟩) (show w.heap.size < W.heap.size by omega)]; exact q2
    · rw [hb1.cell (p := ⟨w.heap.size, 15, none⟩) (show w.heap.size < wx.heap.size by omega), hx.cell (p := ⟨w.heap.size, 15, none⟩) (show w.heap.size < W.heap.size by omega)]; exact q15
  have HPT : Hid (∀ w1 w2 ao co ad cd, w1.ownsRow W.heap.size 108 3 (.slice ao c.ops.length co) c.ops.length (opsCells c.ops) → Below W.heap.size W w1 → w2.ownsRow w1.heap.size 3 1 (.slice ad c.deps.length cd) c.deps.length (intCells c.deps) → Below w1.heap.size w1 w2 →
      ∃ mv, PBox (w.heap.size + 3) w.heap.size ((w2.setCell ⟨w.heap.size, 2, none⟩ (.slice ao c.ops.length co)).setCell ⟨w.heap.size, 15, none⟩ (.slice ad c.deps.length cd)) mv c) := by
    intro w1 w2 ao co ad cd h1 hb1 h2 hb2
    have hz1 := hb1.size
    have hz2 := hb2.size
    have i1 : IsO (w.heap.size + 3 ≤ ·) w2 (.slice ao c.ops.length co) c.ops := ((IsO.of_owns h1 hl2).later (SameOn.of_size hb2)).mono (fun b _ hb => by have := hb.1; show w.heap.size + 3 ≤ b; omega)
    have i2 : IsI (w.heap.size + 3 ≤ ·) w2 (.slice ad c.deps.length cd) c.deps := (IsI.of_owns h2 hl15).mono (fun b _ hb => by have := hb.1; show w.heap.size + 3 ≤ b; omega)
    refine ⟨putV (putV nv 2 (.slice ao c.ops.length co)) 15 (.slice ad c.deps.length cd), ?_, ?_, by omega⟩
    · rw [heap_setCell_same _ _ _ _ _ _ (heap_setCell_same w2 w.heap.size 2 _ _ _ (show w2.heap[w.heap.size]? = some (.cells gr 73 (0, 0)) by rw [hb2.block _ (by omega), hb1.block _ (by omega)]; exact r0)), hnv, rowF_set, rowF_set]
      rfl
    · have hoth : SameOn (w.heap.size + 3 ≤ ·) w2 ((w2.setCell ⟨w.heap.size, 2, none⟩ (.slice ao c.ops.length co)).setCell ⟨w.heap.size, 15, none⟩ (.slice ad c.deps.length cd)) := fun k _ hk => by
        have : w.heap.size + 3 ≤ k := hk
        rw [Below.heap_setCell _ _ _ _ (show k ≠ w.heap.size by omega), Below.heap_setCell _ _ _ _ (show k ≠ w.heap.size by omega)]
      refine CaseC.later ?_ hoth
      exact ⟨hcc.begun, hcc.fixed, i1, fun i hi => by unfold putV; rw [if_neg (by omega), if_neg (by omega)]; exact hcc.told i hi, fun i hi => by unfold putV; rw [if_neg (by omega), if_neg (by omega)]; exact hcc.known i hi, i2, fun i hi => by unfold putV; rw [if_neg (by omega), if_neg (by omega)]; exact hcc.has i hi, fun i hi => by unfold putV; rw [if_neg (by omega), if_neg (by omega)]; exact hcc.vals i hi⟩
  clear hW r0 r1 r2 hB hs2 hs15 hb hzr hnv hcc
  go_enter Try.func54, Try.ntmps54
  go_upto_region 1 with fail
  rw [HZL.out, ← HW.out]
  clear HW HZL
  go_region_with (first
    | (go_at_call 91; refine (HC1.out _ rfl).mono ?_; rintro e w1 ⟨ao, co, rfl, HO1, HB1, k15⟩)
    | (go_at_call 86; refine (HC2.out w1 HB1.out).mono ?_; rintro e w2 ⟨ad, cd, rfl, HO2, HB2, j2, j15, g2, g15⟩))
  all_goals
    obtain ⟨mv, hmv⟩ := HPT.out w1 w2 ao co ad cd HO1.out HB1.out HO2.out HB2.out
    obtain ⟨X, hX⟩ : ∃ X, X = (w2.setCell ⟨w.heap.size, 2, none⟩ (.slice ao c.ops.length co)).setCell ⟨w.heap.size, 15, none⟩ (.slice ad c.deps.length cd) := ⟨_, rfl⟩
    have hzX : w.heap.size + 3 ≤ X.heap.size := by
      have e1 := HB1.out.size
      have e2 := HB2.out.size
      have e3 : X.heap.size = w2.heap.size := by rw [hX]; simp [World.setCell]
      omega
    have HGX : Hid (W.grownBy X (some w.heap.size)) := by
      unfold Hid
      rw [hX]
      exact grown_put_same (grown_put_same (grownR_below (grownR_below (grownR_refl _ _) HB1.out) HB2.out) _ _) _ _
    have HX : Hid (X = (w2.setCell ⟨w.heap.size, 2, none⟩ (.slice ao c.ops.length co)).setCell ⟨w.heap.size, 15, none⟩ (.slice ad c.deps.length cd)) := hX
    rw [← hX] at hmv
    have HP : Hid (PBox (w.heap.size + 3) w.heap.size X mv c) := hmv
    obtain ⟨hr, ehr⟩ : ∃ hr, hr = rowF 24 mv := ⟨_, rfl⟩
    have rX : X.heap[w.heap.size]? = some (.cells hr 73 (0, 0)) := by rw [ehr]; exact hmv.row
    have tX : RowT Try.prog 73 hr.size := by rw [ehr]; exact hmv.box.case.row
    have HCX : Hid (CaseV X hr c) := by unfold Hid; rw [ehr]; exact hmv.box.case
    have HHR : Hid (hr = rowF 24 mv) := ehr
    have rF : X.heap[w.heap.size + 1]? = some (.cells #[.int .i64 f.kind, .int .i64 f.node, .int .i64 f.id, .slice a3 f.ops.length c3, .slice a4 f.deps.length c4, .slice a5 f.ats.length c5, .slice a6 f.vals.length c6] 43 (0, 0)) := by rw [HGX.out.block _ (by omega) (fun e => by have := Option.some.inj e; omega)]; exact HR1.out
    have HFX : Hid (FrameB w.heap.size X (.agg #[.int .i64 f.kind, .int .i64 f.node, .int .i64 f.id, .slice a3 f.ops.length c3, .slice a4 f.deps.length c4, .slice a5 f.ats.length c5, .slice a6 f.vals.length c6]) f) := HFB.out.later (below_row Hbw.out HGX.out (by omega))
    clear hX hmv ehr HO1 HO2 HB1 HB2 j2 j15 g2 g15 k15
    rw [← HX.out]
    clear HX
    go_wp2_with (first
      | ((with_reducible apply wpl_row rX); (· rfl); (· exact tX); (· rfl); simp only [Act.put, List.setIfInBounds_toArray, List.set_cons_zero, List.set_cons_succ])
      | ((with_reducible apply wpl_row rF); (· rfl); (· exact row_frame); (· rfl); simp only [Act.put, List.setIfInBounds_toArray, List.set_cons_zero, List.set_cons_succ])
      | fail)
    refine (p_refusal hr c id _ f X HCX.out HFX.out.v).mono ?_
    rintro e w3 ⟨rfl, hb3⟩
    have HP3 : Hid (PBox (w.heap.size + 3) w.heap.size w3 mv c) := HP.out.later hb3
    have HG3 : Hid (W.grownBy w3 (some w.heap.size)) := grownR_below HGX.out hb3
    have HF3 : Hid (FrameB w.heap.size w3 (.agg #[.int .i64 f.kind, .int .i64 f.node, .int .i64 f.id, .slice a3 f.ops.length c3, .slice a4 f.deps.length c4, .slice a5 f.ats.length c5, .slice a6 f.vals.length c6]) f) := HFX.out.later (hb3.mono (by omega))
    have hz3 : w.heap.size + 3 ≤ w3.heap.size := by have := hb3.size; omega
    have r3 : w3.heap[w.heap.size]? = some (.cells hr 73 (0, 0)) := by rw [HHR.out]; exact HP3.out.row
    have rF3 : w3.heap[w.heap.size + 1]? = some (.cells #[.int .i64 f.kind, .int .i64 f.node, .int .i64 f.id, .slice a3 f.ops.length c3, .slice a4 f.deps.length c4, .slice a5 f.ats.length c5, .slice a6 f.vals.length c6] 43 (0, 0)) := by rw [hb3.block _ (by omega)]; exact rF
    have rZ3 : w3.heap[w.heap.size + 2]? = some (.cells zr 73 (0, 0)) := by rw [HG3.out.block _ (by omega) (fun e => by have := Option.some.inj e; omega)]; exact HR2.out
    have k03 : w3.cell? ⟨w.heap.size + 1, 0, none⟩ = some (.int .i64 f.kind) := by rw [cell_of_row _ _ _ _ _ _ rF3]; rfl
    clear hb3 rX rF HP HGX HFX
    have HCall := p_takeDone (w.heap.size + 3) w.heap.size mv c _ f w3 HP3.out HF3.out hg
    obtain ⟨d, hd⟩ : ∃ d, d = (if c.fixed then c.dones (ofL f.node) (f.ats.zip f.vals) else c) := ⟨_, rfl⟩
    rw [← hd] at HCall
    have HCall : Hid _ := HCall
    have HD : Hid (d = (if c.fixed then c.dones (ofL f.node) (f.ats.zip f.vals) else c)) := hd
    clear hd
    go_wp2_with (first
      | ((with_reducible apply wpl_row rF3); (· rfl); (· exact row_frame); (· rfl); simp only [Act.put, List.setIfInBounds_toArray, List.set_cons_zero, List.set_cons_succ])
      | fail)
    refine Calls.mono HCall.out ?_
    rintro e w4 ⟨rfl, nv4, hP4, hG4⟩
    have HP4 : Hid (PBox (w.heap.size + 3) w.heap.size w4 nv4 d) := hP4
    have HG4 : Hid (W.grownBy w4 (some w.heap.size)) := grownR_trans HG3.out hG4
    have hz4 : w3.heap.size ≤ w4.heap.size := hG4.size
    obtain ⟨hs, ehs⟩ : ∃ hs, hs = rowF 24 nv4 := ⟨_, rfl⟩
    have HHS : Hid (hs = rowF 24 nv4) := ehs
    clear hP4 hG4 ehs r3 rF3 rZ3 k03 HCall HP3
    have r9 : w4.heap[w.heap.size]? = some (.cells hs 73 (0, 0)) := by rw [HHS.out]; exact HP4.out.row
    have t9 : RowT Try.prog 73 hs.size := by rw [HHS.out]; exact HP4.out.box.case.row
    have i9 : (Try.prog.info? 73).map (·.size) = some hs.size := by rw [HHS.out]; exact HP4.out.box.case.info
    have s9 : zr.size = hs.size := by rw [HHS.out, rowF_size]; exact hzz
    have o9 : hs.all (·.oneCell') = true := by rw [HHS.out]; exact HP4.out.box.case.one
    have rZ9 : w4.heap[w.heap.size + 2]? = some (.cells zr 73 (0, 0)) := by rw [HG4.out.block _ (by omega) (fun e => by have := Option.some.inj e; omega)]; exact HR2.out
    go_wp2_with (first
      | ((with_reducible apply wpl_row r9); (· rfl); (· exact t9); (· rfl); simp only [Act.put, List.setIfInBounds_toArray, List.set_cons_zero, List.set_cons_succ])
      | (refine wpList_store_row rfl 73 _ _ rfl (w.heap.size + 2) hs rfl rfl 73 _ rZ9 i9 s9 o9 ?_)
      | fail)
    refine bodyPost_ret (v := .tuple #[.agg hs, .slice none 0 0, .int .i64 0]) (results_row2 Try.results54 _ _ (w.heap.size + 2) 73 hs (0, 0) _ rfl (heap_setRow rZ9) Try.underlying73 rfl i9 _ _ rfl rfl) rfl ⟨hs, .slice none 0 0, by rw [HE.out], by rw [HE.out]; have hh := HP4.out.out hs; rw [← HHS.out, HD.out] at hh; exact hh, by rw [HE.out]; exact FramesV.nil _ _, setRow_below (below_row Hbw.out HG4.out (by omega)) (by omega) _⟩

end Go.Proofs.Ytkoefoccbjhoiab
