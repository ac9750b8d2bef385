/-
  The statements' own look whether post answers at all.
  A list of frames in memory.
  The contract of the document's own SameFrames, at lists that are alike.
  The walk of PostTakes.
  How a frame that came in is read: its numbers, and where its lists lie.
  The room that a list down in a datum takes.
  How a graph that came in is read: which are known, and where its lists lie.
  How a case and a transaction that came in are read, with the room that their lists take.
  How a frame that came in is read, with the room that its lists take.
-/
import Derived.Test.YtkoefoccbjhoiabPta5
import Derived.Test.YtkoefoccbjhoiabPta4
import Derived.Test.YtkoefoccbjhoiabPta10
import Derived.Test.YtkoefoccbjhoiabPta16
import Derived.Test.YtkoefoccbjhoiabPta17
import Derived.Test.YtkoefoccbjhoiabPta2
import Derived.Lib.SmallJoins
import Derived.ChangeMaps5
import Derived.SizedLaws
import Derived.Test.YtkoefoccbjhoiabPta1
namespace Go.Proofs.Ytkoefoccbjhoiab
open Go.RowKit

def post3 : List FrameL := [⟨1, 0, 3, [(1, 2, 0)], [], [], []⟩, ⟨1, 1, 3, [(1, 2, 0)], [], [], []⟩, ⟨1, 2, 3, [(1, 2, 0)], [], [], []⟩]
theorem post3_eq : (beginC 3 [(1, 2, 0)]).2.1 = post3 := by rfl
theorem post3_code : (beginC 3 [(1, 2, 0)]).2.2 = 0 := by rfl
theorem post3_begun : (beginC 3 [(1, 2, 0)]).1.begun = true := by rfl

set_option maxRecDepth 100000 in
set_option maxHeartbeats 1000000 in
theorem keep_posts (w : World) : Calls Try.prog 56 #[] w fun e w' => e = .returned (.bool true) ∧ Below w.heap.size w w' := by
  obtain ⟨zr, hzr⟩ : ∃ zr, zr = rowF 24 zcv := ⟨_, rfl⟩
  have HZ0 : Hid ((Try.prog.info? 73).map (·.zero) = some (some (.agg zr))) := by unfold Hid; rw [hzr]; exact Try.zeroCase
  have hzz : zr.size = 24 := by rw [hzr, rowF_size]
  obtain ⟨W, hW⟩ : ∃ W, W = w.alloc (.cells #[.int .i64 1, .int .i64 2, .int .i64 0] 108) := ⟨_, rfl⟩
  have hb : Below w.heap.size w W := by rw [hW]; exact (Below.refl _ _).alloc (Nat.le_refl _) _
  have r0 : W.heap[w.heap.size]? = some (.cells #[.int .i64 1, .int .i64 2, .int .i64 0] 108 (0, 0)) := by rw [hW]; exact heap_new _ _
  have hsl : SlOps W (some ⟨w.heap.size, 0, none⟩) 1 [(1, 2, 0)] := by
    refine ⟨Or.inr ⟨w.heap.size, 0, rfl, (Array.getElem?_eq_some_iff.1 r0).1, fun i hi => ?_⟩, by decide, by decide, fun e => by cases e⟩
    have : i = 0 := by simp at hi; exact hi
    subst this
    exact ⟨by rw [cell_of_row _ _ _ _ _ _ r0]; rfl, by rw [cell_of_row _ _ _ _ _ _ r0]; rfl, by rw [cell_of_row _ _ _ _ _ _ r0]; rfl⟩
  have HW : Hid (W = w.alloc (.cells #[.int .i64 1, .int .i64 2, .int .i64 0] 108)) := hW
  have HB : Hid (Calls Try.prog 43 #[.agg #[.int .i64 3, .slice (some ⟨w.heap.size, 0, none⟩) 1 1]] W fun e w' => ∃ gr x, e = .returned (.tuple #[.agg gr, x, .int .i64 0]) ∧ CaseV w' gr (beginC 3 [(1, 2, 0)]).1 ∧ FramesV W.heap.size w' x post3 ∧ Below W.heap.size W w') := by
    have := p_begin 3 (some ⟨w.heap.size, 0, none⟩) 1 [(1, 2, 0)] W hsl
    rw [post3_eq, post3_code] at this
    exact this
  have hzW : w.heap.size ≤ W.heap.size := hb.size
  clear hW r0 hsl hzr
  go_enter Try.func56, Try.ntmps56
  go_wp2_with fail
  rw [← HW.out]
  clear HW
  refine Calls.mono HB.out ?_
  rintro e w1 ⟨gr, x, rfl, hcv, hfr, hb1⟩
  have rowZ : (w1.alloc (.cells zr 73)).heap[w1.heap.size]? = some (.cells zr 73 (0, 0)) := heap_new _ _
  have i9 := hcv.info
  have o9 := hcv.one
  have s9 : zr.size = gr.size := by rw [hzz, hcv.size]
  obtain ⟨X, hX⟩ : ∃ X, X = (w1.alloc (.cells zr 73)).setRow w1.heap.size gr := ⟨_, rfl⟩
  have hbX : Below w1.heap.size w1 X := by rw [hX]; exact setRow_below ((Below.refl _ _).alloc (Nat.le_refl _) _) (Nat.le_refl _) _
  have hbox : InBox w1.heap.size X gr (beginC 3 [(1, 2, 0)]).1 := ⟨by rw [hX]; exact heap_setRow rowZ, hcv.later hbX⟩
  have q0 : X.cell? ⟨w1.heap.size, 0, none⟩ = some (.bool true) := by rw [hbox.begun, post3_begun]
  obtain ⟨a, cap, ex⟩ := hfr.form
  have hlen : post3.length = 3 := rfl
  rw [ex] at hfr
  obtain ⟨g, cs, ea, hg, hcs, hc7, hfv⟩ := (hfr.later hbX).at (i := 2) (by decide)
  obtain ⟨b3, d3, b4, d4, b5, d5, b6, d6, ecs, _⟩ := hfv
  have k15 : X.cell? ⟨g, 15, none⟩ = some (.int .i64 2) := by
    have h1 : cs[1]? = some (.int .i64 2) := by
      have : cs.toArray[1]? = some (.int .i64 2) := by
        have e2 := congrArg (fun v : Value => match v with | .agg a => a[1]? | _ => none) ecs
        exact e2
      simpa using this
    exact hcs 1 _ h1
  have HbF : Hid (Below w.heap.size w X) := (hb.trans (hb1.mono hzW)).trans (hbX.mono (by have := hb1.size; omega))
  subst ea
  rw [hlen] at ex
  subst ex
  have HX : Hid (X = (w1.alloc (.cells zr 73)).setRow w1.heap.size gr) := hX
  clear hX hbox hfr hcs hcv hbX ecs
  go_upto_region 2 with (first
    | (refine wpList_alloc_as rfl 73 rfl zr HZ0.out ?_)
    | (refine wpList_store_row rfl 73 _ _ rfl w1.heap.size gr rfl rfl 73 _ rowZ i9 s9 o9 ?_)
    | fail)
  rw [← HX.out]
  clear HX
  go_wp2
  go_ret
  exact ⟨rfl, HbF.out⟩

set_option maxRecDepth 100000 in
set_option maxHeartbeats 1000000 in
theorem law_posts (w : World) : Calls Try.prog 52 #[] w fun e w' => e = .returned (.bool true) ∧ Below w.heap.size w w' := by
  obtain ⟨zr, hzr⟩ : ∃ zr, zr = rowF 24 zcv := ⟨_, rfl⟩
  have HZ0 : Hid ((Try.prog.info? 73).map (·.zero) = some (some (.agg zr))) := by unfold Hid; rw [hzr]; exact Try.zeroCase
  have hzz : zr.size = 24 := by rw [hzr, rowF_size]
  obtain ⟨W, hW⟩ : ∃ W, W = w.alloc (.cells #[.int .i64 1, .int .i64 2, .int .i64 0] 108) := ⟨_, rfl⟩
  have hb : Below w.heap.size w W := by rw [hW]; exact (Below.refl _ _).alloc (Nat.le_refl _) _
  have r0 : W.heap[w.heap.size]? = some (.cells #[.int .i64 1, .int .i64 2, .int .i64 0] 108 (0, 0)) := by rw [hW]; exact heap_new _ _
  have hsl : SlOps W (some ⟨w.heap.size, 0, none⟩) 1 [(1, 2, 0)] := by
    refine ⟨Or.inr ⟨w.heap.size, 0, rfl, (Array.getElem?_eq_some_iff.1 r0).1, fun i hi => ?_⟩, by decide, by decide, fun e => by cases e⟩
    have : i = 0 := by simp at hi; exact hi
    subst this
    exact ⟨by rw [cell_of_row _ _ _ _ _ _ r0]; rfl, by rw [cell_of_row _ _ _ _ _ _ r0]; rfl, by rw [cell_of_row _ _ _ _ _ _ r0]; rfl⟩
  have HW : Hid (W = w.alloc (.cells #[.int .i64 1, .int .i64 2, .int .i64 0] 108)) := hW
  have HB : Hid (Calls Try.prog 43 #[.agg #[.int .i64 3, .slice (some ⟨w.heap.size, 0, none⟩) 1 1]] W fun e w' => ∃ gr x, e = .returned (.tuple #[.agg gr, x, .int .i64 0]) ∧ CaseV w' gr (beginC 3 [(1, 2, 0)]).1 ∧ FramesV W.heap.size w' x post3 ∧ Below W.heap.size W w') := by
    have := p_begin 3 (some ⟨w.heap.size, 0, none⟩) 1 [(1, 2, 0)] W hsl
    rw [post3_eq, post3_code] at this
    exact this
  have hzW : w.heap.size ≤ W.heap.size := hb.size
  clear hW r0 hsl hzr
  go_enter Try.func52, Try.ntmps52
  go_wp2_with fail
  rw [← HW.out]
  clear HW
  refine Calls.mono HB.out ?_
  rintro e w1 ⟨gr, x, rfl, hcv, hfr, hb1⟩
  have rowZ : (w1.alloc (.cells zr 73)).heap[w1.heap.size]? = some (.cells zr 73 (0, 0)) := heap_new _ _
  have i9 := hcv.info
  have o9 := hcv.one
  have s9 : zr.size = gr.size := by rw [hzz, hcv.size]
  obtain ⟨X, hX⟩ : ∃ X, X = (w1.alloc (.cells zr 73)).setRow w1.heap.size gr := ⟨_, rfl⟩
  have hbX : Below w1.heap.size w1 X := by rw [hX]; exact setRow_below ((Below.refl _ _).alloc (Nat.le_refl _) _) (Nat.le_refl _) _
  have hbox : InBox w1.heap.size X gr (beginC 3 [(1, 2, 0)]).1 := ⟨by rw [hX]; exact heap_setRow rowZ, hcv.later hbX⟩
  have q0 : X.cell? ⟨w1.heap.size, 0, none⟩ = some (.bool true) := by rw [hbox.begun, post3_begun]
  obtain ⟨a, cap, ex⟩ := hfr.form
  have hlen : post3.length = 3 := rfl
  rw [ex] at hfr
  obtain ⟨g, cs, ea, hg, hcs, hc7, hfv⟩ := (hfr.later hbX).at (i := 2) (by decide)
  obtain ⟨b3, d3, b4, d4, b5, d5, b6, d6, ecs, _⟩ := hfv
  have k15 : X.cell? ⟨g, 15, none⟩ = some (.int .i64 2) := by
    have h1 : cs[1]? = some (.int .i64 2) := by
      have : cs.toArray[1]? = some (.int .i64 2) := by
        have e2 := congrArg (fun v : Value => match v with | .agg a => a[1]? | _ => none) ecs
        exact e2
      simpa using this
    exact hcs 1 _ h1
  have HbF : Hid (Below w.heap.size w X) := (hb.trans (hb1.mono hzW)).trans (hbX.mono (by have := hb1.size; omega))
  subst ea
  rw [hlen] at ex
  subst ex
  have HX : Hid (X = (w1.alloc (.cells zr 73)).setRow w1.heap.size gr) := hX
  clear hX hbox hfr hcs hcv hbX ecs
  go_upto_region 2 with (first
    | (refine wpList_alloc_as rfl 73 rfl zr HZ0.out ?_)
    | (refine wpList_store_row rfl 73 _ _ rfl w1.heap.size gr rfl rfl 73 _ rowZ i9 s9 o9 ?_)
    | fail)
  rw [← HX.out]
  clear HX
  go_wp2
  go_ret
  exact ⟨rfl, HbF.out⟩

end Go.Proofs.Ytkoefoccbjhoiab

namespace Go.Proofs.Ytkoefoccbjhoiab
open Go.RowKit

/-- Where they lie. -/
def FrsIn (B : Nat) (w : World) (a : Option Addr) (fs : List FrameL) : Prop := fs = [] ∨ ∃ b off, a = some ⟨b, off, none⟩ ∧ b < B ∧ ∀ i, i < fs.length → ∃ cs, cs.length = 7 ∧ w.rangeAt b (off + i * 7) cs ∧ FrameV w (.agg cs.toArray) (fs.getD i zeroF)
theorem FramesV.frsIn {B : Nat} {w : World} {a : Option Addr} {cap : Nat} {fs : List FrameL} (h : FramesV B w (.slice a fs.length cap) fs) : FrsIn w.heap.size w a fs := by
  by_cases h0 : fs = []
  · exact Or.inl h0
  · have hp : 0 < fs.length := List.length_pos_iff.2 h0
    obtain ⟨g, _, ha, hg, _⟩ := h.at hp
    refine Or.inr ⟨g, 0, ha, hg, fun i hi => ?_⟩
    obtain ⟨g', cs, ha', _, hr, hl, hf⟩ := h.at hi
    rw [ha] at ha'
    cases ha'
    refine ⟨cs, hl, by rw [Nat.zero_add]; exact hr, ?_⟩
    have : fs.getD i zeroF = fs[i] := by simp [List.getD, hi]
    rw [this]
    exact hf

end Go.Proofs.Ytkoefoccbjhoiab

namespace Go.Proofs.Ytkoefoccbjhoiab
open Go.RowKit

theorem range_lat {w w' : World} {B c o : Nat} {cs : List Value} (h : w.rangeAt c o cs) (hb : Below B w w') (hc : c < B) : w'.rangeAt c o cs := fun j v hv => by
  rw [hb.cell (p := ⟨c, o + j, none⟩) hc]
  exact h j v hv

set_option maxRecDepth 100000 in
set_option maxHeartbeats 1000000 in
theorem ref_sameFrames_any (a : Option Addr) (cx : Nat) (a' : Option Addr) (cy : Nat) (fs : List FrameL) (w : World) (hl : fs.length ≤ maxLen) (h : FrsIn w.heap.size w a fs) (h' : FrsIn w.heap.size w a' fs) :
    Calls Try.prog 26 #[.slice a fs.length cx, .slice a' fs.length cy] w fun r w' => r = .returned (.bool true) ∧ Below w.heap.size w w' := by
  unfold maxLen at hl
  have H1 : Hid (FrsIn w.heap.size w a fs) := h
  have H2 : Hid (FrsIn w.heap.size w a' fs) := h'
  clear h h'
  go_enter Try.func26, Try.ntmps26
  go_wp2_with fail
  go_loopw [13] (fun i wr => ∃ k : Nat, k ≤ fs.length ∧ i = .int .i64 k ∧ Below w.heap.size w wr) (fun i _ => fs.length - (intOf i).toNat)
  case atStart => exact ⟨0, Nat.zero_le _, rfl, Below.refl _ _⟩
  case round =>
    obtain ⟨i, hi, rfl, hB⟩ := hrel
    by_cases hlt : i < fs.length
    · rcases H1.out with e | ⟨g1, o1, rfl, hg1, hc1⟩
      · rw [e] at hlt; simp at hlt
      rcases H2.out with e | ⟨g2, o2, rfl, hg2, hc2⟩
      · rw [e] at hlt; simp at hlt
      obtain ⟨ca, hla, ra0, hva⟩ := hc1 i hlt
      obtain ⟨cb, hlb, rb0, hvb⟩ := hc2 i hlt
      have ra := range_lat ra0 hB hg1
      have rb := range_lat rb0 hB hg2
      have hz := hB.size
      have HVa : Hid (FrameV wr (.agg ca.toArray) (fs.getD i zeroF)) := hva.later hB
      have HVb : Hid (FrameV wr (.agg cb.toArray) (fs.getD i zeroF)) := hvb.later hB
      have hsa : (Try.prog.info? 43).map (·.size) = some ca.length := by rw [hla]; exact Try.infoFrame7
      have hsb : (Try.prog.info? 43).map (·.size) = some cb.length := by rw [hlb]; exact Try.infoFrame7
      clear hva hvb hla hlb hc1 hc2 ra0 rb0
      go_wp2_with fail
      have HRa : Hid (∀ wx, Below wr.heap.size wr wx → wx.rangeAt g1 (o1 + i * 7) ca) := fun wx hx => range_lat ra hx (by omega)
      have HRb : Hid (∀ wx, Below wr.heap.size wr wx → wx.rangeAt g2 (o2 + i * 7) cb) := fun wx hx => range_lat rb hx (by omega)
      clear ra rb
      refine wp_region_held_drew (S := fun w' => Below wr.heap.size wr w') (by kernel_rfl) ((Below.refl _ _).drew) ?_
      intro hH
      refine wpAnyH_takeD (i := 0) (d := some 16) (v := .slice (some ⟨g1, o1, none⟩) fs.length cx) rfl rfl (by kernel_rfl) (by kernel_rfl) (by kernel_rfl) (fun _ _ _ h => h) (Or.inl ⟨by rfl, fun _ _ => by go_simp⟩) hH ?_
      simp only [Act.put, List.setIfInBounds_toArray, List.set_cons_zero, List.set_cons_succ]
      refine wpAnyH_takeD (i := 1) (d := some 17) (v := .int .i64 i) rfl rfl (by kernel_rfl) (by kernel_rfl) (by kernel_rfl) (fun _ _ _ h => h) (Or.inl ⟨by rfl, fun _ _ => by go_simp⟩) hH ?_
      simp only [Act.put, List.setIfInBounds_toArray, List.set_cons_zero, List.set_cons_succ]
      refine wpAnyH_takeD (i := 2) (d := some 18) (v := .pointer (some ⟨g1, o1 + i * 7, none⟩)) rfl rfl (by kernel_rfl) (by kernel_rfl) (by kernel_rfl) (fun _ _ _ h => h) (Or.inl ⟨by rfl, fun _ _ => by go_simp⟩) hH ?_
      simp only [Act.put, List.setIfInBounds_toArray, List.set_cons_zero, List.set_cons_succ]
      refine wpAnyH_takeD (i := 3) (d := some 19) (v := .agg ca.toArray) rfl rfl (by kernel_rfl) (by kernel_rfl) (by kernel_rfl) (fun _ _ _ h => h) (yieldsIf_load_mid (by rfl) _ _ rfl _ _ rfl ca _ (HRa.out) Try.underlying43 rfl hsa) hH ?_
      simp only [Act.put, List.setIfInBounds_toArray, List.set_cons_zero, List.set_cons_succ]
      refine wpAnyH_takeD (i := 4) (d := some 20) (v := .slice (some ⟨g2, o2, none⟩) fs.length cy) rfl rfl (by kernel_rfl) (by kernel_rfl) (by kernel_rfl) (fun _ _ _ h => h) (Or.inl ⟨by rfl, fun _ _ => by go_simp⟩) hH ?_
      simp only [Act.put, List.setIfInBounds_toArray, List.set_cons_zero, List.set_cons_succ]
      refine wpAnyH_takeD (i := 5) (d := some 21) (v := .int .i64 i) rfl rfl (by kernel_rfl) (by kernel_rfl) (by kernel_rfl) (fun _ _ _ h => h) (Or.inl ⟨by rfl, fun _ _ => by go_simp⟩) hH ?_
      simp only [Act.put, List.setIfInBounds_toArray, List.set_cons_zero, List.set_cons_succ]
      refine wpAnyH_takeD (i := 6) (d := some 22) (v := .pointer (some ⟨g2, o2 + i * 7, none⟩)) rfl rfl (by kernel_rfl) (by kernel_rfl) (by kernel_rfl) (fun _ _ _ h => h) (Or.inl ⟨by rfl, fun _ _ => by go_simp⟩) hH ?_
      simp only [Act.put, List.setIfInBounds_toArray, List.set_cons_zero, List.set_cons_succ]
      refine wpAnyH_takeD (i := 7) (d := some 23) (v := .agg cb.toArray) rfl rfl (by kernel_rfl) (by kernel_rfl) (by kernel_rfl) (fun _ _ _ h => h) (yieldsIf_load_mid (by rfl) _ _ rfl _ _ rfl cb _ (HRb.out) Try.underlying43 rfl hsb) hH ?_
      simp only [Act.put, List.setIfInBounds_toArray, List.set_cons_zero, List.set_cons_succ]
      refine wpAnyH_ready (rs := [8]) (by kernel_rfl) (by simp) ?_
      refine AllReadyH.cons rfl (fun K hK => ?_) AllReadyH.nil
      go_simp
      refine (ref_sameFrame_any _ _ (fs.getD i zeroF) _ (HVa.out.later hH) (HVb.out.later hH)).mono ?_
      rintro r z2 ⟨rfl, hb2⟩
      go_wp2_with fail
      refine hK.out _ _ (hH.trans hb2) (fun hH2 => ?_)
      clear hK K hH
      have hH := hH2
      clear hH2 hb2
      refine wpAnyH_takeD (i := 9) (d := some 25) (v := .bool false) rfl rfl (by kernel_rfl) (by kernel_rfl) (by kernel_rfl) (fun _ _ _ h => h) (Or.inl ⟨by rfl, fun _ _ => by go_simp⟩) hH ?_
      simp only [Act.put, List.setIfInBounds_toArray, List.set_cons_zero, List.set_cons_succ]
      refine wpAnyH_done (by kernel_rfl) ?_ _
      have hB2 : Below w.heap.size w z2 := hB.trans (hH.mono hB.size)
      clear hH
      go_wp2
      go_roundw
      case rel => exact ⟨i + 1, by omega, by go_num, hB2⟩
      case measure => simp [intOf]; omega
    · go_wp2
      go_ret
      exact ⟨rfl, hB⟩

end Go.Proofs.Ytkoefoccbjhoiab

namespace Go.Proofs.Ytkoefoccbjhoiab
open Go.RowKit
set_option linter.unusedVariables false
set_option linter.unusedSimpArgs false

theorem wpc_alloc {P : Program} {w : World} {o : Oper} {a : Act} {K : Act → World → Prop} {Q : Exit → Act → World → Prop} (ty : TypeId) (ho : o.op = .alloc ty) (cs : Array Value) (hz : (P.info? ty).map (·.zero) = some (some (.agg cs))) (d : Option Tmp) (hd : o.dst = d)
    (h : K (a.put d (.pointer (some ⟨w.heap.size, 0, none⟩))) (w.alloc (.cells cs ty))) : o.wp P a w K Q := by
  cases hq : P.info? ty with
  | none => simp [hq] at hz
  | some i =>
    have hzz : i.zero = some (.agg cs) := by simpa [hq] using hz
    unfold Oper.wp execOp
    simp [ho, Instr.alloc, zeroValue, typeInfo, hq, hzz, newVar, newRow, Value.cells, go_sem]
    rw [hd]
    exact h
theorem caseG_set {lo p : Nat} {w : World} {gr r : Array Value} {c : CaseL} (h : CaseG lo w gr c) (hp : p < lo) : CaseV (w.setRow p r) gr c := by
  obtain ⟨nv, e, hc⟩ := h
  exact ⟨nv, e, (hc.later (w' := w.setRow p r) (fun b _ hb => setRow_other _ _ (by have hb' : lo ≤ b := hb; omega))).any⟩
theorem frames_set {lo p : Nat} {w : World} {r : Array Value} {x : Value} {fs : List FrameL} (h : FramesV lo w x fs) (hp : p < lo) : FramesV 0 (w.setRow p r) x fs :=
  (h.same (w' := w.setRow p r) (fun b _ hb => setRow_other _ _ (by omega))).mono (Nat.zero_le _)

set_option maxRecDepth 100000 in
set_option maxHeartbeats 8000000 in
theorem postTakes_any (nv : Nat → Value) (c : CaseL) (id : Int) (v : Value) (f : FrameL) (w : World) (hn : CaseC (· < w.heap.size) w nv c) (hf : FrameV w v f) (r3 : f.ops.length * 24 ≤ 140737488355328) (r4 : f.deps.length * 8 ≤ 140737488355328) (r5 : f.ats.length * 8 ≤ 140737488355328) (r6 : f.vals.length * 8 ≤ 140737488355328) :
    Calls Try.prog 13 #[.agg (rowF 24 nv), .int .i64 id, v] w fun e w' => e = .returned (.bool true) ∧ Below w.heap.size w w' := by
  obtain ⟨gr, hgr⟩ : ∃ gr, gr = rowF 24 nv := ⟨_, rfl⟩
  rw [← hgr]
  have hcv : CaseV w gr c := ⟨nv, hgr, hn⟩
  have HFV : Hid (∀ x, Below w.heap.size w x → FrameV x v f) := fun x hx => hf.later hx
  obtain ⟨a3, c3, a4, c4, a5, c5, a6, c6, rfl, _⟩ := hf
  obtain ⟨zr, hzr⟩ : ∃ zr, zr = rowF 24 zcv := ⟨_, rfl⟩
  have HZ0 : Hid ((Try.prog.info? 73).map (·.zero) = some (some (.agg zr))) := by unfold Hid; rw [hzr]; exact Try.zeroCase
  have hzz : zr.size = 24 := by rw [hzr, rowF_size]
  obtain ⟨W, hW⟩ : ∃ W, W = (w.alloc (.cells gr 73)).alloc (.cells #[.int .i64 f.kind, .int .i64 f.node, .int .i64 f.id, .slice a3 f.ops.length c3, .slice a4 f.deps.length c4, .slice a5 f.ats.length c5, .slice a6 f.vals.length c6] 43) := ⟨_, rfl⟩
  have hb : Below w.heap.size w W := by rw [hW]; exact ((Below.refl _ _).alloc (Nat.le_refl _) _).alloc (by rw [size_push]; omega) _
  have hzW : W.heap.size = w.heap.size + 2 := by rw [hW, size_push, size_push]
  obtain ⟨rC, rF⟩ := two_rows w (.cells gr 73) (.cells #[.int .i64 f.kind, .int .i64 f.node, .int .i64 f.id, .slice a3 f.ops.length c3, .slice a4 f.deps.length c4, .slice a5 f.ats.length c5, .slice a6 f.vals.length c6] 43)
  rw [← hW] at rC rF
  have HC0 : Hid (InBox w.heap.size W gr c) := ⟨rC, hcv.later hb⟩
  have HW : Hid (W = (w.alloc (.cells gr 73)).alloc (.cells #[.int .i64 f.kind, .int .i64 f.node, .int .i64 f.id, .slice a3 f.ops.length c3, .slice a4 f.deps.length c4, .slice a5 f.ats.length c5, .slice a6 f.vals.length c6] 43)) := hW
  have HRF : Hid (W.heap[w.heap.size + 1]? = some (.cells #[.int .i64 f.kind, .int .i64 f.node, .int .i64 f.id, .slice a3 f.ops.length c3, .slice a4 f.deps.length c4, .slice a5 f.ats.length c5, .slice a6 f.vals.length c6] 43 (0, 0))) := rF
  have Hbw : Hid (Below w.heap.size w W) := hb
  have tC := hcv.row
  clear hW hn hgr hzr hcv hb rF
  go_enter Try.func13, Try.ntmps13
  go_upto_region 1 with fail
  rw [← HW.out]
  clear HW
  go_wp2_with (first
    | ((with_reducible apply wpl_row rC); (· rfl); (· exact tC); (· rfl); simp only [Act.put, List.setIfInBounds_toArray, List.set_cons_zero, List.set_cons_succ])
    | fail)
  refine (ref_copyCase gr c W HC0.out.case).mono ?_
  rintro e w1 ⟨gr1, rfl, hcg1, hb1⟩
  have hz1 := hb1.size
  have rowZ : (w1.alloc (.cells zr 73)).heap[w1.heap.size]? = some (.cells zr 73 (0, 0)) := heap_new _ _
  have i9 := hcg1.v.info
  have o9 := hcg1.v.one
  have s9 : zr.size = gr1.size := by rw [hzz, hcg1.v.size]
  obtain ⟨D, hDe⟩ : ∃ A, A = w1.heap.size := ⟨_, rfl⟩
  obtain ⟨V, hX⟩ : ∃ X, X = (w1.alloc (.cells zr 73)).setRow w1.heap.size gr1 := ⟨_, rfl⟩
  have HX : Hid (V = (w1.alloc (.cells zr 73)).setRow w1.heap.size gr1) := hX
  have HDe : Hid (D = w1.heap.size) := hDe
  have hbX : Below w1.heap.size w1 V := by rw [hX]; exact setRow_below ((Below.refl _ _).alloc (Nat.le_refl _) _) (Nat.le_refl _) _
  have HDV : Hid (InBox D V gr1 c) := by rw [hDe]; exact ⟨by rw [hX]; exact heap_setRow rowZ, hcg1.v.later hbX⟩
  have hWV : Below W.heap.size W V := hb1.trans (hbX.mono hz1)
  have HCV : Hid (InBox w.heap.size V gr c) := HC0.out.later hWV
  have rFV : V.heap[w.heap.size + 1]? = some (.cells #[.int .i64 f.kind, .int .i64 f.node, .int .i64 f.id, .slice a3 f.ops.length c3, .slice a4 f.deps.length c4, .slice a5 f.ats.length c5, .slice a6 f.vals.length c6] 43 (0, 0)) := by rw [hWV.block _ (by omega)]; exact HRF.out
  have HwV : Hid (Below w.heap.size w V) := Hbw.out.trans (hWV.mono (by omega))
  have hzV := hWV.size
  have hDV := HDV.out.lt
  clear hX hDe hcg1 hb1 hbX hWV rC
  go_upto_region 2 with (first
    | (refine wpList_alloc_as rfl 73 rfl zr HZ0.out ?_)
    | (refine wpList_store_row rfl 73 _ _ rfl (w1.heap.size) gr1 rfl rfl 73 _ rowZ i9 s9 o9 ?_)
    | fail)
  rw [← HX.out, ← HDe.out]
  clear HX HDe rowZ i9 o9 s9
  obtain ⟨g1, hg1⟩ : ∃ g, g = gr1.toList := ⟨_, rfl⟩
  obtain ⟨g2, hg2⟩ : ∃ g, g = (#[.int .i64 f.kind, .int .i64 f.node, .int .i64 f.id, .slice a3 f.ops.length c3, .slice a4 f.deps.length c4, .slice a5 f.ats.length c5, .slice a6 f.vals.length c6] : Array Value).toList := ⟨_, rfl⟩
  have rD := HDV.out.range
  have zD := HDV.out.case.len
  have rG : V.rangeAt (w.heap.size + 1) 0 g2 := by rw [hg2]; exact range_of_list (by rw [Array.toArray_toList]; exact rFV)
  have zG : (Try.prog.info? 43).map (·.size) = some g2.length := by rw [hg2]; exact Try.infoFrame7
  have hFl : w.heap.size + 1 < V.heap.size := by omega
  have HFr : Hid (∀ wx, Below V.heap.size V wx → Calls Try.prog 22 #[.agg g2.toArray] wx fun e w' => ∃ vf, e = .returned vf ∧ FrameV w' vf f ∧ Below wx.heap.size wx w') := fun wx hx => by
    rw [hg2, Array.toArray_toList]
    refine (lawFrame_new _ f wx (HFV.out wx (HwV.out.trans (hx.mono (by omega)))) r3 r4 r5 r6).mono ?_
    rintro e w' ⟨vf, rfl, h1, _, h3⟩
    exact ⟨vf, rfl, h1, h3⟩
  have HTk : Hid (∀ wx vf, Below V.heap.size V wx → FrameV wx vf f → Calls Try.prog 54 #[.agg g1.toArray, .int .i64 id, vf] wx fun e w' => ∃ gr' x, e = .returned (.tuple #[.agg gr', x, .int .i64 (takeC c id f).2.2]) ∧ CaseG wx.heap.size w' gr' (takeC c id f).1 ∧ FramesV wx.heap.size w' x (takeC c id f).2.1 ∧ Below wx.heap.size wx w') := fun wx vf hx hvf => by
    rw [hg1, Array.toArray_toList]
    exact p_take gr1 c id vf f wx (HDV.out.later hx).case hvf
  rw [← hg1] at rD zD
  clear hg1 hg2
  simp only [Act.put, List.setIfInBounds_toArray, List.set_cons_zero, List.set_cons_succ]
  go_cut [8, 9, 10] from 11 (fun p8 v9 v10 wc => ∃ (p : Nat) (gr2 : Array Value) (x : Value), p8 = .pointer (some ⟨p, 0, none⟩) ∧ v9 = x ∧ v10 = .int .i64 (takeC c id f).2.2 ∧ wc.heap[p]? = some (.cells gr2 73 (0, 0)) ∧ CaseV wc gr2 (takeC c id f).1 ∧ FramesV 0 wc x (takeC c id f).2.1 ∧ Below V.heap.size V wc)
  case first =>
    refine wp_region_held_drew (S := fun w' => Below V.heap.size V w') (by kernel_rfl) (Below.drew (Below.refl _ _)) ?_
    intro hH
    refine wpAnyH_takeD (i := 0) (d := some 17) (v := .agg g1.toArray) rfl rfl (by kernel_rfl) (by kernel_rfl) (by kernel_rfl) (fun _ _ _ h => h) (yieldsIf_load_mid (by rfl) _ _ rfl _ _ rfl g1 _ (fun _ h => range_keep rD h hDV) Try.underlying73 rfl zD) hH ?_
    simp only [Act.put, List.setIfInBounds_toArray, List.set_cons_zero, List.set_cons_succ]
    refine wpAnyH_takeD (i := 1) (d := some 18) (v := .int .i64 id) rfl rfl (by kernel_rfl) (by kernel_rfl) (by kernel_rfl) (fun _ _ _ h => h) (Or.inl ⟨by rfl, fun _ _ => by go_simp⟩) hH ?_
    simp only [Act.put, List.setIfInBounds_toArray, List.set_cons_zero, List.set_cons_succ]
    refine wpAnyH_takeD (i := 2) (d := some 19) (v := .agg g2.toArray) rfl rfl (by kernel_rfl) (by kernel_rfl) (by kernel_rfl) (fun _ _ _ h => h) (yieldsIf_load_mid (by rfl) _ _ rfl _ _ rfl g2 _ (fun _ h => range_keep rG h hFl) Try.underlying43 rfl zG) hH ?_
    simp only [Act.put, List.setIfInBounds_toArray, List.set_cons_zero, List.set_cons_succ]
    refine wpAnyH_ready (rs := [3, 9]) (by kernel_rfl) (by simp) ?_
    refine AllReadyH.cons rfl (fun K hK => ?_) (AllReadyH.cons rfl (fun K hK => ?_) AllReadyH.nil)
    · go_simp
      refine Calls.mono (HFr.out _ hH) ?_
      rintro e wb ⟨vf, rfl, hvf, hbb⟩
      go_wp2_with fail
      refine hK.out _ _ (hH.trans (hbb.mono hH.size)) (fun hH2 => ?_)
      clear hK K hH
      have hH := hH2
      clear hH2
      have hzb := hbb.size
      have hzb2 : V.heap.size ≤ wb.heap.size := hzb
      refine wpAnyH_ready (rs := [4, 9]) (by kernel_rfl) (by simp) ?_
      refine AllReadyH.cons rfl (fun K hK => ?_) (AllReadyH.cons rfl (fun K hK => ?_) AllReadyH.nil)
      · go_simp
        refine Calls.mono (HTk.out _ _ hH (hvf)) ?_
        rintro e wc' ⟨gr2, x, rfl, hcg, hfx, hbc⟩
        go_wp2_with fail
        refine hK.out _ _ (hH.trans (hbc.mono hH.size)) (fun hH2 => ?_)
        clear hK K hH
        have hH := hH2
        clear hH2
        refine wpAnyH_takeD (i := 5) (d := some 16) (v := .tuple #[.agg gr2, x, .int .i64 (takeC c id f).2.2]) rfl rfl (by kernel_rfl) (by kernel_rfl) (by kernel_rfl) (fun _ _ _ h => h) (Or.inl ⟨by rfl, fun _ _ => by go_simp⟩) hH ?_
        simp only [Act.put, List.setIfInBounds_toArray, List.set_cons_zero, List.set_cons_succ]
        refine wpAnyH_takeD (i := 6) (d := some 22) (v := .agg gr2) rfl rfl (by kernel_rfl) (by kernel_rfl) (by kernel_rfl) (fun _ _ _ h => h) (Or.inl ⟨by rfl, fun _ _ => by go_simp⟩) hH ?_
        simp only [Act.put, List.setIfInBounds_toArray, List.set_cons_zero, List.set_cons_succ]
        refine wpAnyH_takeD (i := 7) (d := some 23) (v := x) rfl rfl (by kernel_rfl) (by kernel_rfl) (by kernel_rfl) (fun _ _ _ h => h) (Or.inl ⟨by rfl, fun _ _ => by go_simp⟩) hH ?_
        simp only [Act.put, List.setIfInBounds_toArray, List.set_cons_zero, List.set_cons_succ]
        refine wpAnyH_takeD (i := 8) (d := some 24) (v := .int .i64 (takeC c id f).2.2) rfl rfl (by kernel_rfl) (by kernel_rfl) (by kernel_rfl) (fun _ _ _ h => h) (Or.inl ⟨by rfl, fun _ _ => by go_simp⟩) hH ?_
        simp only [Act.put, List.setIfInBounds_toArray, List.set_cons_zero, List.set_cons_succ]
        have hzc := hbc.size
        refine wpAnyH_ready (rs := [9]) (by kernel_rfl) (by simp) ?_
        refine AllReadyH.cons rfl (fun K hK => ?_) AllReadyH.nil
        rw [if_pos (by rfl)]
        refine wpc_alloc 73 rfl zr HZ0.out (some 8) rfl ?_
        refine hK.out _ _ (hH.alloc hH.size _) (fun hH2 => ?_)
        clear hK K hH
        have hH := hH2
        clear hH2
        simp only [Act.put, List.setIfInBounds_toArray, List.set_cons_zero, List.set_cons_succ]
        have hrow : (wc'.alloc (.cells zr 73)).heap[wc'.heap.size]? = some (.cells zr 73 (0, 0)) := heap_new _ _
        have hVp : V.heap.size ≤ wc'.heap.size := by omega
        refine wpAnyH_ready (rs := [10]) (by kernel_rfl) (by simp) ?_
        refine AllReadyH.cons rfl (fun K hK => ?_) AllReadyH.nil
        rw [if_pos (by rfl)]
        refine wp_store_row 73 _ _ rfl (wc'.heap.size) gr2 rfl rfl 73 _ hrow hcg.v.info (by rw [hzz, hcg.v.size]) hcg.v.one ?_
        refine hK.out _ _ (setRow_below hH hVp _) (fun hH2 => ?_)
        clear hK K hH
        have hH := hH2
        clear hH2
        refine wpAnyH_takeD (i := 11) (d := some 9) (v := x) rfl rfl (by kernel_rfl) (by kernel_rfl) (by kernel_rfl) (fun _ _ _ h => h) (Or.inl ⟨by rfl, fun _ _ => by go_simp⟩) hH ?_
        simp only [Act.put, List.setIfInBounds_toArray, List.set_cons_zero, List.set_cons_succ]
        refine wpAnyH_takeD (i := 12) (d := some 10) (v := .int .i64 (takeC c id f).2.2) rfl rfl (by kernel_rfl) (by kernel_rfl) (by kernel_rfl) (fun _ _ _ h => h) (Or.inl ⟨by rfl, fun _ _ => by go_simp⟩) hH ?_
        simp only [Act.put, List.setIfInBounds_toArray, List.set_cons_zero, List.set_cons_succ]
        refine wpAnyH_done (by kernel_rfl) ?_ _
        go_wp2
        go_meet
        case rel => exact ⟨wc'.heap.size, gr2, x, rfl, rfl, rfl, heap_setRow hrow, hcg.v.later (setRow_below ((Below.refl _ _).alloc (Nat.le_refl _) _) (Nat.le_refl _) _), (hfx.later (setRow_below ((Below.refl _ _).alloc (Nat.le_refl _) _) (Nat.le_refl _) _)).mono (Nat.zero_le _), hH⟩
      · rw [if_pos (by rfl)]
        refine wpc_alloc 73 rfl zr HZ0.out (some 8) rfl ?_
        refine hK.out _ _ (hH.alloc hH.size _) (fun hH2 => ?_)
        clear hK K hH
        have hH := hH2
        clear hH2
        simp only [Act.put, List.setIfInBounds_toArray, List.set_cons_zero, List.set_cons_succ]
        refine wpAnyH_ready (rs := [4]) (by kernel_rfl) (by simp) ?_
        refine AllReadyH.cons rfl (fun K hK => ?_) AllReadyH.nil
        go_simp
        refine Calls.mono (HTk.out _ _ hH (hvf.later ((Below.refl _ _).alloc (Nat.le_refl _) _))) ?_
        rintro e wc' ⟨gr2, x, rfl, hcg, hfx, hbc⟩
        go_wp2_with fail
        refine hK.out _ _ (hH.trans (hbc.mono hH.size)) (fun hH2 => ?_)
        clear hK K hH
        have hH := hH2
        clear hH2
        refine wpAnyH_takeD (i := 5) (d := some 16) (v := .tuple #[.agg gr2, x, .int .i64 (takeC c id f).2.2]) rfl rfl (by kernel_rfl) (by kernel_rfl) (by kernel_rfl) (fun _ _ _ h => h) (Or.inl ⟨by rfl, fun _ _ => by go_simp⟩) hH ?_
        simp only [Act.put, List.setIfInBounds_toArray, List.set_cons_zero, List.set_cons_succ]
        refine wpAnyH_takeD (i := 6) (d := some 22) (v := .agg gr2) rfl rfl (by kernel_rfl) (by kernel_rfl) (by kernel_rfl) (fun _ _ _ h => h) (Or.inl ⟨by rfl, fun _ _ => by go_simp⟩) hH ?_
        simp only [Act.put, List.setIfInBounds_toArray, List.set_cons_zero, List.set_cons_succ]
        refine wpAnyH_takeD (i := 7) (d := some 23) (v := x) rfl rfl (by kernel_rfl) (by kernel_rfl) (by kernel_rfl) (fun _ _ _ h => h) (Or.inl ⟨by rfl, fun _ _ => by go_simp⟩) hH ?_
        simp only [Act.put, List.setIfInBounds_toArray, List.set_cons_zero, List.set_cons_succ]
        refine wpAnyH_takeD (i := 8) (d := some 24) (v := .int .i64 (takeC c id f).2.2) rfl rfl (by kernel_rfl) (by kernel_rfl) (by kernel_rfl) (fun _ _ _ h => h) (Or.inl ⟨by rfl, fun _ _ => by go_simp⟩) hH ?_
        simp only [Act.put, List.setIfInBounds_toArray, List.set_cons_zero, List.set_cons_succ]
        have hzc := hbc.size
        have hrow : wc'.heap[wb.heap.size]? = some (.cells zr 73 (0, 0)) := by rw [hbc.block _ (by rw [size_push]; omega)]; exact heap_new _ _
        have hVp : V.heap.size ≤ wb.heap.size := by omega
        refine wpAnyH_ready (rs := [10]) (by kernel_rfl) (by simp) ?_
        refine AllReadyH.cons rfl (fun K hK => ?_) AllReadyH.nil
        rw [if_pos (by rfl)]
        refine wp_store_row 73 _ _ rfl (wb.heap.size) gr2 rfl rfl 73 _ hrow hcg.v.info (by rw [hzz, hcg.v.size]) hcg.v.one ?_
        refine hK.out _ _ (setRow_below hH hVp _) (fun hH2 => ?_)
        clear hK K hH
        have hH := hH2
        clear hH2
        refine wpAnyH_takeD (i := 11) (d := some 9) (v := x) rfl rfl (by kernel_rfl) (by kernel_rfl) (by kernel_rfl) (fun _ _ _ h => h) (Or.inl ⟨by rfl, fun _ _ => by go_simp⟩) hH ?_
        simp only [Act.put, List.setIfInBounds_toArray, List.set_cons_zero, List.set_cons_succ]
        refine wpAnyH_takeD (i := 12) (d := some 10) (v := .int .i64 (takeC c id f).2.2) rfl rfl (by kernel_rfl) (by kernel_rfl) (by kernel_rfl) (fun _ _ _ h => h) (Or.inl ⟨by rfl, fun _ _ => by go_simp⟩) hH ?_
        simp only [Act.put, List.setIfInBounds_toArray, List.set_cons_zero, List.set_cons_succ]
        refine wpAnyH_done (by kernel_rfl) ?_ _
        go_wp2
        go_meet
        case rel => exact ⟨wb.heap.size, gr2, x, rfl, rfl, rfl, heap_setRow hrow, caseG_set hcg (by rw [size_push]; omega), frames_set hfx (by rw [size_push]; omega), hH⟩
    · rw [if_pos (by rfl)]
      refine wpc_alloc 73 rfl zr HZ0.out (some 8) rfl ?_
      refine hK.out _ _ (hH.alloc hH.size _) (fun hH2 => ?_)
      clear hK K hH
      have hH := hH2
      clear hH2
      simp only [Act.put, List.setIfInBounds_toArray, List.set_cons_zero, List.set_cons_succ]
      refine wpAnyH_ready (rs := [3]) (by kernel_rfl) (by simp) ?_
      refine AllReadyH.cons rfl (fun K hK => ?_) AllReadyH.nil
      go_simp
      refine Calls.mono (HFr.out _ hH) ?_
      rintro e wb ⟨vf, rfl, hvf, hbb⟩
      go_wp2_with fail
      refine hK.out _ _ (hH.trans (hbb.mono hH.size)) (fun hH2 => ?_)
      clear hK K hH
      have hH := hH2
      clear hH2
      have hzb0 : (V.heap.push (.cells zr 73)).size ≤ wb.heap.size := hbb.size
      have hzb : V.heap.size + 1 ≤ wb.heap.size := by simpa using hzb0
      refine wpAnyH_ready (rs := [4]) (by kernel_rfl) (by simp) ?_
      refine AllReadyH.cons rfl (fun K hK => ?_) AllReadyH.nil
      go_simp
      refine Calls.mono (HTk.out _ _ hH (hvf)) ?_
      rintro e wc' ⟨gr2, x, rfl, hcg, hfx, hbc⟩
      go_wp2_with fail
      refine hK.out _ _ (hH.trans (hbc.mono hH.size)) (fun hH2 => ?_)
      clear hK K hH
      have hH := hH2
      clear hH2
      refine wpAnyH_takeD (i := 5) (d := some 16) (v := .tuple #[.agg gr2, x, .int .i64 (takeC c id f).2.2]) rfl rfl (by kernel_rfl) (by kernel_rfl) (by kernel_rfl) (fun _ _ _ h => h) (Or.inl ⟨by rfl, fun _ _ => by go_simp⟩) hH ?_
      simp only [Act.put, List.setIfInBounds_toArray, List.set_cons_zero, List.set_cons_succ]
      refine wpAnyH_takeD (i := 6) (d := some 22) (v := .agg gr2) rfl rfl (by kernel_rfl) (by kernel_rfl) (by kernel_rfl) (fun _ _ _ h => h) (Or.inl ⟨by rfl, fun _ _ => by go_simp⟩) hH ?_
      simp only [Act.put, List.setIfInBounds_toArray, List.set_cons_zero, List.set_cons_succ]
      refine wpAnyH_takeD (i := 7) (d := some 23) (v := x) rfl rfl (by kernel_rfl) (by kernel_rfl) (by kernel_rfl) (fun _ _ _ h => h) (Or.inl ⟨by rfl, fun _ _ => by go_simp⟩) hH ?_
      simp only [Act.put, List.setIfInBounds_toArray, List.set_cons_zero, List.set_cons_succ]
      refine wpAnyH_takeD (i := 8) (d := some 24) (v := .int .i64 (takeC c id f).2.2) rfl rfl (by kernel_rfl) (by kernel_rfl) (by kernel_rfl) (fun _ _ _ h => h) (Or.inl ⟨by rfl, fun _ _ => by go_simp⟩) hH ?_
      simp only [Act.put, List.setIfInBounds_toArray, List.set_cons_zero, List.set_cons_succ]
      have hzc := hbc.size
      have hrow : wc'.heap[V.heap.size]? = some (.cells zr 73 (0, 0)) := by rw [hbc.block _ (by omega), hbb.block _ (by show V.heap.size < (V.heap.push (.cells zr 73)).size; simp)]; show (V.heap.push (.cells zr 73))[V.heap.size]? = _; simp
      have hVp : V.heap.size ≤ V.heap.size := Nat.le_refl _
      refine wpAnyH_ready (rs := [10]) (by kernel_rfl) (by simp) ?_
      refine AllReadyH.cons rfl (fun K hK => ?_) AllReadyH.nil
      rw [if_pos (by rfl)]
      refine wp_store_row 73 _ _ rfl (V.heap.size) gr2 rfl rfl 73 _ hrow hcg.v.info (by rw [hzz, hcg.v.size]) hcg.v.one ?_
      refine hK.out _ _ (setRow_below hH hVp _) (fun hH2 => ?_)
      clear hK K hH
      have hH := hH2
      clear hH2
      refine wpAnyH_takeD (i := 11) (d := some 9) (v := x) rfl rfl (by kernel_rfl) (by kernel_rfl) (by kernel_rfl) (fun _ _ _ h => h) (Or.inl ⟨by rfl, fun _ _ => by go_simp⟩) hH ?_
      simp only [Act.put, List.setIfInBounds_toArray, List.set_cons_zero, List.set_cons_succ]
      refine wpAnyH_takeD (i := 12) (d := some 10) (v := .int .i64 (takeC c id f).2.2) rfl rfl (by kernel_rfl) (by kernel_rfl) (by kernel_rfl) (fun _ _ _ h => h) (Or.inl ⟨by rfl, fun _ _ => by go_simp⟩) hH ?_
      simp only [Act.put, List.setIfInBounds_toArray, List.set_cons_zero, List.set_cons_succ]
      refine wpAnyH_done (by kernel_rfl) ?_ _
      go_wp2
      go_meet
      case rel => exact ⟨V.heap.size, gr2, x, rfl, rfl, rfl, heap_setRow hrow, caseG_set hcg (by omega), frames_set hfx (by omega), hH⟩
  case rest =>
    obtain ⟨p, gr2, x, rfl, rfl, rfl, rp, hcp, hfp, hbp⟩ := hcut
    obtain ⟨T1, hT1⟩ : ∃ t, t = (takeC c id f).1 := ⟨_, rfl⟩
    obtain ⟨T2, hT2⟩ : ∃ t, t = (takeC c id f).2.1 := ⟨_, rfl⟩
    obtain ⟨T3, hT3⟩ : ∃ t, t = (takeC c id f).2.2 := ⟨_, rfl⟩
    have HRef : Hid (∀ v wx, FrameV wx v f → CaseV wx gr c → Calls Try.prog 55 #[.agg gr, .int .i64 id, v] wx fun e w' => ∃ gr' x, e = .returned (.tuple #[.agg gr', x, .int .i64 T3]) ∧ CaseV w' gr' T1 ∧ FramesV 0 w' x T2 ∧ Below wx.heap.size wx w') := fun v wx h1 h2 => by
      rw [hT1, hT2, hT3]
      exact ref_takeAnswer gr c id v f wx h2 h1
    rw [← hT1] at hcp
    rw [← hT2] at hfp
    rw [← hT3]
    obtain ⟨ax, cx, rfl⟩ := hfp.form
    have hzp := hbp.size
    have hlp : p < wc.heap.size := (Array.getElem?_eq_some_iff.1 rp).1
    have rCc : wc.heap[w.heap.size]? = some (.cells gr 73 (0, 0)) := (HCV.out.later hbp).row
    have rFc : wc.heap[w.heap.size + 1]? = some (.cells #[.int .i64 f.kind, .int .i64 f.node, .int .i64 f.id, .slice a3 f.ops.length c3, .slice a4 f.deps.length c4, .slice a5 f.ats.length c5, .slice a6 f.vals.length c6] 43 (0, 0)) := by rw [hbp.block _ hFl]; exact rFV
    have HCc : Hid (InBox w.heap.size wc gr c) := HCV.out.later hbp
    have HDc : Hid (InBox D wc gr1 c) := HDV.out.later hbp
    have HPc : Hid (InBox p wc gr2 T1) := ⟨rp, hcp⟩
    have HFc : Hid (FramesV 0 wc (.slice ax T2.length cx) T2) := hfp
    have Hbc : Hid (Below w.heap.size w wc) := HwV.out.trans (hbp.mono (by omega))
    have HfV : Hid (FrameV wc (.agg #[.int .i64 f.kind, .int .i64 f.node, .int .i64 f.id, .slice a3 f.ops.length c3, .slice a4 f.deps.length c4, .slice a5 f.ats.length c5, .slice a6 f.vals.length c6]) f) := HFV.out wc Hbc.out
    have tP := hcp.row
    clear hT1 hT2 hT3 HTk HFr HCV HDV HwV rFV rD zD rG zG hbp hcp hfp rp HC0 HRF
    go_wp2_with (first
      | ((with_reducible apply wpl_row rCc); (· rfl); (· exact tC); (· rfl); simp only [Act.put, List.setIfInBounds_toArray, List.set_cons_zero, List.set_cons_succ])
      | ((with_reducible apply wpl_row rFc); (· rfl); (· exact row_frame); (· rfl); simp only [Act.put, List.setIfInBounds_toArray, List.set_cons_zero, List.set_cons_succ])
      | fail)
    refine (HRef.out _ wc HfV.out HCc.out.case).mono ?_
    rintro e w2 ⟨gr3, y, rfl, hc3, hf3, hb2⟩
    obtain ⟨ay, cy, rfl⟩ := hf3.form
    have hz2 := hb2.size
    have rowZ : (w2.alloc (.cells zr 73)).heap[w2.heap.size]? = some (.cells zr 73 (0, 0)) := heap_new _ _
    have i9 := hc3.info
    have o9 := hc3.one
    have s9 : zr.size = gr3.size := by rw [hzz, hc3.size]
    obtain ⟨Bq, hBe⟩ : ∃ A, A = w2.heap.size := ⟨_, rfl⟩
    obtain ⟨X2, hX⟩ : ∃ X, X = (w2.alloc (.cells zr 73)).setRow w2.heap.size gr3 := ⟨_, rfl⟩
    have HX : Hid (X2 = (w2.alloc (.cells zr 73)).setRow w2.heap.size gr3) := hX
    have HBe : Hid (Bq = w2.heap.size) := hBe
    have hbX : Below w2.heap.size w2 X2 := by rw [hX]; exact setRow_below ((Below.refl _ _).alloc (Nat.le_refl _) _) (Nat.le_refl _) _
    have HB2 : Hid (InBox Bq X2 gr3 T1) := by rw [hBe]; exact ⟨by rw [hX]; exact heap_setRow rowZ, hc3.later hbX⟩
    have h12 : Below wc.heap.size wc X2 := hb2.trans (hbX.mono hz2)
    have HC2 : Hid (InBox w.heap.size X2 gr c) := HCc.out.later h12
    have HD2 : Hid (InBox D X2 gr1 c) := HDc.out.later h12
    have HP2 : Hid (InBox p X2 gr2 T1) := HPc.out.later h12
    have HF2 : Hid (FramesV 0 X2 (.slice ax T2.length cx) T2) := HFc.out.later h12
    have HG2 : Hid (FramesV 0 X2 (.slice ay T2.length cy) T2) := hf3.later hbX
    have Hb2 : Hid (Below w.heap.size w X2) := Hbc.out.trans (h12.mono (by omega))
    have tB := hc3.row
    have hzX := h12.size
    clear hX hBe hc3 hf3 hb2 hbX h12 rCc rFc HCc HDc HPc HFc Hbc HRef HfV
    go_upto_region 4 with (first
      | (refine wpList_alloc_as rfl 73 rfl zr HZ0.out ?_)
      | (refine wpList_store_row rfl 73 _ _ rfl (w2.heap.size) gr3 rfl rfl 73 _ rowZ i9 s9 o9 ?_)
      | fail)
    rw [← HX.out, ← HBe.out]
    clear HX HBe rowZ i9 o9 s9
    have rP2 := HP2.out.row
    have rB2 := HB2.out.row
    go_wp2_with (first
      | ((with_reducible apply wpl_row rP2); (· rfl); (· exact tP); (· rfl); simp only [Act.put, List.setIfInBounds_toArray, List.set_cons_zero, List.set_cons_succ])
      | ((with_reducible apply wpl_row rB2); (· rfl); (· exact tB); (· rfl); simp only [Act.put, List.setIfInBounds_toArray, List.set_cons_zero, List.set_cons_succ])
      | fail)
    refine (ref_sameCase_any gr2 T1 gr3 T1 X2 HP2.out.case HB2.out.case (AlikeC.refl T1)).mono ?_
    rintro e w3 ⟨rfl, hb3⟩
    have HF3 : Hid (FramesV 0 w3 (.slice ax T2.length cx) T2) := HF2.out.later hb3
    have HG3 : Hid (FramesV 0 w3 (.slice ay T2.length cy) T2) := HG2.out.later hb3
    have Hb3 : Hid (Below X2.heap.size X2 w3) := hb3
    have hz3 := hb3.size
    clear hb3 rP2 rB2
    go_wp2_with fail
    refine (ref_sameFrames_any ax cx ay cy T2 w3 HF3.out.len HF3.out.frsIn HG3.out.frsIn).mono ?_
    rintro e w4 ⟨rfl, hb4⟩
    have h24 : Below X2.heap.size X2 w4 := Hb3.out.trans (hb4.mono hz3)
    have rC4 := (HC2.out.later h24).row
    have rD4 := (HD2.out.later h24).row
    have HC4 : Hid (InBox w.heap.size w4 gr c) := HC2.out.later h24
    have HD4 : Hid (InBox D w4 gr1 c) := HD2.out.later h24
    have Hb4 : Hid (Below w.heap.size w w4) := Hb2.out.trans (h24.mono (by omega))
    have tD := HD4.out.case.row
    have hz4 : w.heap.size ≤ w4.heap.size := Hb4.out.size
    clear hb4 h24
    go_wp2_with (first
      | ((with_reducible apply wpl_row rD4); (· rfl); (· exact tD); (· rfl); simp only [Act.put, List.setIfInBounds_toArray, List.set_cons_zero, List.set_cons_succ])
      | ((with_reducible apply wpl_row rC4); (· rfl); (· exact tC); (· rfl); simp only [Act.put, List.setIfInBounds_toArray, List.set_cons_zero, List.set_cons_succ])
      | fail)
    refine (ref_sameCase_any gr1 c gr c w4 HD4.out.case HC4.out.case (AlikeC.refl c)).mono ?_
    rintro e w5 ⟨rfl, hb5⟩
    have Hb5 : Hid (Below w.heap.size w w5) := Hb4.out.trans (hb5.mono hz4)
    clear hb5 rC4 rD4
    go_wp2_with fail
    refine (law_posts w5).mono ?_
    rintro e w6 ⟨rfl, hb6⟩
    have Hb6 : Hid (Below w.heap.size w w6) := Hb5.out.trans (hb6.mono Hb5.out.size)
    clear hb6
    go_wp2_with fail
    go_ret
    exact ⟨rfl, Hb6.out⟩

end Go.Proofs.Ytkoefoccbjhoiab

namespace Go.Proofs.Ytkoefoccbjhoiab
open Go.ChangeShapes Go.WideShapes Go.ChangeAt Go.RowKit Go.Deep

theorem array7 {α : Type} {cs : Array α} (h : cs.size = 7) : ∃ c0 c1 c2 c3 c4 c5 c6, cs = #[c0, c1, c2, c3, c4, c5, c6] := by
  obtain ⟨l⟩ := cs
  match l, h with
  | [c0, c1, c2, c3, c4, c5, c6], _ => exact ⟨c0, c1, c2, c3, c4, c5, c6, rfl⟩

theorem list7 {α : Type} {l : List α} (h : l.length = 7) : ∃ c0 c1 c2 c3 c4 c5 c6, l = [c0, c1, c2, c3, c4, c5, c6] := by
  match l, h with
  | [c0, c1, c2, c3, c4, c5, c6], _ => exact ⟨c0, c1, c2, c3, c4, c5, c6, rfl⟩
theorem Try.cellsFrame : Try.prog.cellsOf 43 = 7 := by kernel_rfl
theorem Try.cellsOps : Try.prog.cellsOf 35 = 1 := by kernel_rfl
theorem Try.cellsInts : Try.prog.cellsOf 23 = 1 := by kernel_rfl

section
variable {H : Type} {enc : TypeId × Value → H} {w : World} {base : Nat} {spare : Nat → Bool} {held : Bool}

theorem open_sl_ints {n : Nat} {c : Value} {y : DataW H × List MemPlace} (h : DataW.trod enc Try.prog w base spare held n 23 [c] = some y) : ∃ a cap zs, c = .slice a (zs : List Int).length cap ∧ SlInts w a cap zs := by
  obtain ⟨a, l, cap, hc⟩ := Joins.slice_form Try.underlying23 h
  simp at hc
  subst hc
  obtain ⟨hl, zs, rfl, hz, _, hn, hcap⟩ := open_intsAt Try.underlying23 Try.underlying3 Try.cellsInt h
  exact ⟨a, cap, zs, rfl, hz, hl, hcap, hn⟩
theorem open_sl_ops {n : Nat} {c : Value} {y : DataW H × List MemPlace} (h : DataW.trod enc Try.prog w base spare held n 35 [c] = some y) : ∃ a cap zs, c = .slice a (zs : List OpL).length cap ∧ SlOps w a cap zs := by
  obtain ⟨a, l, cap, hc⟩ := Joins.slice_form Try.underlying35 h
  simp at hc
  subst hc
  obtain ⟨hl, zs, rfl, hz, _, hn, hcap⟩ := open_opsAt Try.underlying35 Try.underlying108 Try.underlying3 Try.cellsOp Try.cellsInt rfl rfl rfl rfl rfl rfl h
  exact ⟨a, cap, zs, rfl, hz, hl, hcap, hn⟩

end

end Go.Proofs.Ytkoefoccbjhoiab

namespace Go.Proofs.Ytkoefoccbjhoiab
open Go.ChangeShapes Go.WideShapes Go.ChangeAt Go.RowKit Go.Deep

/-- The lists take no more bytes than memory has. -/
def Room (f : FrameL) : Prop := f.ops.length * 24 ≤ 140737488355328 ∧ f.deps.length * 8 ≤ 140737488355328 ∧ f.ats.length * 8 ≤ 140737488355328 ∧ f.vals.length * 8 ≤ 140737488355328

section
variable {H : Type} {enc : TypeId × Value → H} {w : World} {base : Nat} {spare : Nat → Bool} {held : Bool}

theorem room_ints {n : Nat} {a : Option Addr} {len cap : Nat} {y : DataW H × List MemPlace} (h : DataW.trod enc Try.prog w base spare held n 23 [.slice a len cap] = some y) (hw : ∀ m ∈ y.1.weights Try.prog 23, m ≤ reachBytes) : len * 8 ≤ 140737488355328 := by
  obtain ⟨d, p⟩ := y
  rcases slice_datum Try.underlying23 h with hq | ⟨el, sp, rfl, hel⟩
  · omega
  · have := hw ((el.length + sp.length) * Try.prog.bytesOf 3) (by simp [DataW.weights, Try.underlying23])
    rw [Try.bytesInt] at this
    unfold reachBytes at this
    omega
theorem room_ops {n : Nat} {a : Option Addr} {len cap : Nat} {y : DataW H × List MemPlace} (h : DataW.trod enc Try.prog w base spare held n 35 [.slice a len cap] = some y) (hw : ∀ m ∈ y.1.weights Try.prog 35, m ≤ reachBytes) : len * 24 ≤ 140737488355328 := by
  obtain ⟨d, p⟩ := y
  rcases slice_datum Try.underlying35 h with hq | ⟨el, sp, rfl, hel⟩
  · omega
  · have := hw ((el.length + sp.length) * Try.prog.bytesOf 108) (by simp [DataW.weights, Try.underlying35])
    rw [Try.bytesOp] at this
    unfold reachBytes at this
    omega
end

end Go.Proofs.Ytkoefoccbjhoiab

namespace Go.Proofs.Ytkoefoccbjhoiab
open Go.ChangeShapes Go.WideShapes Go.ChangeAt Go.RowKit Go.Deep

theorem Try.cellsBool : Try.prog.cellsOf 4 = 1 := by kernel_rfl
theorem Try.cellsSlice : Try.prog.cellsOf 23 = 1 := by kernel_rfl

theorem part_one {cs : List Value} {o n i : Nat} (h : o + i < cs.length) (hi : i < n) : ((((cs.drop o).take n).drop i).take 1) = [cs.getD (o + i) (.bool false)] := by
  apply List.ext_getElem?
  intro k
  cases k with
  | zero => simp [hi, List.getD, h]
  | succ k => simp; omega

section
variable {H : Type} {enc : TypeId × Value → H} {w : World} {base : Nat} {spare : Nat → Bool} {held : Bool}

end

end Go.Proofs.Ytkoefoccbjhoiab

namespace Go.Proofs.Ytkoefoccbjhoiab
open Go.ChangeShapes Go.WideShapes Go.ChangeAt Go.RowKit Go.Deep

theorem Try.cellsCase : Try.prog.cellsOf 73 = 24 := by kernel_rfl
theorem Try.cellsSix : Try.prog.cellsOf 69 = 6 := by kernel_rfl
theorem Try.cellsFour : Try.prog.cellsOf 70 = 4 := by kernel_rfl
theorem Try.cellsFourI : Try.prog.cellsOf 71 = 4 := by kernel_rfl
theorem list8 {α : Type} {l : List α} (h : l.length = 8) : ∃ a b c d e f g h, l = [a, b, c, d, e, f, g, h] := by
  match l, h with
  | [a, b, c, d, e, f, g, h], _ => exact ⟨a, b, c, d, e, f, g, h, rfl⟩
section
variable {H : Type} {enc : TypeId × Value → H} {w : World} {base : Nat} {spare : Nat → Bool} {held : Bool}

theorem one_of {cs : List Value} {o : Nat} (h : o < cs.length) : (cs.drop o).take 1 = [cs.getD o (.bool false)] := by
  have := part_one (cs := cs) (o := o) (n := 1) (i := 0) (by omega) (by omega)
  simp only [List.drop_zero, List.take_take, Nat.min_self, Nat.add_zero] at this
  exact this

set_option maxRecDepth 100000 in
theorem open_case {r : Reach} {b0 : Nat} {v : Value} {d : DataW H} {p : List MemPlace} (hv : Value.okWide Try.prog w r b0 73 v) (h : DataW.Trod enc Try.prog w base spare held 73 v d p) (hw : ∀ m ∈ d.weights Try.prog 73, m ≤ reachBytes) :
    ∃ nv c, v = .agg (rowF 24 nv) ∧ CaseC (· < w.heap.size) w nv c := by
  obtain ⟨cs, rfl, hsz⟩ := okWide_struct Try.underlying73 hv
  rw [Try.cellsCase] at hsz
  obtain ⟨fuel, hf⟩ := h
  obtain ⟨xs, n, _, hd, _, hxl, hff⟩ := DataW.trod_struct Try.underlying73 hf
  have g0 : DataW.trod enc Try.prog w base spare held n 4 ((cs.toList.drop 0).take (Try.prog.cellsOf 4)) = xs[0]? := hff 0 _ rfl
  have g1 : DataW.trod enc Try.prog w base spare held n 4 ((cs.toList.drop 1).take (Try.prog.cellsOf 4)) = xs[1]? := hff 1 _ rfl
  have g2 : DataW.trod enc Try.prog w base spare held n 35 ((cs.toList.drop 2).take (Try.prog.cellsOf 35)) = xs[2]? := hff 2 _ rfl
  have g3 : DataW.trod enc Try.prog w base spare held n 69 ((cs.toList.drop 3).take (Try.prog.cellsOf 69)) = xs[3]? := hff 3 _ rfl
  have g4 : DataW.trod enc Try.prog w base spare held n 69 ((cs.toList.drop 9).take (Try.prog.cellsOf 69)) = xs[4]? := hff 4 _ rfl
  have g5 : DataW.trod enc Try.prog w base spare held n 23 ((cs.toList.drop 15).take (Try.prog.cellsOf 23)) = xs[5]? := hff 5 _ rfl
  have g6 : DataW.trod enc Try.prog w base spare held n 70 ((cs.toList.drop 16).take (Try.prog.cellsOf 70)) = xs[6]? := hff 6 _ rfl
  have g7 : DataW.trod enc Try.prog w base spare held n 71 ((cs.toList.drop 20).take (Try.prog.cellsOf 71)) = xs[7]? := hff 7 _ rfl
  have hl : cs.toList.length = 24 := by simpa using hsz
  rw [Try.cellsBool, one_of (by omega)] at g0 g1
  rw [Try.cellsOps, one_of (by omega)] at g2
  rw [Try.cellsSix] at g3 g4
  rw [Try.cellsSlice, one_of (by omega)] at g5
  rw [Try.cellsFour] at g6
  rw [Try.cellsFourI] at g7
  obtain ⟨x0, x1, x2, x3, x4, x5, x6, x7, rfl⟩ := list8 hxl
  simp only [List.getElem?_cons_zero, List.getElem?_cons_succ] at g0 g1 g2 g3 g4 g5 g6 g7
  simp only [Prod.mk.injEq] at hd
  obtain ⟨rfl, _⟩ := hd
  simp [DataW.weights, Try.underlying73] at hw
  have W := fun (j : Nat) t y h1 h2 m hm => hw m (DataW.weights_mem_each (j := j) (t := t) (d := y) h1 h2 m hm)
  obtain ⟨b0, e0, _⟩ := DataW.trod_bool Try.underlying4 g0
  obtain ⟨b1, e1, _⟩ := DataW.trod_bool Try.underlying4 g1
  simp only [List.cons.injEq, and_true] at e0 e1
  obtain ⟨a2, d2, z2, e2, h2⟩ := open_sl_ops g2
  obtain ⟨a5, d5, z5, e5, h5⟩ := open_sl_ints g5
  have r2 := g2
  rw [e2] at r2
  have l2 := room_ops r2 (W 2 _ _ rfl rfl)
  have r5 := g5
  rw [e5] at r5
  have l5 := room_ints r5 (W 5 _ _ rfl rfl)
  obtain ⟨y3, _, _, _, _, hy3, t3⟩ := DataW.trod_array Try.underlying69 g3
  obtain ⟨y4, _, _, _, _, hy4, t4⟩ := DataW.trod_array Try.underlying69 g4
  obtain ⟨y6, _, _, _, _, hy6, t6⟩ := DataW.trod_array Try.underlying70 g6
  obtain ⟨y7, _, _, _, _, hy7, t7⟩ := DataW.trod_array Try.underlying71 g7
  have H3 : ∀ i, i < 6 → ∃ b, cs.toList.getD (3 + i) (.bool false) = .bool b := by
    intro i hi
    have := t3 i hi
    rw [Try.cellsBool, Nat.mul_one, part_one (by omega) hi, List.getElem?_eq_getElem (by omega)] at this
    obtain ⟨b, hb, _⟩ := DataW.trod_bool Try.underlying4 this
    exact ⟨b, by simpa using hb⟩
  have H4 : ∀ i, i < 6 → ∃ b, cs.toList.getD (9 + i) (.bool false) = .bool b := by
    intro i hi
    have := t4 i hi
    rw [Try.cellsBool, Nat.mul_one, part_one (by omega) hi, List.getElem?_eq_getElem (by omega)] at this
    obtain ⟨b, hb, _⟩ := DataW.trod_bool Try.underlying4 this
    exact ⟨b, by simpa using hb⟩
  have H6 : ∀ i, i < 4 → ∃ b, cs.toList.getD (16 + i) (.bool false) = .bool b := by
    intro i hi
    have := t6 i hi
    rw [Try.cellsBool, Nat.mul_one, part_one (by omega) hi, List.getElem?_eq_getElem (by omega)] at this
    obtain ⟨b, hb, _⟩ := DataW.trod_bool Try.underlying4 this
    exact ⟨b, by simpa using hb⟩
  have H7 : ∀ i, i < 4 → ∃ q : Int, cs.toList.getD (20 + i) (.bool false) = .int .i64 q := by
    intro i hi
    have := t7 i hi
    rw [Try.cellsInt, Nat.mul_one, part_one (by omega) hi, List.getElem?_eq_getElem (by omega)] at this
    obtain ⟨q, hq, _⟩ := DataW.trod_int Try.underlying3 this
    exact ⟨q, by simpa using hq⟩
  obtain ⟨T, hT⟩ := choose_lt H3
  obtain ⟨K, hK⟩ := choose_lt H4
  obtain ⟨A, hA⟩ := choose_lt H6
  obtain ⟨V, hV⟩ := choose_lt H7
  refine ⟨fun i => cs.toList.getD i (.bool false), ⟨b0, b1, z2, T, K, z5, A, V⟩, ?_, ⟨e0, e1, ?_, hT, hK, ?_, hA, hV⟩⟩
  · congr 1
    apply Array.ext_getElem?
    intro i
    by_cases hi : i < 24
    · rw [rowF_get _ hi]
      simp [List.getD, hsz, hi]
    · rw [Array.getElem?_eq_none (by omega), Array.getElem?_eq_none (by rw [rowF_size]; omega)]
  · show IsO _ w (cs.toList.getD 2 (.bool false)) z2
    rw [e2]
    exact IsO.of_sl h2 l2
  · show IsI _ w (cs.toList.getD 15 (.bool false)) z5
    rw [e5]
    exact IsI.of_sl h5 l5

end

end Go.Proofs.Ytkoefoccbjhoiab

namespace Go.Proofs.Ytkoefoccbjhoiab
open Go.ChangeShapes Go.WideShapes Go.ChangeAt Go.RowKit Go.Deep
set_option maxRecDepth 100000

section
variable {H : Type} {enc : TypeId × Value → H} {w : World} {base : Nat} {spare : Nat → Bool} {held : Bool}

theorem open_frame_room {r : Reach} {b0 : Nat} {v : Value} {d : DataW H} {p : List MemPlace} (hv : Value.okWide Try.prog w r b0 43 v) (h : DataW.Trod enc Try.prog w base spare held 43 v d p) (hw : ∀ m ∈ d.weights Try.prog 43, m ≤ reachBytes) : ∃ f, FrameV w v f ∧ Room f := by
  obtain ⟨cs, rfl, hsz⟩ := okWide_struct Try.underlying43 hv
  obtain ⟨c0, c1, c2, c3, c4, c5, c6, rfl⟩ := array7 (hsz.trans Try.cellsFrame)
  obtain ⟨fuel, hf⟩ := h
  obtain ⟨xs, n, _, hd, _, hxl, hff⟩ := DataW.trod_struct Try.underlying43 hf
  have g0 := hff 0 _ rfl
  have g1 := hff 1 _ rfl
  have g2 := hff 2 _ rfl
  have g3 := hff 3 _ rfl
  have g4 := hff 4 _ rfl
  have g5 := hff 5 _ rfl
  have g6 := hff 6 _ rfl
  simp [Value.cells, Try.cellsInt, Try.cellsOps, Try.cellsInts] at g0 g1 g2 g3 g4 g5 g6
  obtain ⟨x0, x1, x2, x3, x4, x5, x6, rfl⟩ := list7 hxl
  simp only [Prod.mk.injEq] at hd
  obtain ⟨rfl, _⟩ := hd
  simp [DataW.weights, Try.underlying43] at hw
  have W := fun (j : Nat) t y h1 h2 m hm => hw m (DataW.weights_mem_each (j := j) (t := t) (d := y) h1 h2 m hm)
  obtain ⟨n0, r0, _, _⟩ := DataW.trod_int Try.underlying3 g0
  obtain ⟨n1, r1, _, _⟩ := DataW.trod_int Try.underlying3 g1
  obtain ⟨n2, r2, _, _⟩ := DataW.trod_int Try.underlying3 g2
  simp at r0 r1 r2
  subst r0 r1 r2
  obtain ⟨a3, d3, z3, rfl, h3⟩ := open_sl_ops g3
  obtain ⟨a4, d4, z4, rfl, h4⟩ := open_sl_ints g4
  obtain ⟨a5, d5, z5, rfl, h5⟩ := open_sl_ints g5
  obtain ⟨a6, d6, z6, rfl, h6⟩ := open_sl_ints g6
  exact ⟨⟨n0, n1, n2, z3, z4, z5, z6⟩, ⟨a3, d3, a4, d4, a5, d5, a6, d6, rfl, h3, h4, h5, h6⟩,
    room_ops g3 (W 3 _ _ rfl rfl), room_ints g4 (W 4 _ _ rfl rfl), room_ints g5 (W 5 _ _ rfl rfl), room_ints g6 (W 6 _ _ rfl rfl)⟩
end

end Go.Proofs.Ytkoefoccbjhoiab
