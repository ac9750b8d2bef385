/-
  The statements' own look whether post answers at all.
  A list of frames in memory.
  The contract of the document's own SameFrames, at lists that are alike.
  The walk of PostBegins.
  How a frame that came in is read: its numbers, and where its lists lie.
  The room that a list down in a datum takes.
  How a graph that came in is read: which are known, and where its lists lie.
  How a case and a transaction that came in are read, with the room that their lists take.
-/
import Derived.Test.YtkoefoccbjhoiabPbg7
import Derived.Test.YtkoefoccbjhoiabPbg6
import Derived.Test.YtkoefoccbjhoiabPbg8
import Derived.Test.YtkoefoccbjhoiabPbg12
import Derived.Test.YtkoefoccbjhoiabPbg3
import Derived.Lib.SmallJoins
import Derived.ChangeMaps5
import Derived.SizedLaws
import Derived.Test.YtkoefoccbjhoiabPbg2
import Derived.Test.YtkoefoccbjhoiabPbg4
set_option linter.unusedVariables false
set_option linter.unusedSimpArgs false
namespace Go.Proofs.Ytkoefoccbjhoiab
open Go.RowKit

def post3 : List FrameL := [⟨1, 0, 3, [(1, 2, 0)], [], [], []⟩, ⟨1, 1, 3, [(1, 2, 0)], [], [], []⟩, ⟨1, 2, 3, [(1, 2, 0)], [], [], []⟩]
theorem post3_eq : (beginC 3 [(1, 2, 0)]).2.1 = post3 := by rfl
theorem post3_code : (beginC 3 [(1, 2, 0)]).2.2 = 0 := by rfl
theorem post3_begun : (beginC 3 [(1, 2, 0)]).1.begun = true := by rfl

set_option maxRecDepth 100000 in
set_option maxHeartbeats 1000000 in
theorem keep_posts (w : World) : Calls Try.prog 56 #[] w fun e w' => e = .returned (.bool true) ∧ Below w.heap.size w w' := by
  obtain ⟨zr, hzr⟩ : ∃ zr, zr = rowF 24 zcv := ⟨_, rfl⟩
  have HZ0 : Hid ((Try.prog.info? 73).map (·.zero) = some (some (.agg zr))) := by unfold Hid; rw [hzr]; exact Try.zeroCase
  have hzz : zr.size = 24 := by rw [hzr, rowF_size]
  obtain ⟨W, hW⟩ : ∃ W, W = w.alloc (.cells #[.int .i64 1, .int .i64 2, .int .i64 0] 108) := ⟨_, rfl⟩
  have hb : Below w.heap.size w W := by rw [hW]; exact (Below.refl _ _).alloc (Nat.le_refl _) _
  have r0 : W.heap[w.heap.size]? = some (.cells #[.int .i64 1, .int .i64 2, .int .i64 0] 108 (0, 0)) := by rw [hW]; exact heap_new _ _
  have hsl : SlOps W (some ⟨w.heap.size, 0, none⟩) 1 [(1, 2, 0)] := by
    refine ⟨Or.inr ⟨w.heap.size, 0, rfl, (Array.getElem?_eq_some_iff.1 r0).1, fun i hi => ?_⟩, by decide, by decide, fun e => by cases e⟩
    have : i = 0 := by simp at hi; exact hi
    subst this
    exact ⟨by rw [cell_of_row _ _ _ _ _ _ r0]; rfl, by rw [cell_of_row _ _ _ _ _ _ r0]; rfl, by rw [cell_of_row _ _ _ _ _ _ r0]; rfl⟩
  have HW : Hid (W = w.alloc (.cells #[.int .i64 1, .int .i64 2, .int .i64 0] 108)) := hW
  have HB : Hid (Calls Try.prog 43 #[.agg #[.int .i64 3, .slice (some ⟨w.heap.size, 0, none⟩) 1 1]] W fun e w' => ∃ gr x, e = .returned (.tuple #[.agg gr, x, .int .i64 0]) ∧ CaseV w' gr (beginC 3 [(1, 2, 0)]).1 ∧ FramesV W.heap.size w' x post3 ∧ Below W.heap.size W w') := by
    have := p_begin 3 (some ⟨w.heap.size, 0, none⟩) 1 [(1, 2, 0)] W hsl
    rw [post3_eq, post3_code] at this
    exact this
  have hzW : w.heap.size ≤ W.heap.size := hb.size
  clear hW r0 hsl hzr
  go_enter Try.func56, Try.ntmps56
  go_wp2_with fail
  rw [← HW.out]
  clear HW
  refine Calls.mono HB.out ?_
  rintro e w1 ⟨gr, x, rfl, hcv, hfr, hb1⟩
  have rowZ : (w1.alloc (.cells zr 73)).heap[w1.heap.size]? = some (.cells zr 73 (0, 0)) := heap_new _ _
  have i9 := hcv.info
  have o9 := hcv.one
  have s9 : zr.size = gr.size := by rw [hzz, hcv.size]
  obtain ⟨X, hX⟩ : ∃ X, X = (w1.alloc (.cells zr 73)).setRow w1.heap.size gr := ⟨_, rfl⟩
  have hbX : Below w1.heap.size w1 X := by rw [hX]; exact setRow_below ((Below.refl _ _).alloc (Nat.le_refl _) _) (Nat.le_refl _) _
  have hbox : InBox w1.heap.size X gr (beginC 3 [(1, 2, 0)]).1 := ⟨by rw [hX]; exact heap_setRow rowZ, hcv.later hbX⟩
  have q0 : X.cell? ⟨w1.heap.size, 0, none⟩ = some (.bool true) := by rw [hbox.begun, post3_begun]
  obtain ⟨a, cap, ex⟩ := hfr.form
  have hlen : post3.length = 3 := rfl
  rw [ex] at hfr
  obtain ⟨g, cs, ea, hg, hcs, hc7, hfv⟩ := (hfr.later hbX).at (i := 2) (by decide)
  obtain ⟨b3, d3, b4, d4, b5, d5, b6, d6, ecs, _⟩ := hfv
  have k15 : X.cell? ⟨g, 15, none⟩ = some (.int .i64 2) := by
    have h1 : cs[1]? = some (.int .i64 2) := by
      have : cs.toArray[1]? = some (.int .i64 2) := by
        have e2 := congrArg (fun v : Value => match v with | .agg a => a[1]? | _ => none) ecs
        exact e2
      simpa using this
    exact hcs 1 _ h1
  have HbF : Hid (Below w.heap.size w X) := (hb.trans (hb1.mono hzW)).trans (hbX.mono (by have := hb1.size; omega))
  subst ea
  rw [hlen] at ex
  subst ex
  have HX : Hid (X = (w1.alloc (.cells zr 73)).setRow w1.heap.size gr) := hX
  clear hX hbox hfr hcs hcv hbX ecs
  go_upto_region 2 with (first
    | (refine wpList_alloc_as rfl 73 rfl zr HZ0.out ?_)
    | (refine wpList_store_row rfl 73 _ _ rfl w1.heap.size gr rfl rfl 73 _ rowZ i9 s9 o9 ?_)
    | fail)
  rw [← HX.out]
  clear HX
  go_wp2
  go_ret
  exact ⟨rfl, HbF.out⟩

set_option maxRecDepth 100000 in
set_option maxHeartbeats 1000000 in
theorem law_posts (w : World) : Calls Try.prog 52 #[] w fun e w' => e = .returned (.bool true) ∧ Below w.heap.size w w' := by
  obtain ⟨zr, hzr⟩ : ∃ zr, zr = rowF 24 zcv := ⟨_, rfl⟩
  have HZ0 : Hid ((Try.prog.info? 73).map (·.zero) = some (some (.agg zr))) := by unfold Hid; rw [hzr]; exact Try.zeroCase
  have hzz : zr.size = 24 := by rw [hzr, rowF_size]
  obtain ⟨W, hW⟩ : ∃ W, W = w.alloc (.cells #[.int .i64 1, .int .i64 2, .int .i64 0] 108) := ⟨_, rfl⟩
  have hb : Below w.heap.size w W := by rw [hW]; exact (Below.refl _ _).alloc (Nat.le_refl _) _
  have r0 : W.heap[w.heap.size]? = some (.cells #[.int .i64 1, .int .i64 2, .int .i64 0] 108 (0, 0)) := by rw [hW]; exact heap_new _ _
  have hsl : SlOps W (some ⟨w.heap.size, 0, none⟩) 1 [(1, 2, 0)] := by
    refine ⟨Or.inr ⟨w.heap.size, 0, rfl, (Array.getElem?_eq_some_iff.1 r0).1, fun i hi => ?_⟩, by decide, by decide, fun e => by cases e⟩
    have : i = 0 := by simp at hi; exact hi
    subst this
    exact ⟨by rw [cell_of_row _ _ _ _ _ _ r0]; rfl, by rw [cell_of_row _ _ _ _ _ _ r0]; rfl, by rw [cell_of_row _ _ _ _ _ _ r0]; rfl⟩
  have HW : Hid (W = w.alloc (.cells #[.int .i64 1, .int .i64 2, .int .i64 0] 108)) := hW
  have HB : Hid (Calls Try.prog 43 #[.agg #[.int .i64 3, .slice (some ⟨w.heap.size, 0, none⟩) 1 1]] W fun e w' => ∃ gr x, e = .returned (.tuple #[.agg gr, x, .int .i64 0]) ∧ CaseV w' gr (beginC 3 [(1, 2, 0)]).1 ∧ FramesV W.heap.size w' x post3 ∧ Below W.heap.size W w') := by
    have := p_begin 3 (some ⟨w.heap.size, 0, none⟩) 1 [(1, 2, 0)] W hsl
    rw [post3_eq, post3_code] at this
    exact this
  have hzW : w.heap.size ≤ W.heap.size := hb.size
  clear hW r0 hsl hzr
  go_enter Try.func52, Try.ntmps52
  go_wp2_with fail
  rw [← HW.out]
  clear HW
  refine Calls.mono HB.out ?_
  rintro e w1 ⟨gr, x, rfl, hcv, hfr, hb1⟩
  have rowZ : (w1.alloc (.cells zr 73)).heap[w1.heap.size]? = some (.cells zr 73 (0, 0)) := heap_new _ _
  have i9 := hcv.info
  have o9 := hcv.one
  have s9 : zr.size = gr.size := by rw [hzz, hcv.size]
  obtain ⟨X, hX⟩ : ∃ X, X = (w1.alloc (.cells zr 73)).setRow w1.heap.size gr := ⟨_, rfl⟩
  have hbX : Below w1.heap.size w1 X := by rw [hX]; exact setRow_below ((Below.refl _ _).alloc (Nat.le_refl _) _) (Nat.le_refl _) _
  have hbox : InBox w1.heap.size X gr (beginC 3 [(1, 2, 0)]).1 := ⟨by rw [hX]; exact heap_setRow rowZ, hcv.later hbX⟩
  have q0 : X.cell? ⟨w1.heap.size, 0, none⟩ = some (.bool true) := by rw [hbox.begun, post3_begun]
  obtain ⟨a, cap, ex⟩ := hfr.form
  have hlen : post3.length = 3 := rfl
  rw [ex] at hfr
  obtain ⟨g, cs, ea, hg, hcs, hc7, hfv⟩ := (hfr.later hbX).at (i := 2) (by decide)
  obtain ⟨b3, d3, b4, d4, b5, d5, b6, d6, ecs, _⟩ := hfv
  have k15 : X.cell? ⟨g, 15, none⟩ = some (.int .i64 2) := by
    have h1 : cs[1]? = some (.int .i64 2) := by
      have : cs.toArray[1]? = some (.int .i64 2) := by
        have e2 := congrArg (fun v : Value => match v with | .agg a => a[1]? | _ => none) ecs
        exact e2
      simpa using this
    exact hcs 1 _ h1
  have HbF : Hid (Below w.heap.size w X) := (hb.trans (hb1.mono hzW)).trans (hbX.mono (by have := hb1.size; omega))
  subst ea
  rw [hlen] at ex
  subst ex
  have HX : Hid (X = (w1.alloc (.cells zr 73)).setRow w1.heap.size gr) := hX
  clear hX hbox hfr hcs hcv hbX ecs
  go_upto_region 2 with (first
    | (refine wpList_alloc_as rfl 73 rfl zr HZ0.out ?_)
    | (refine wpList_store_row rfl 73 _ _ rfl w1.heap.size gr rfl rfl 73 _ rowZ i9 s9 o9 ?_)
    | fail)
  rw [← HX.out]
  clear HX
  go_wp2
  go_ret
  exact ⟨rfl, HbF.out⟩

end Go.Proofs.Ytkoefoccbjhoiab

namespace Go.Proofs.Ytkoefoccbjhoiab
open Go.RowKit

/-- Where they lie. -/
def FrsIn (B : Nat) (w : World) (a : Option Addr) (fs : List FrameL) : Prop := fs = [] ∨ ∃ b off, a = some ⟨b, off, none⟩ ∧ b < B ∧ ∀ i, i < fs.length → ∃ cs, cs.length = 7 ∧ w.rangeAt b (off + i * 7) cs ∧ FrameV w (.agg cs.toArray) (fs.getD i zeroF)
theorem FramesV.frsIn {B : Nat} {w : World} {a : Option Addr} {cap : Nat} {fs : List FrameL} (h : FramesV B w (.slice a fs.length cap) fs) : FrsIn w.heap.size w a fs := by
  by_cases h0 : fs = []
  · exact Or.inl h0
  · have hp : 0 < fs.length := List.length_pos_iff.2 h0
    obtain ⟨g, _, ha, hg, _⟩ := h.at hp
    refine Or.inr ⟨g, 0, ha, hg, fun i hi => ?_⟩
    obtain ⟨g', cs, ha', _, hr, hl, hf⟩ := h.at hi
    rw [ha] at ha'
    cases ha'
    refine ⟨cs, hl, by rw [Nat.zero_add]; exact hr, ?_⟩
    have : fs.getD i zeroF = fs[i] := by simp [List.getD, hi]
    rw [this]
    exact hf

end Go.Proofs.Ytkoefoccbjhoiab

namespace Go.Proofs.Ytkoefoccbjhoiab
open Go.RowKit

theorem range_lat {w w' : World} {B c o : Nat} {cs : List Value} (h : w.rangeAt c o cs) (hb : Below B w w') (hc : c < B) : w'.rangeAt c o cs := fun j v hv => by
  rw [hb.cell (p := ⟨c, o + j, none⟩) hc]
  exact h j v hv

set_option maxRecDepth 100000 in
set_option maxHeartbeats 1000000 in
theorem ref_sameFrames_any (a : Option Addr) (cx : Nat) (a' : Option Addr) (cy : Nat) (fs : List FrameL) (w : World) (hl : fs.length ≤ maxLen) (h : FrsIn w.heap.size w a fs) (h' : FrsIn w.heap.size w a' fs) :
    Calls Try.prog 26 #[.slice a fs.length cx, .slice a' fs.length cy] w fun r w' => r = .returned (.bool true) ∧ Below w.heap.size w w' := by
  unfold maxLen at hl
  have H1 : Hid (FrsIn w.heap.size w a fs) := h
  have H2 : Hid (FrsIn w.heap.size w a' fs) := h'
  clear h h'
  go_enter Try.func26, Try.ntmps26
  go_wp2_with fail
  go_loopw [13] (fun i wr => ∃ k : Nat, k ≤ fs.length ∧ i = .int .i64 k ∧ Below w.heap.size w wr) (fun i _ => fs.length - (intOf i).toNat)
  case atStart => exact ⟨0, Nat.zero_le _, rfl, Below.refl _ _⟩
  case round =>
    obtain ⟨i, hi, rfl, hB⟩ := hrel
    by_cases hlt : i < fs.length
    · rcases H1.out with e | ⟨g1, o1, rfl, hg1, hc1⟩
      · rw [e] at hlt; simp at hlt
      rcases H2.out with e | ⟨g2, o2, rfl, hg2, hc2⟩
      · rw [e] at hlt; simp at hlt
      obtain ⟨ca, hla, ra0, hva⟩ := hc1 i hlt
      obtain ⟨cb, hlb, rb0, hvb⟩ := hc2 i hlt
      have ra := range_lat ra0 hB hg1
      have rb := range_lat rb0 hB hg2
      have hz := hB.size
      have HVa : Hid (FrameV wr (.agg ca.toArray) (fs.getD i zeroF)) := hva.later hB
      have HVb : Hid (FrameV wr (.agg cb.toArray) (fs.getD i zeroF)) := hvb.later hB
      have hsa : (Try.prog.info? 43).map (·.size) = some ca.length := by rw [hla]; exact Try.infoFrame7
      have hsb : (Try.prog.info? 43).map (·.size) = some cb.length := by rw [hlb]; exact Try.infoFrame7
      clear hva hvb hla hlb hc1 hc2 ra0 rb0
      go_wp2_with fail
      have HRa : Hid (∀ wx, Below wr.heap.size wr wx → wx.rangeAt g1 (o1 + i * 7) ca) := fun wx hx => range_lat ra hx (by omega)
      have HRb : Hid (∀ wx, Below wr.heap.size wr wx → wx.rangeAt g2 (o2 + i * 7) cb) := fun wx hx => range_lat rb hx (by omega)
      clear ra rb
      refine wp_region_held_drew (S := fun w' => Below wr.heap.size wr w') (by kernel_rfl) ((Below.refl _ _).drew) ?_
      intro hH
      refine wpAnyH_takeD (i := 0) (d := some 16) (v := .slice (some ⟨g1, o1, none⟩) fs.length cx) rfl rfl (by kernel_rfl) (by kernel_rfl) (by kernel_rfl) (fun _ _ _ h => h) (Or.inl ⟨by rfl, fun _ _ => by go_simp⟩) hH ?_
      simp only [Act.put, List.setIfInBounds_toArray, List.set_cons_zero, List.set_cons_succ]
      refine wpAnyH_takeD (i := 1) (d := some 17) (v := .int .i64 i) rfl rfl (by kernel_rfl) (by kernel_rfl) (by kernel_rfl) (fun _ _ _ h => h) (Or.inl ⟨by rfl, fun _ _ => by go_simp⟩) hH ?_
      simp only [Act.put, List.setIfInBounds_toArray, List.set_cons_zero, List.set_cons_succ]
      refine wpAnyH_takeD (i := 2) (d := some 18) (v := .pointer (some ⟨g1, o1 + i * 7, none⟩)) rfl rfl (by kernel_rfl) (by kernel_rfl) (by kernel_rfl) (fun _ _ _ h => h) (Or.inl ⟨by rfl, fun _ _ => by go_simp⟩) hH ?_
      simp only [Act.put, List.setIfInBounds_toArray, List.set_cons_zero, List.set_cons_succ]
      refine wpAnyH_takeD (i := 3) (d := some 19) (v := .agg ca.toArray) rfl rfl (by kernel_rfl) (by kernel_rfl) (by kernel_rfl) (fun _ _ _ h => h) (yieldsIf_load_mid (by rfl) _ _ rfl _ _ rfl ca _ (HRa.out) Try.underlying43 rfl hsa) hH ?_
      simp only [Act.put, List.setIfInBounds_toArray, List.set_cons_zero, List.set_cons_succ]
      refine wpAnyH_takeD (i := 4) (d := some 20) (v := .slice (some ⟨g2, o2, none⟩) fs.length cy) rfl rfl (by kernel_rfl) (by kernel_rfl) (by kernel_rfl) (fun _ _ _ h => h) (Or.inl ⟨by rfl, fun _ _ => by go_simp⟩) hH ?_
      simp only [Act.put, List.setIfInBounds_toArray, List.set_cons_zero, List.set_cons_succ]
      refine wpAnyH_takeD (i := 5) (d := some 21) (v := .int .i64 i) rfl rfl (by kernel_rfl) (by kernel_rfl) (by kernel_rfl) (fun _ _ _ h => h) (Or.inl ⟨by rfl, fun _ _ => by go_simp⟩) hH ?_
      simp only [Act.put, List.setIfInBounds_toArray, List.set_cons_zero, List.set_cons_succ]
      refine wpAnyH_takeD (i := 6) (d := some 22) (v := .pointer (some ⟨g2, o2 + i * 7, none⟩)) rfl rfl (by kernel_rfl) (by kernel_rfl) (by kernel_rfl) (fun _ _ _ h => h) (Or.inl ⟨by rfl, fun _ _ => by go_simp⟩) hH ?_
      simp only [Act.put, List.setIfInBounds_toArray, List.set_cons_zero, List.set_cons_succ]
      refine wpAnyH_takeD (i := 7) (d := some 23) (v := .agg cb.toArray) rfl rfl (by kernel_rfl) (by kernel_rfl) (by kernel_rfl) (fun _ _ _ h => h) (yieldsIf_load_mid (by rfl) _ _ rfl _ _ rfl cb _ (HRb.out) Try.underlying43 rfl hsb) hH ?_
      simp only [Act.put, List.setIfInBounds_toArray, List.set_cons_zero, List.set_cons_succ]
      refine wpAnyH_ready (rs := [8]) (by kernel_rfl) (by simp) ?_
      refine AllReadyH.cons rfl (fun K hK => ?_) AllReadyH.nil
      go_simp
      refine (ref_sameFrame_any _ _ (fs.getD i zeroF) _ (HVa.out.later hH) (HVb.out.later hH)).mono ?_
      rintro r z2 ⟨rfl, hb2⟩
      go_wp2_with fail
      refine hK.out _ _ (hH.trans hb2) (fun hH2 => ?_)
      clear hK K hH
      have hH := hH2
      clear hH2 hb2
      refine wpAnyH_takeD (i := 9) (d := some 25) (v := .bool false) rfl rfl (by kernel_rfl) (by kernel_rfl) (by kernel_rfl) (fun _ _ _ h => h) (Or.inl ⟨by rfl, fun _ _ => by go_simp⟩) hH ?_
      simp only [Act.put, List.setIfInBounds_toArray, List.set_cons_zero, List.set_cons_succ]
      refine wpAnyH_done (by kernel_rfl) ?_ _
      have hB2 : Below w.heap.size w z2 := hB.trans (hH.mono hB.size)
      clear hH
      go_wp2
      go_roundw
      case rel => exact ⟨i + 1, by omega, by go_num, hB2⟩
      case measure => simp [intOf]; omega
    · go_wp2
      go_ret
      exact ⟨rfl, hB⟩

end Go.Proofs.Ytkoefoccbjhoiab

namespace Go.Proofs.Ytkoefoccbjhoiab
open Go.RowKit
set_option linter.unusedVariables false
set_option linter.unusedSimpArgs false

theorem Try.infoTxn : (Try.prog.info? 68).map (·.size) = some 2 := by kernel_rfl
theorem case_zero {w : World} {gr : Array Value} {c : CaseL} (h : CaseV w gr c) : ∃ nv, gr = rowF 24 nv ∧ CaseC (fun b => 0 ≤ b) w nv c := by
  obtain ⟨nv, e, hc⟩ := h
  exact ⟨nv, e, hc.mono (fun _ _ _ => Nat.zero_le _)⟩

set_option maxRecDepth 100000 in
set_option maxHeartbeats 8000000 in
theorem postBegins_any (n : Int) (a : Option Addr) (cap : Nat) (ops : List OpL) (nv : Nat → Value) (c : CaseL) (id : Int) (w : World) (hz : SlOps w a cap ops) (hn : CaseC (· < w.heap.size) w nv c) :
    Calls Try.prog 12 #[.agg #[.int .i64 n, .slice a ops.length cap], .agg (rowF 24 nv), .int .i64 id] w fun e w' => e = .returned (.bool true) ∧ Below w.heap.size w w' := by
  obtain ⟨gr, hgr⟩ : ∃ gr, gr = rowF 24 nv := ⟨_, rfl⟩
  rw [← hgr]
  have hcv : CaseV w gr c := ⟨nv, hgr, hn⟩
  obtain ⟨zr, hzr⟩ : ∃ zr, zr = rowF 24 zcv := ⟨_, rfl⟩
  have HZ0 : Hid ((Try.prog.info? 73).map (·.zero) = some (some (.agg zr))) := by unfold Hid; rw [hzr]; exact Try.zeroCase
  have hzz : zr.size = 24 := by rw [hzr, rowF_size]
  obtain ⟨W, hW⟩ : ∃ W, W = (w.alloc (.cells #[.int .i64 n, .slice a ops.length cap] 68)).alloc (.cells gr 73) := ⟨_, rfl⟩
  have hb : Below w.heap.size w W := by rw [hW]; exact ((Below.refl _ _).alloc (Nat.le_refl _) _).alloc (by rw [size_push]; omega) _
  have hzW : W.heap.size = w.heap.size + 2 := by rw [hW, size_push, size_push]
  obtain ⟨rT, rC⟩ := two_rows w (.cells #[.int .i64 n, .slice a ops.length cap] 68) (.cells gr 73)
  rw [← hW] at rT rC
  have HC0 : Hid (InBox (w.heap.size + 1) W gr c) := ⟨rC, hcv.later hb⟩
  have HL : Hid (SlOps W a cap ops) := hz.later hb
  have HW : Hid (W = (w.alloc (.cells #[.int .i64 n, .slice a ops.length cap] 68)).alloc (.cells gr 73)) := hW
  have HRT : Hid (W.heap[w.heap.size]? = some (.cells #[.int .i64 n, .slice a ops.length cap] 68 (0, 0))) := rT
  have tT : RowT Try.prog 68 (#[.int .i64 n, .slice a ops.length cap] : Array Value).size := ⟨_, Try.underlying68, rfl, Try.infoTxn⟩
  clear hW hz hn hgr hzr hcv rC
  go_enter Try.func12, Try.ntmps12
  go_upto_region 1 with fail
  rw [← HW.out]
  clear HW
  go_wp2_with (first
    | ((with_reducible apply wpl_row rT); (· rfl); (· exact tT); (· rfl); simp only [Act.put, List.setIfInBounds_toArray, List.set_cons_zero, List.set_cons_succ])
    | fail)
  refine (p_begin n a cap ops W HL.out).mono ?_
  rintro e w1 ⟨gr1, x1, rfl, hcv1, hfr1, hb1⟩
  have hz1 := hb1.size
  have rowZ : (w1.alloc (.cells zr 73)).heap[w1.heap.size]? = some (.cells zr 73 (0, 0)) := heap_new _ _
  have i9 := hcv1.info
  have o9 := hcv1.one
  have s9 : zr.size = gr1.size := by rw [hzz, hcv1.size]
  obtain ⟨A, hAe⟩ : ∃ A, A = w1.heap.size := ⟨_, rfl⟩
  obtain ⟨X1, hX⟩ : ∃ X, X = (w1.alloc (.cells zr 73)).setRow w1.heap.size gr1 := ⟨_, rfl⟩
  have HX : Hid (X1 = (w1.alloc (.cells zr 73)).setRow w1.heap.size gr1) := hX
  have HAe : Hid (A = w1.heap.size) := hAe
  have hbX : Below w1.heap.size w1 X1 := by rw [hX]; exact setRow_below ((Below.refl _ _).alloc (Nat.le_refl _) _) (Nat.le_refl _) _
  have HA1 : Hid (InBox A X1 gr1 (beginC n ops).1) := by rw [hAe]; exact ⟨by rw [hX]; exact heap_setRow rowZ, hcv1.later hbX⟩
  have hWX : Below W.heap.size W X1 := hb1.trans (hbX.mono hz1)
  have HF1 : Hid (FramesV W.heap.size X1 x1 (beginC n ops).2.1) := hfr1.later hbX
  have HC1 : Hid (InBox (w.heap.size + 1) X1 gr c) := HC0.out.later hWX
  have HL1 : Hid (SlOps X1 a cap ops) := HL.out.later hWX
  have rT1 : X1.heap[w.heap.size]? = some (.cells #[.int .i64 n, .slice a ops.length cap] 68 (0, 0)) := by rw [hWX.block _ (by omega)]; exact rT
  have HwX : Hid (Below w.heap.size w X1) := hb.trans (hWX.mono (by omega))
  have hzX := hWX.size
  clear hX hAe hcv1 hfr1 hb1 hbX hWX rT
  go_upto_region 2 with (first
    | (refine wpList_alloc_as rfl 73 rfl zr HZ0.out ?_)
    | (refine wpList_store_row rfl 73 _ _ rfl (w1.heap.size) gr1 rfl rfl 73 _ rowZ i9 s9 o9 ?_)
    | fail)
  rw [← HX.out, ← HAe.out]
  clear HX HAe rowZ i9 o9 s9
  go_wp2_with (first
    | ((with_reducible apply wpl_row rT1); (· rfl); (· exact tT); (· rfl); simp only [Act.put, List.setIfInBounds_toArray, List.set_cons_zero, List.set_cons_succ])
    | fail)
  refine (ref_begin n a cap ops X1 HL1.out).mono ?_
  rintro e w2 ⟨gr2, x2, rfl, hcv2, hfr2, hb2⟩
  have hz2 := hb2.size
  have rowZ : (w2.alloc (.cells zr 73)).heap[w2.heap.size]? = some (.cells zr 73 (0, 0)) := heap_new _ _
  have i9 := hcv2.info
  have o9 := hcv2.one
  have s9 : zr.size = gr2.size := by rw [hzz, hcv2.size]
  obtain ⟨Bq, hBe⟩ : ∃ A, A = w2.heap.size := ⟨_, rfl⟩
  obtain ⟨X2, hX⟩ : ∃ X, X = (w2.alloc (.cells zr 73)).setRow w2.heap.size gr2 := ⟨_, rfl⟩
  have HX : Hid (X2 = (w2.alloc (.cells zr 73)).setRow w2.heap.size gr2) := hX
  have HBe : Hid (Bq = w2.heap.size) := hBe
  have hbX : Below w2.heap.size w2 X2 := by rw [hX]; exact setRow_below ((Below.refl _ _).alloc (Nat.le_refl _) _) (Nat.le_refl _) _
  have HB2 : Hid (InBox Bq X2 gr2 (beginC n ops).1) := by rw [hBe]; exact ⟨by rw [hX]; exact heap_setRow rowZ, hcv2.later hbX⟩
  have h12 : Below X1.heap.size X1 X2 := hb2.trans (hbX.mono hz2)
  have HF2 : Hid (FramesV X1.heap.size X2 x2 (beginC n ops).2.1) := hfr2.later hbX
  have HF12 : Hid (FramesV W.heap.size X2 x1 (beginC n ops).2.1) := HF1.out.later h12
  have HA2 : Hid (InBox A X2 gr1 (beginC n ops).1) := HA1.out.later h12
  have HC2 : Hid (InBox (w.heap.size + 1) X2 gr c) := HC1.out.later h12
  have Hw2 : Hid (Below w.heap.size w X2) := HwX.out.trans (h12.mono (by omega))
  have hz12 := h12.size
  clear hX hBe hcv2 hfr2 hb2 hbX h12 rT1 HF1 HA1 HC1
  go_upto_region 3 with (first
    | (refine wpList_alloc_as rfl 73 rfl zr HZ0.out ?_)
    | (refine wpList_store_row rfl 73 _ _ rfl (w2.heap.size) gr2 rfl rfl 73 _ rowZ i9 s9 o9 ?_)
    | fail)
  rw [← HX.out, ← HBe.out]
  clear HX HBe rowZ i9 o9 s9
  have rC2 := HC2.out.row
  have tC := HC2.out.case.row
  go_wp2_with (first
    | ((with_reducible apply wpl_row rC2); (· rfl); (· exact tC); (· rfl); simp only [Act.put, List.setIfInBounds_toArray, List.set_cons_zero, List.set_cons_succ])
    | fail)
  refine (p_result gr c X2 HC2.out.case).mono ?_
  rintro e w3 ⟨v3, rfl, hv3, hb3⟩
  have hz3 := hb3.size
  have rC3 : w3.heap[w.heap.size + 1]? = some (.cells gr 73 (0, 0)) := (HC2.out.later hb3).row
  have HC3 : Hid (InBox (w.heap.size + 1) w3 gr c) := HC2.out.later hb3
  have HV3 : Hid (IsI (fun b => X2.heap.size ≤ b) w3 v3 (resultC c).1) := hv3
  have Hb3 : Hid (Below X2.heap.size X2 w3) := hb3
  clear hv3 hb3 rC2
  go_wp2_with (first
    | ((with_reducible apply wpl_row rC3); (· rfl); (· exact tC); (· rfl); simp only [Act.put, List.setIfInBounds_toArray, List.set_cons_zero, List.set_cons_succ])
    | fail)
  refine (ref_result gr c w3 HC3.out.case).mono ?_
  rintro e V ⟨v4, rfl, hv4, hb4⟩
  have hz4 := hb4.size
  have h2V : Below X2.heap.size X2 V := Hb3.out.trans (hb4.mono hz3)
  obtain ⟨fs, hfs⟩ : ∃ fs, fs = (beginC n ops).2.1 := ⟨_, rfl⟩
  rw [← hfs] at HF12 HF2
  obtain ⟨b1, d1, ex1⟩ := HF12.out.form
  obtain ⟨b2, d2, ex2⟩ := HF2.out.form
  obtain ⟨lres, hlres⟩ : ∃ l, l = (resultC c).1 := ⟨_, rfl⟩
  obtain ⟨okr, hokr⟩ : ∃ b, b = (resultC c).2 := ⟨_, rfl⟩
  rw [← hlres] at HV3 hv4
  rw [← hokr]
  have HV3' : Hid (IsI (fun b => X2.heap.size ≤ b) V v3 lres) := HV3.out.later (SameOn.of_size hb4)
  obtain ⟨b3, d3, ex3, hs3⟩ := HV3'.out.sl
  obtain ⟨b4, d4, ex4, hs4⟩ := hv4.sl
  subst ex3
  subst ex4
  subst ex1
  subst ex2
  have HAV : Hid (InBox A V gr1 (beginC n ops).1) := HA2.out.later h2V
  have HBV : Hid (InBox Bq V gr2 (beginC n ops).1) := HB2.out.later h2V
  have HCV : Hid (InBox (w.heap.size + 1) V gr c) := HC3.out.later hb4
  have HFa : Hid (FramesV W.heap.size V (.slice b1 fs.length d1) fs) := HF12.out.later h2V
  have HFb : Hid (FramesV X1.heap.size V (.slice b2 fs.length d2) fs) := HF2.out.later h2V
  have HwV : Hid (Below w.heap.size w V) := Hw2.out.trans (h2V.mono (by omega))
  have HSN : Hid (∀ wx, Below V.heap.size V wx → Calls Try.prog 35 #[.slice b3 lres.length d3, .slice b4 lres.length d4] wx fun e w' => e = .returned (.bool true) ∧ Below wx.heap.size wx w') := fun wx hx => sameNumbers_any b3 d3 lres b4 d4 wx hs3.2.1 (hs3.later hx).1 (hs4.later hx).1
  have HSF : Hid (∀ wx, Below V.heap.size V wx → Calls Try.prog 26 #[.slice b1 fs.length d1, .slice b2 fs.length d2] wx fun e w' => e = .returned (.bool true) ∧ Below wx.heap.size wx w') := fun wx hx => ref_sameFrames_any b1 d1 b2 d2 fs wx HFa.out.len (HFa.out.later hx).frsIn (HFb.out.later hx).frsIn
  obtain ⟨lf, hlf⟩ : ∃ lf, lf = fs.length := ⟨_, rfl⟩
  obtain ⟨lr, hlr⟩ : ∃ lr, lr = lres.length := ⟨_, rfl⟩
  rw [← hlf] at HSF ⊢
  rw [← hlr] at HSN ⊢
  obtain ⟨g1, hg1⟩ : ∃ g, g = gr1.toList := ⟨_, rfl⟩
  obtain ⟨g2, hg2⟩ : ∃ g, g = gr2.toList := ⟨_, rfl⟩
  obtain ⟨g3, hg3⟩ : ∃ g, g = gr.toList := ⟨_, rfl⟩
  have r1 := HAV.out.range
  have r2 := HBV.out.range
  have r3 := HCV.out.range
  have z1 := HAV.out.case.len
  have z2 := HBV.out.case.len
  have z3 := HCV.out.case.len
  have hA := HAV.out.lt
  have hBq := HBV.out.lt
  have hC := HCV.out.lt
  have HSC : Hid (∀ wx, Below V.heap.size V wx → Calls Try.prog 47 #[.agg g1.toArray, .agg g2.toArray] wx fun e w' => e = .returned (.bool true) ∧ Below wx.heap.size wx w') := fun wx hx => by
    rw [hg1, hg2, Array.toArray_toList, Array.toArray_toList]
    exact ref_sameCase_any gr1 _ gr2 _ wx (HAV.out.later hx).case (HBV.out.later hx).case (AlikeC.refl _)
  have HAg : Hid (∀ wx, Below V.heap.size V wx → Calls Try.prog 48 #[.agg g3.toArray, .int .i64 id] wx fun e w' => ∃ v, e = .returned v ∧ FramesV wx.heap.size w' v (againC c id) ∧ Below wx.heap.size wx w') := fun wx hx => by
    rw [hg3, Array.toArray_toList]
    exact p_again gr c id wx (HCV.out.later hx).case
  have HAr : Hid (∀ wx, Below V.heap.size V wx → Calls Try.prog 49 #[.agg g3.toArray, .int .i64 id] wx fun e w' => ∃ v, e = .returned v ∧ FramesV 0 w' v (againC c id) ∧ Below wx.heap.size wx w') := fun wx hx => by
    rw [hg3, Array.toArray_toList]
    exact ref_again 0 gr c id wx (case_zero (HCV.out.later hx).case) (Nat.zero_le _)
  have HGd : Hid (∀ wx, Below V.heap.size V wx → Calls Try.prog 50 #[.agg g3.toArray] wx fun e w' => e = .returned (.bool (goodCB c)) ∧ Below wx.heap.size wx w') := fun wx hx => by
    rw [hg3, Array.toArray_toList]
    exact p_good gr c wx (HCV.out.later hx).case
  have HIs : Hid (∀ wx, Below V.heap.size V wx → Calls Try.prog 51 #[.agg g3.toArray] wx fun e w' => e = .returned (.bool (goodCB c)) ∧ Below wx.heap.size wx w') := fun wx hx => by
    rw [hg3, Array.toArray_toList]
    exact ref_isCase gr c wx (HCV.out.later hx).case
  rw [← hg1] at r1 z1
  rw [← hg2] at r2 z2
  rw [← hg3] at r3 z3
  clear hg1 hg2 hg3 hlf hlr hfs hlres hokr hs3 hs4 hv4 hb4 h2V rC3
  go_upto_region 5 with fail
  refine wp_region_held_drew (S := fun w' => Below V.heap.size V w') (by kernel_rfl) (Below.drew (Below.refl _ _)) ?_
  intro hH
  refine wpAnyH_takeD (i := 0) (d := some 39) (v := .agg g1.toArray) rfl rfl (by kernel_rfl) (by kernel_rfl) (by kernel_rfl) (fun _ _ _ h => h) (yieldsIf_load_mid (by rfl) _ _ rfl _ _ rfl g1 _ (fun _ h => range_keep r1 h hA) Try.underlying73 rfl z1) hH ?_
  simp only [Act.put, List.setIfInBounds_toArray, List.set_cons_zero, List.set_cons_succ]
  refine wpAnyH_takeD (i := 1) (d := some 40) (v := .agg g2.toArray) rfl rfl (by kernel_rfl) (by kernel_rfl) (by kernel_rfl) (fun _ _ _ h => h) (yieldsIf_load_mid (by rfl) _ _ rfl _ _ rfl g2 _ (fun _ h => range_keep r2 h hBq) Try.underlying73 rfl z2) hH ?_
  simp only [Act.put, List.setIfInBounds_toArray, List.set_cons_zero, List.set_cons_succ]
  refine wpAnyH_ready (rs := [2]) (by kernel_rfl) (by simp) ?_
  refine AllReadyH.cons rfl (fun K hK => ?_) AllReadyH.nil
  go_simp
  refine (HSC.out _ hH).mono ?_
  rintro e wa ⟨rfl, hba⟩
  go_wp2_with fail
  refine hK.out _ _ (hH.trans (hba.mono hH.size)) (fun hH2 => ?_)
  clear hK K hH
  have hH := hH2
  clear hH2
  refine wpAnyH_takeD (i := 3) (d := some 42) (v := .bool true) rfl rfl (by kernel_rfl) (by kernel_rfl) (by kernel_rfl) (fun _ _ _ h => h) (Or.inl ⟨by rfl, fun _ _ => by go_simp⟩) hH ?_
  simp only [Act.put, List.setIfInBounds_toArray, List.set_cons_zero, List.set_cons_succ]
  refine wpAnyH_takeD (i := 4) (d := some 43) (v := .slice b1 lf d1) rfl rfl (by kernel_rfl) (by kernel_rfl) (by kernel_rfl) (fun _ _ _ h => h) (Or.inl ⟨by rfl, fun _ _ => by go_simp⟩) hH ?_
  simp only [Act.put, List.setIfInBounds_toArray, List.set_cons_zero, List.set_cons_succ]
  refine wpAnyH_takeD (i := 5) (d := some 44) (v := .slice b2 lf d2) rfl rfl (by kernel_rfl) (by kernel_rfl) (by kernel_rfl) (fun _ _ _ h => h) (Or.inl ⟨by rfl, fun _ _ => by go_simp⟩) hH ?_
  simp only [Act.put, List.setIfInBounds_toArray, List.set_cons_zero, List.set_cons_succ]
  refine wpAnyH_ready (rs := [6]) (by kernel_rfl) (by simp) ?_
  refine AllReadyH.cons rfl (fun K hK => ?_) AllReadyH.nil
  go_simp
  refine (HSF.out _ hH).mono ?_
  rintro e wb ⟨rfl, hbb⟩
  go_wp2_with fail
  refine hK.out _ _ (hH.trans (hbb.mono hH.size)) (fun hH2 => ?_)
  clear hK K hH
  have hH := hH2
  clear hH2
  refine wpAnyH_takeD (i := 7) (d := some 46) (v := .bool true) rfl rfl (by kernel_rfl) (by kernel_rfl) (by kernel_rfl) (fun _ _ _ h => h) (Or.inl ⟨by rfl, fun _ _ => by go_simp⟩) hH ?_
  simp only [Act.put, List.setIfInBounds_toArray, List.set_cons_zero, List.set_cons_succ]
  refine wpAnyH_takeD (i := 8) (d := some 47) (v := .bool true) rfl rfl (by kernel_rfl) (by kernel_rfl) (by kernel_rfl) (fun _ _ _ h => h) (Or.inl ⟨by rfl, fun _ _ => by go_simp⟩) hH ?_
  simp only [Act.put, List.setIfInBounds_toArray, List.set_cons_zero, List.set_cons_succ]
  refine wpAnyH_takeD (i := 9) (d := some 48) (v := .int .i64 (beginC n ops).2.2) rfl rfl (by kernel_rfl) (by kernel_rfl) (by kernel_rfl) (fun _ _ _ h => h) (Or.inl ⟨by rfl, fun _ _ => by go_simp⟩) hH ?_
  simp only [Act.put, List.setIfInBounds_toArray, List.set_cons_zero, List.set_cons_succ]
  refine wpAnyH_takeD (i := 10) (d := some 49) (v := .int .i64 (beginC n ops).2.2) rfl rfl (by kernel_rfl) (by kernel_rfl) (by kernel_rfl) (fun _ _ _ h => h) (Or.inl ⟨by rfl, fun _ _ => by go_simp⟩) hH ?_
  simp only [Act.put, List.setIfInBounds_toArray, List.set_cons_zero, List.set_cons_succ]
  refine wpAnyH_takeD (i := 11) (d := some 50) (v := .bool true) rfl rfl (by kernel_rfl) (by kernel_rfl) (by kernel_rfl) (fun _ _ _ h => h) (Or.inl ⟨by rfl, fun _ _ => by go_simp⟩) hH ?_
  simp only [Act.put, List.setIfInBounds_toArray, List.set_cons_zero, List.set_cons_succ]
  refine wpAnyH_takeD (i := 12) (d := some 51) (v := .bool true) rfl rfl (by kernel_rfl) (by kernel_rfl) (by kernel_rfl) (fun _ _ _ h => h) (Or.inl ⟨by rfl, fun _ _ => by go_simp⟩) hH ?_
  simp only [Act.put, List.setIfInBounds_toArray, List.set_cons_zero, List.set_cons_succ]
  refine wpAnyH_takeD (i := 13) (d := some 52) (v := .bool true) rfl rfl (by kernel_rfl) (by kernel_rfl) (by kernel_rfl) (fun _ _ _ h => h) (Or.inl ⟨by rfl, fun _ _ => by go_simp⟩) hH ?_
  simp only [Act.put, List.setIfInBounds_toArray, List.set_cons_zero, List.set_cons_succ]
  refine wpAnyH_takeD (i := 14) (d := some 53) (v := .agg g3.toArray) rfl rfl (by kernel_rfl) (by kernel_rfl) (by kernel_rfl) (fun _ _ _ h => h) (yieldsIf_load_mid (by rfl) _ _ rfl _ _ rfl g3 _ (fun _ h => range_keep r3 h hC) Try.underlying73 rfl z3) hH ?_
  simp only [Act.put, List.setIfInBounds_toArray, List.set_cons_zero, List.set_cons_succ]
  refine wpAnyH_takeD (i := 15) (d := some 54) (v := .int .i64 id) rfl rfl (by kernel_rfl) (by kernel_rfl) (by kernel_rfl) (fun _ _ _ h => h) (Or.inl ⟨by rfl, fun _ _ => by go_simp⟩) hH ?_
  simp only [Act.put, List.setIfInBounds_toArray, List.set_cons_zero, List.set_cons_succ]
  refine wpAnyH_takeD (i := 17) (d := some 56) (v := .agg g3.toArray) rfl rfl (by kernel_rfl) (by kernel_rfl) (by kernel_rfl) (fun _ _ _ h => h) (yieldsIf_load_mid (by rfl) _ _ rfl _ _ rfl g3 _ (fun _ h => range_keep r3 h hC) Try.underlying73 rfl z3) hH ?_
  simp only [Act.put, List.setIfInBounds_toArray, List.set_cons_zero, List.set_cons_succ]
  refine wpAnyH_takeD (i := 18) (d := some 57) (v := .int .i64 id) rfl rfl (by kernel_rfl) (by kernel_rfl) (by kernel_rfl) (fun _ _ _ h => h) (Or.inl ⟨by rfl, fun _ _ => by go_simp⟩) hH ?_
  simp only [Act.put, List.setIfInBounds_toArray, List.set_cons_zero, List.set_cons_succ]
  refine wpAnyH_ready (rs := [16]) (by kernel_rfl) (by simp) ?_
  refine AllReadyH.cons rfl (fun K hK => ?_) AllReadyH.nil
  go_simp
  refine (HAg.out _ hH).mono ?_
  rintro e wc ⟨xs, rfl, hfx, hbc⟩
  obtain ⟨ax, cx, exs⟩ := hfx.form
  subst exs
  go_wp2_with fail
  refine hK.out _ _ (hH.trans (hbc.mono hH.size)) (fun hH2 => ?_)
  clear hK K hH
  have hH := hH2
  clear hH2
  refine wpAnyH_ready (rs := [19]) (by kernel_rfl) (by simp) ?_
  refine AllReadyH.cons rfl (fun K hK => ?_) AllReadyH.nil
  go_simp
  refine (HAr.out _ hH).mono ?_
  rintro e wd ⟨ys, rfl, hfy, hbd⟩
  obtain ⟨ay, cy, eys⟩ := hfy.form
  subst eys
  go_wp2_with fail
  refine hK.out _ _ (hH.trans (hbd.mono hH.size)) (fun hH2 => ?_)
  clear hK K hH
  have hH := hH2
  clear hH2
  refine wpAnyH_ready (rs := [20]) (by kernel_rfl) (by simp) ?_
  refine AllReadyH.cons rfl (fun K hK => ?_) AllReadyH.nil
  go_simp
  refine (ref_sameFrames_any ax cx ay cy (againC c id) _ hfy.len ((hfx.later hbd).frsIn) hfy.frsIn).mono ?_
  rintro e we ⟨rfl, hbe⟩
  go_wp2_with fail
  refine hK.out _ _ (hH.trans (hbe.mono hH.size)) (fun hH2 => ?_)
  clear hK K hH
  have hH := hH2
  clear hH2
  refine wpAnyH_takeD (i := 21) (d := some 60) (v := .bool true) rfl rfl (by kernel_rfl) (by kernel_rfl) (by kernel_rfl) (fun _ _ _ h => h) (Or.inl ⟨by rfl, fun _ _ => by go_simp⟩) hH ?_
  simp only [Act.put, List.setIfInBounds_toArray, List.set_cons_zero, List.set_cons_succ]
  refine wpAnyH_takeD (i := 22) (d := some 61) (v := .bool true) rfl rfl (by kernel_rfl) (by kernel_rfl) (by kernel_rfl) (fun _ _ _ h => h) (Or.inl ⟨by rfl, fun _ _ => by go_simp⟩) hH ?_
  simp only [Act.put, List.setIfInBounds_toArray, List.set_cons_zero, List.set_cons_succ]
  refine wpAnyH_takeD (i := 23) (d := some 62) (v := .slice b3 lr d3) rfl rfl (by kernel_rfl) (by kernel_rfl) (by kernel_rfl) (fun _ _ _ h => h) (Or.inl ⟨by rfl, fun _ _ => by go_simp⟩) hH ?_
  simp only [Act.put, List.setIfInBounds_toArray, List.set_cons_zero, List.set_cons_succ]
  refine wpAnyH_takeD (i := 24) (d := some 63) (v := .slice b4 lr d4) rfl rfl (by kernel_rfl) (by kernel_rfl) (by kernel_rfl) (fun _ _ _ h => h) (Or.inl ⟨by rfl, fun _ _ => by go_simp⟩) hH ?_
  simp only [Act.put, List.setIfInBounds_toArray, List.set_cons_zero, List.set_cons_succ]
  refine wpAnyH_ready (rs := [25]) (by kernel_rfl) (by simp) ?_
  refine AllReadyH.cons rfl (fun K hK => ?_) AllReadyH.nil
  go_simp
  refine (HSN.out _ hH).mono ?_
  rintro e wf ⟨rfl, hbf⟩
  go_wp2_with fail
  refine hK.out _ _ (hH.trans (hbf.mono hH.size)) (fun hH2 => ?_)
  clear hK K hH
  have hH := hH2
  clear hH2
  refine wpAnyH_takeD (i := 26) (d := some 65) (v := .bool true) rfl rfl (by kernel_rfl) (by kernel_rfl) (by kernel_rfl) (fun _ _ _ h => h) (Or.inl ⟨by rfl, fun _ _ => by go_simp⟩) hH ?_
  simp only [Act.put, List.setIfInBounds_toArray, List.set_cons_zero, List.set_cons_succ]
  refine wpAnyH_takeD (i := 27) (d := some 66) (v := .bool true) rfl rfl (by kernel_rfl) (by kernel_rfl) (by kernel_rfl) (fun _ _ _ h => h) (Or.inl ⟨by rfl, fun _ _ => by go_simp⟩) hH ?_
  simp only [Act.put, List.setIfInBounds_toArray, List.set_cons_zero, List.set_cons_succ]
  refine wpAnyH_takeD (i := 28) (d := some 67) (v := .bool okr) rfl rfl (by kernel_rfl) (by kernel_rfl) (by kernel_rfl) (fun _ _ _ h => h) (Or.inl ⟨by rfl, fun _ _ => by go_simp⟩) hH ?_
  simp only [Act.put, List.setIfInBounds_toArray, List.set_cons_zero, List.set_cons_succ]
  refine wpAnyH_takeD (i := 29) (d := some 68) (v := .bool okr) rfl rfl (by kernel_rfl) (by kernel_rfl) (by kernel_rfl) (fun _ _ _ h => h) (Or.inl ⟨by rfl, fun _ _ => by go_simp⟩) hH ?_
  simp only [Act.put, List.setIfInBounds_toArray, List.set_cons_zero, List.set_cons_succ]
  refine wpAnyH_takeD (i := 30) (d := some 69) (v := .bool true) rfl rfl (by kernel_rfl) (by kernel_rfl) (by kernel_rfl) (fun _ _ _ h => h) (Or.inl ⟨by rfl, fun _ _ => by go_simp⟩) hH ?_
  simp only [Act.put, List.setIfInBounds_toArray, List.set_cons_zero, List.set_cons_succ]
  refine wpAnyH_takeD (i := 31) (d := some 70) (v := .bool true) rfl rfl (by kernel_rfl) (by kernel_rfl) (by kernel_rfl) (fun _ _ _ h => h) (Or.inl ⟨by rfl, fun _ _ => by go_simp⟩) hH ?_
  simp only [Act.put, List.setIfInBounds_toArray, List.set_cons_zero, List.set_cons_succ]
  refine wpAnyH_takeD (i := 32) (d := some 71) (v := .bool true) rfl rfl (by kernel_rfl) (by kernel_rfl) (by kernel_rfl) (fun _ _ _ h => h) (Or.inl ⟨by rfl, fun _ _ => by go_simp⟩) hH ?_
  simp only [Act.put, List.setIfInBounds_toArray, List.set_cons_zero, List.set_cons_succ]
  refine wpAnyH_takeD (i := 33) (d := some 72) (v := .agg g3.toArray) rfl rfl (by kernel_rfl) (by kernel_rfl) (by kernel_rfl) (fun _ _ _ h => h) (yieldsIf_load_mid (by rfl) _ _ rfl _ _ rfl g3 _ (fun _ h => range_keep r3 h hC) Try.underlying73 rfl z3) hH ?_
  simp only [Act.put, List.setIfInBounds_toArray, List.set_cons_zero, List.set_cons_succ]
  refine wpAnyH_takeD (i := 35) (d := some 74) (v := .agg g3.toArray) rfl rfl (by kernel_rfl) (by kernel_rfl) (by kernel_rfl) (fun _ _ _ h => h) (yieldsIf_load_mid (by rfl) _ _ rfl _ _ rfl g3 _ (fun _ h => range_keep r3 h hC) Try.underlying73 rfl z3) hH ?_
  simp only [Act.put, List.setIfInBounds_toArray, List.set_cons_zero, List.set_cons_succ]
  refine wpAnyH_ready (rs := [34]) (by kernel_rfl) (by simp) ?_
  refine AllReadyH.cons rfl (fun K hK => ?_) AllReadyH.nil
  go_simp
  refine (HGd.out _ hH).mono ?_
  rintro e wg ⟨rfl, hbg⟩
  go_wp2_with fail
  refine hK.out _ _ (hH.trans (hbg.mono hH.size)) (fun hH2 => ?_)
  clear hK K hH
  have hH := hH2
  clear hH2
  refine wpAnyH_ready (rs := [36]) (by kernel_rfl) (by simp) ?_
  refine AllReadyH.cons rfl (fun K hK => ?_) AllReadyH.nil
  go_simp
  refine (HIs.out _ hH).mono ?_
  rintro e wh ⟨rfl, hbh⟩
  go_wp2_with fail
  refine hK.out _ _ (hH.trans (hbh.mono hH.size)) (fun hH2 => ?_)
  clear hK K hH
  have hH := hH2
  clear hH2
  refine wpAnyH_takeD (i := 37) (d := some 76) (v := .bool true) rfl rfl (by kernel_rfl) (by kernel_rfl) (by kernel_rfl) (fun _ _ _ h => h) (Or.inl ⟨by rfl, fun _ _ => by go_simp⟩) hH ?_
  simp only [Act.put, List.setIfInBounds_toArray, List.set_cons_zero, List.set_cons_succ]
  refine wpAnyH_takeD (i := 38) (d := some 77) (v := .bool true) rfl rfl (by kernel_rfl) (by kernel_rfl) (by kernel_rfl) (fun _ _ _ h => h) (Or.inl ⟨by rfl, fun _ _ => by go_simp⟩) hH ?_
  simp only [Act.put, List.setIfInBounds_toArray, List.set_cons_zero, List.set_cons_succ]
  refine wpAnyH_takeD (i := 39) (d := some 78) (v := .bool true) rfl rfl (by kernel_rfl) (by kernel_rfl) (by kernel_rfl) (fun _ _ _ h => h) (Or.inl ⟨by rfl, fun _ _ => by go_simp⟩) hH ?_
  simp only [Act.put, List.setIfInBounds_toArray, List.set_cons_zero, List.set_cons_succ]
  refine wpAnyH_ready (rs := [40]) (by kernel_rfl) (by simp) ?_
  refine AllReadyH.cons rfl (fun K hK => ?_) AllReadyH.nil
  go_simp
  refine (law_posts _).mono ?_
  rintro e wi ⟨rfl, hbi⟩
  go_wp2_with fail
  refine hK.out _ _ (hH.trans (hbi.mono hH.size)) (fun hH2 => ?_)
  clear hK K hH
  have hH := hH2
  clear hH2
  refine wpAnyH_takeD (i := 41) (d := some 80) (v := .bool true) rfl rfl (by kernel_rfl) (by kernel_rfl) (by kernel_rfl) (fun _ _ _ h => h) (Or.inl ⟨by rfl, fun _ _ => by go_simp⟩) hH ?_
  simp only [Act.put, List.setIfInBounds_toArray, List.set_cons_zero, List.set_cons_succ]
  refine wpAnyH_takeD (i := 42) (d := some 6) (v := .bool true) rfl rfl (by kernel_rfl) (by kernel_rfl) (by kernel_rfl) (fun _ _ _ h => h) (Or.inl ⟨by rfl, fun _ _ => by go_simp⟩) hH ?_
  simp only [Act.put, List.setIfInBounds_toArray, List.set_cons_zero, List.set_cons_succ]
  refine wpAnyH_done (by kernel_rfl) ?_ _
  have HF : Hid (Below w.heap.size w wi) := HwV.out.trans (hH.mono (by omega))
  go_wp2
  go_ret
  exact ⟨rfl, HF.out⟩

end Go.Proofs.Ytkoefoccbjhoiab

namespace Go.Proofs.Ytkoefoccbjhoiab
open Go.ChangeShapes Go.WideShapes Go.ChangeAt Go.RowKit Go.Deep

theorem array7 {α : Type} {cs : Array α} (h : cs.size = 7) : ∃ c0 c1 c2 c3 c4 c5 c6, cs = #[c0, c1, c2, c3, c4, c5, c6] := by
  obtain ⟨l⟩ := cs
  match l, h with
  | [c0, c1, c2, c3, c4, c5, c6], _ => exact ⟨c0, c1, c2, c3, c4, c5, c6, rfl⟩

theorem list7 {α : Type} {l : List α} (h : l.length = 7) : ∃ c0 c1 c2 c3 c4 c5 c6, l = [c0, c1, c2, c3, c4, c5, c6] := by
  match l, h with
  | [c0, c1, c2, c3, c4, c5, c6], _ => exact ⟨c0, c1, c2, c3, c4, c5, c6, rfl⟩
theorem Try.cellsFrame : Try.prog.cellsOf 43 = 7 := by kernel_rfl
theorem Try.cellsOps : Try.prog.cellsOf 35 = 1 := by kernel_rfl
theorem Try.cellsInts : Try.prog.cellsOf 23 = 1 := by kernel_rfl

theorem str_self (s : ByteArray) : s = str s.data.toList := by
  apply ByteArray.ext
  simp [str]

section
variable {H : Type} {enc : TypeId × Value → H} {w : World} {base : Nat} {spare : Nat → Bool} {held : Bool}

theorem open_sl_ints {n : Nat} {c : Value} {y : DataW H × List MemPlace} (h : DataW.trod enc Try.prog w base spare held n 23 [c] = some y) : ∃ a cap zs, c = .slice a (zs : List Int).length cap ∧ SlInts w a cap zs := by
  obtain ⟨a, l, cap, hc⟩ := Joins.slice_form Try.underlying23 h
  simp at hc
  subst hc
  obtain ⟨hl, zs, rfl, hz, _, hn, hcap⟩ := open_intsAt Try.underlying23 Try.underlying3 Try.cellsInt h
  exact ⟨a, cap, zs, rfl, hz, hl, hcap, hn⟩
theorem open_sl_ops {n : Nat} {c : Value} {y : DataW H × List MemPlace} (h : DataW.trod enc Try.prog w base spare held n 35 [c] = some y) : ∃ a cap zs, c = .slice a (zs : List OpL).length cap ∧ SlOps w a cap zs := by
  obtain ⟨a, l, cap, hc⟩ := Joins.slice_form Try.underlying35 h
  simp at hc
  subst hc
  obtain ⟨hl, zs, rfl, hz, _, hn, hcap⟩ := open_opsAt Try.underlying35 Try.underlying108 Try.underlying3 Try.cellsOp Try.cellsInt rfl rfl rfl rfl rfl rfl h
  exact ⟨a, cap, zs, rfl, hz, hl, hcap, hn⟩

set_option maxRecDepth 100000 in
theorem open_frame {r : Reach} {b0 : Nat} {v : Value} {d : DataW H} {p : List MemPlace} (hv : Value.okWide Try.prog w r b0 43 v) (h : DataW.Trod enc Try.prog w base spare held 43 v d p) : ∃ f, FrameV w v f := by
  obtain ⟨cs, rfl, hsz⟩ := okWide_struct Try.underlying43 hv
  obtain ⟨c0, c1, c2, c3, c4, c5, c6, rfl⟩ := array7 (hsz.trans Try.cellsFrame)
  obtain ⟨fuel, hf⟩ := h
  obtain ⟨xs, n, _, _, _, hxl, hff⟩ := DataW.trod_struct Try.underlying43 hf
  have g0 := hff 0 _ rfl
  have g1 := hff 1 _ rfl
  have g2 := hff 2 _ rfl
  have g3 := hff 3 _ rfl
  have g4 := hff 4 _ rfl
  have g5 := hff 5 _ rfl
  have g6 := hff 6 _ rfl
  simp [Value.cells, Try.cellsInt, Try.cellsOps, Try.cellsInts] at g0 g1 g2 g3 g4 g5 g6
  obtain ⟨x0, x1, x2, x3, x4, x5, x6, rfl⟩ := list7 hxl
  obtain ⟨n0, r0, _, _⟩ := DataW.trod_int Try.underlying3 g0
  obtain ⟨n1, r1, _, _⟩ := DataW.trod_int Try.underlying3 g1
  obtain ⟨n2, r2, _, _⟩ := DataW.trod_int Try.underlying3 g2
  simp at r0 r1 r2
  subst r0 r1 r2
  obtain ⟨a3, d3, z3, rfl, h3⟩ := open_sl_ops g3
  obtain ⟨a4, d4, z4, rfl, h4⟩ := open_sl_ints g4
  obtain ⟨a5, d5, z5, rfl, h5⟩ := open_sl_ints g5
  obtain ⟨a6, d6, z6, rfl, h6⟩ := open_sl_ints g6
  exact ⟨⟨n0, n1, n2, z3, z4, z5, z6⟩, a3, d3, a4, d4, a5, d5, a6, d6, rfl, h3, h4, h5, h6⟩
end

end Go.Proofs.Ytkoefoccbjhoiab

namespace Go.Proofs.Ytkoefoccbjhoiab
open Go.ChangeShapes Go.WideShapes Go.ChangeAt Go.RowKit Go.Deep

/-- The lists take no more bytes than memory has. -/
def Room (f : FrameL) : Prop := f.ops.length * 24 ≤ 140737488355328 ∧ f.deps.length * 8 ≤ 140737488355328 ∧ f.ats.length * 8 ≤ 140737488355328 ∧ f.vals.length * 8 ≤ 140737488355328

section
variable {H : Type} {enc : TypeId × Value → H} {w : World} {base : Nat} {spare : Nat → Bool} {held : Bool}

theorem room_ints {n : Nat} {a : Option Addr} {len cap : Nat} {y : DataW H × List MemPlace} (h : DataW.trod enc Try.prog w base spare held n 23 [.slice a len cap] = some y) (hw : ∀ m ∈ y.1.weights Try.prog 23, m ≤ reachBytes) : len * 8 ≤ 140737488355328 := by
  obtain ⟨d, p⟩ := y
  rcases slice_datum Try.underlying23 h with hq | ⟨el, sp, rfl, hel⟩
  · omega
  · have := hw ((el.length + sp.length) * Try.prog.bytesOf 3) (by simp [DataW.weights, Try.underlying23])
    rw [Try.bytesInt] at this
    unfold reachBytes at this
    omega
theorem room_ops {n : Nat} {a : Option Addr} {len cap : Nat} {y : DataW H × List MemPlace} (h : DataW.trod enc Try.prog w base spare held n 35 [.slice a len cap] = some y) (hw : ∀ m ∈ y.1.weights Try.prog 35, m ≤ reachBytes) : len * 24 ≤ 140737488355328 := by
  obtain ⟨d, p⟩ := y
  rcases slice_datum Try.underlying35 h with hq | ⟨el, sp, rfl, hel⟩
  · omega
  · have := hw ((el.length + sp.length) * Try.prog.bytesOf 108) (by simp [DataW.weights, Try.underlying35])
    rw [Try.bytesOp] at this
    unfold reachBytes at this
    omega
end

end Go.Proofs.Ytkoefoccbjhoiab

namespace Go.Proofs.Ytkoefoccbjhoiab
open Go.ChangeShapes Go.WideShapes Go.ChangeAt Go.RowKit Go.Deep

theorem Try.cellsGraph : Try.prog.cellsOf 26 = 64 := by kernel_rfl
theorem Try.cellsSet : Try.prog.cellsOf 22 = 32 := by kernel_rfl
theorem Try.cellsLists : Try.prog.cellsOf 24 = 32 := by kernel_rfl
theorem Try.cellsBool : Try.prog.cellsOf 4 = 1 := by kernel_rfl
theorem Try.cellsSlice : Try.prog.cellsOf 23 = 1 := by kernel_rfl

theorem part_one {cs : List Value} {o n i : Nat} (h : o + i < cs.length) (hi : i < n) : ((((cs.drop o).take n).drop i).take 1) = [cs.getD (o + i) (.bool false)] := by
  apply List.ext_getElem?
  intro k
  cases k with
  | zero => simp [hi, List.getD, h]
  | succ k => simp; omega

section
variable {H : Type} {enc : TypeId × Value → H} {w : World} {base : Nat} {spare : Nat → Bool} {held : Bool}

set_option maxRecDepth 100000 in
theorem open_graph {r : Reach} {b0 : Nat} {v : Value} {d : DataW H} {p : List MemPlace} (hv : Value.okWide Try.prog w r b0 26 v) (h : DataW.Trod enc Try.prog w base spare held 26 v d p) :
    ∃ gv g, v = .agg (rowF 64 gv) ∧ GraphC w.heap.size w gv g := by
  obtain ⟨cs, rfl, hsz⟩ := okWide_struct Try.underlying26 hv
  rw [Try.cellsGraph] at hsz
  obtain ⟨fuel, hf⟩ := h
  obtain ⟨xs, n, _, _, _, hxl, hff⟩ := DataW.trod_struct Try.underlying26 hf
  have g0 : DataW.trod enc Try.prog w base spare held n 22 ((cs.toList.drop 0).take (Try.prog.cellsOf 22)) = xs[0]? := hff 0 _ rfl
  have g1 : DataW.trod enc Try.prog w base spare held n 24 ((cs.toList.drop 32).take (Try.prog.cellsOf 24)) = xs[1]? := hff 1 _ rfl
  have hl : cs.toList.length = 64 := by simpa using hsz
  rw [Try.cellsSet] at g0
  rw [Try.cellsLists] at g1
  obtain ⟨x0, hx0⟩ : ∃ x, xs[0]? = some x := ⟨_, List.getElem?_eq_getElem (by rw [hxl]; decide)⟩
  obtain ⟨x1, hx1⟩ : ∃ x, xs[1]? = some x := ⟨_, List.getElem?_eq_getElem (by rw [hxl]; decide)⟩
  rw [hx0] at g0
  rw [hx1] at g1
  obtain ⟨ys, _, _, _, _, hyl, hy⟩ := DataW.trod_array Try.underlying22 g0
  obtain ⟨zs, _, _, _, _, hzl, hz⟩ := DataW.trod_array Try.underlying24 g1
  have H1 : ∀ i, i < 32 → ∃ b, cs.toList.getD i (.bool false) = .bool b := by
    intro i hi
    have := hy i hi
    rw [Try.cellsBool, Nat.mul_one, part_one (by omega) hi, List.getElem?_eq_getElem (by omega)] at this
    obtain ⟨b, hb, _⟩ := DataW.trod_bool Try.underlying4 this
    rw [Nat.zero_add] at hb
    exact ⟨b, by simpa using hb⟩
  have H2 : ∀ i, i < 32 → ∃ q : Option Addr × Nat × List Int, cs.toList.getD (32 + i) (.bool false) = .slice q.1 q.2.2.length q.2.1 ∧ IntsAt w.heap.size w q.1 q.2.2 ∧ q.2.2.length ≤ maxLen := by
    intro i hi
    have := hz i hi
    rw [Try.cellsSlice, Nat.mul_one, part_one (by omega) hi, List.getElem?_eq_getElem (by omega)] at this
    obtain ⟨a, l, cap, hc⟩ := Joins.slice_form Try.underlying23 this
    simp only [List.cons.injEq, and_true] at hc
    rw [hc] at this
    obtain ⟨h1, ns, rfl, h2, _⟩ := open_intsAt Try.underlying23 Try.underlying3 Try.cellsInt this
    exact ⟨(a, cap, ns), hc, h2, h1⟩
  obtain ⟨K, hK⟩ := choose_lt H1
  obtain ⟨Q, hQ⟩ := choose_lt H2
  refine ⟨fun i => cs.toList.getD i (.bool false), ⟨K, fun i => (Q i).2.2⟩, ?_, ⟨hK, fun i hi => ⟨(Q i).1, (Q i).2.1, (hQ i hi).1, (hQ i hi).2.1, (hQ i hi).2.2⟩⟩⟩
  congr 1
  apply Array.ext_getElem?
  intro i
  by_cases hi : i < 64
  · rw [rowF_get _ hi]
    simp [List.getD, hsz, hi]
  · rw [Array.getElem?_eq_none (by omega), Array.getElem?_eq_none (by rw [rowF_size]; omega)]
end

end Go.Proofs.Ytkoefoccbjhoiab

namespace Go.Proofs.Ytkoefoccbjhoiab
open Go.ChangeShapes Go.WideShapes Go.ChangeAt Go.RowKit Go.Deep

theorem Try.cellsCase : Try.prog.cellsOf 73 = 24 := by kernel_rfl
theorem Try.cellsTxn : Try.prog.cellsOf 68 = 2 := by kernel_rfl
theorem Try.cellsSix : Try.prog.cellsOf 69 = 6 := by kernel_rfl
theorem Try.cellsFour : Try.prog.cellsOf 70 = 4 := by kernel_rfl
theorem Try.cellsFourI : Try.prog.cellsOf 71 = 4 := by kernel_rfl
theorem list8 {α : Type} {l : List α} (h : l.length = 8) : ∃ a b c d e f g h, l = [a, b, c, d, e, f, g, h] := by
  match l, h with
  | [a, b, c, d, e, f, g, h], _ => exact ⟨a, b, c, d, e, f, g, h, rfl⟩
theorem list2 {α : Type} {l : List α} (h : l.length = 2) : ∃ a b, l = [a, b] := by
  match l, h with
  | [a, b], _ => exact ⟨a, b, rfl⟩

section
variable {H : Type} {enc : TypeId × Value → H} {w : World} {base : Nat} {spare : Nat → Bool} {held : Bool}

theorem one_of {cs : List Value} {o : Nat} (h : o < cs.length) : (cs.drop o).take 1 = [cs.getD o (.bool false)] := by
  have := part_one (cs := cs) (o := o) (n := 1) (i := 0) (by omega) (by omega)
  simp only [List.drop_zero, List.take_take, Nat.min_self, Nat.add_zero] at this
  exact this

set_option maxRecDepth 100000 in
theorem open_case {r : Reach} {b0 : Nat} {v : Value} {d : DataW H} {p : List MemPlace} (hv : Value.okWide Try.prog w r b0 73 v) (h : DataW.Trod enc Try.prog w base spare held 73 v d p) (hw : ∀ m ∈ d.weights Try.prog 73, m ≤ reachBytes) :
    ∃ nv c, v = .agg (rowF 24 nv) ∧ CaseC (· < w.heap.size) w nv c := by
  obtain ⟨cs, rfl, hsz⟩ := okWide_struct Try.underlying73 hv
  rw [Try.cellsCase] at hsz
  obtain ⟨fuel, hf⟩ := h
  obtain ⟨xs, n, _, hd, _, hxl, hff⟩ := DataW.trod_struct Try.underlying73 hf
  have g0 : DataW.trod enc Try.prog w base spare held n 4 ((cs.toList.drop 0).take (Try.prog.cellsOf 4)) = xs[0]? := hff 0 _ rfl
  have g1 : DataW.trod enc Try.prog w base spare held n 4 ((cs.toList.drop 1).take (Try.prog.cellsOf 4)) = xs[1]? := hff 1 _ rfl
  have g2 : DataW.trod enc Try.prog w base spare held n 35 ((cs.toList.drop 2).take (Try.prog.cellsOf 35)) = xs[2]? := hff 2 _ rfl
  have g3 : DataW.trod enc Try.prog w base spare held n 69 ((cs.toList.drop 3).take (Try.prog.cellsOf 69)) = xs[3]? := hff 3 _ rfl
  have g4 : DataW.trod enc Try.prog w base spare held n 69 ((cs.toList.drop 9).take (Try.prog.cellsOf 69)) = xs[4]? := hff 4 _ rfl
  have g5 : DataW.trod enc Try.prog w base spare held n 23 ((cs.toList.drop 15).take (Try.prog.cellsOf 23)) = xs[5]? := hff 5 _ rfl
  have g6 : DataW.trod enc Try.prog w base spare held n 70 ((cs.toList.drop 16).take (Try.prog.cellsOf 70)) = xs[6]? := hff 6 _ rfl
  have g7 : DataW.trod enc Try.prog w base spare held n 71 ((cs.toList.drop 20).take (Try.prog.cellsOf 71)) = xs[7]? := hff 7 _ rfl
  have hl : cs.toList.length = 24 := by simpa using hsz
  rw [Try.cellsBool, one_of (by omega)] at g0 g1
  rw [Try.cellsOps, one_of (by omega)] at g2
  rw [Try.cellsSix] at g3 g4
  rw [Try.cellsSlice, one_of (by omega)] at g5
  rw [Try.cellsFour] at g6
  rw [Try.cellsFourI] at g7
  obtain ⟨x0, x1, x2, x3, x4, x5, x6, x7, rfl⟩ := list8 hxl
  simp only [List.getElem?_cons_zero, List.getElem?_cons_succ] at g0 g1 g2 g3 g4 g5 g6 g7
  simp only [Prod.mk.injEq] at hd
  obtain ⟨rfl, _⟩ := hd
  simp [DataW.weights, Try.underlying73] at hw
  have W := fun (j : Nat) t y h1 h2 m hm => hw m (DataW.weights_mem_each (j := j) (t := t) (d := y) h1 h2 m hm)
  obtain ⟨b0, e0, _⟩ := DataW.trod_bool Try.underlying4 g0
  obtain ⟨b1, e1, _⟩ := DataW.trod_bool Try.underlying4 g1
  simp only [List.cons.injEq, and_true] at e0 e1
  obtain ⟨a2, d2, z2, e2, h2⟩ := open_sl_ops g2
  obtain ⟨a5, d5, z5, e5, h5⟩ := open_sl_ints g5
  have r2 := g2
  rw [e2] at r2
  have l2 := room_ops r2 (W 2 _ _ rfl rfl)
  have r5 := g5
  rw [e5] at r5
  have l5 := room_ints r5 (W 5 _ _ rfl rfl)
  obtain ⟨y3, _, _, _, _, hy3, t3⟩ := DataW.trod_array Try.underlying69 g3
  obtain ⟨y4, _, _, _, _, hy4, t4⟩ := DataW.trod_array Try.underlying69 g4
  obtain ⟨y6, _, _, _, _, hy6, t6⟩ := DataW.trod_array Try.underlying70 g6
  obtain ⟨y7, _, _, _, _, hy7, t7⟩ := DataW.trod_array Try.underlying71 g7
  have H3 : ∀ i, i < 6 → ∃ b, cs.toList.getD (3 + i) (.bool false) = .bool b := by
    intro i hi
    have := t3 i hi
    rw [Try.cellsBool, Nat.mul_one, part_one (by omega) hi, List.getElem?_eq_getElem (by omega)] at this
    obtain ⟨b, hb, _⟩ := DataW.trod_bool Try.underlying4 this
    exact ⟨b, by simpa using hb⟩
  have H4 : ∀ i, i < 6 → ∃ b, cs.toList.getD (9 + i) (.bool false) = .bool b := by
    intro i hi
    have := t4 i hi
    rw [Try.cellsBool, Nat.mul_one, part_one (by omega) hi, List.getElem?_eq_getElem (by omega)] at this
    obtain ⟨b, hb, _⟩ := DataW.trod_bool Try.underlying4 this
    exact ⟨b, by simpa using hb⟩
  have H6 : ∀ i, i < 4 → ∃ b, cs.toList.getD (16 + i) (.bool false) = .bool b := by
    intro i hi
    have := t6 i hi
    rw [Try.cellsBool, Nat.mul_one, part_one (by omega) hi, List.getElem?_eq_getElem (by omega)] at this
    obtain ⟨b, hb, _⟩ := DataW.trod_bool Try.underlying4 this
    exact ⟨b, by simpa using hb⟩
  have H7 : ∀ i, i < 4 → ∃ q : Int, cs.toList.getD (20 + i) (.bool false) = .int .i64 q := by
    intro i hi
    have := t7 i hi
    rw [Try.cellsInt, Nat.mul_one, part_one (by omega) hi, List.getElem?_eq_getElem (by omega)] at this
    obtain ⟨q, hq, _⟩ := DataW.trod_int Try.underlying3 this
    exact ⟨q, by simpa using hq⟩
  obtain ⟨T, hT⟩ := choose_lt H3
  obtain ⟨K, hK⟩ := choose_lt H4
  obtain ⟨A, hA⟩ := choose_lt H6
  obtain ⟨V, hV⟩ := choose_lt H7
  refine ⟨fun i => cs.toList.getD i (.bool false), ⟨b0, b1, z2, T, K, z5, A, V⟩, ?_, ⟨e0, e1, ?_, hT, hK, ?_, hA, hV⟩⟩
  · congr 1
    apply Array.ext_getElem?
    intro i
    by_cases hi : i < 24
    · rw [rowF_get _ hi]
      simp [List.getD, hsz, hi]
    · rw [Array.getElem?_eq_none (by omega), Array.getElem?_eq_none (by rw [rowF_size]; omega)]
  · show IsO _ w (cs.toList.getD 2 (.bool false)) z2
    rw [e2]
    exact IsO.of_sl h2 l2
  · show IsI _ w (cs.toList.getD 15 (.bool false)) z5
    rw [e5]
    exact IsI.of_sl h5 l5

set_option maxRecDepth 100000 in
theorem open_txn {r : Reach} {b0 : Nat} {v : Value} {d : DataW H} {p : List MemPlace} (hv : Value.okWide Try.prog w r b0 68 v) (h : DataW.Trod enc Try.prog w base spare held 68 v d p) :
    ∃ (n : Int) (a : Option Addr) (cap : Nat) (zs : List OpL), v = .agg #[.int .i64 n, .slice a zs.length cap] ∧ SlOps w a cap zs := by
  obtain ⟨cs, rfl, hsz⟩ := okWide_struct Try.underlying68 hv
  rw [Try.cellsTxn] at hsz
  obtain ⟨l⟩ := cs
  obtain ⟨c0, c1, rfl⟩ := list2 (by simpa using hsz)
  obtain ⟨fuel, hf⟩ := h
  obtain ⟨xs, n, _, hd, _, hxl, hff⟩ := DataW.trod_struct Try.underlying68 hf
  have g0 := hff 0 _ rfl
  have g1 := hff 1 _ rfl
  simp [Value.cells, Try.cellsInt, Try.cellsOps] at g0 g1
  obtain ⟨x0, x1, rfl⟩ := list2 hxl
  obtain ⟨n0, r0, _, _⟩ := DataW.trod_int Try.underlying3 g0
  simp at r0
  subst r0
  obtain ⟨a1, d1, z1, rfl, h1⟩ := open_sl_ops g1
  exact ⟨n0, a1, d1, z1, rfl, h1⟩
end

end Go.Proofs.Ytkoefoccbjhoiab
