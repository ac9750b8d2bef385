/-
  A list of frames that a call made, read one by one.
  A list of frames in memory.
  The contract of the document's own SameFrames, at lists that are alike.
  One frame that a node that is nothing takes.
  The contract of the statements' own takes (januspostlaw): node answers at all.
-/
import Derived.Test.YtkoefoccbjhoiabNtk3
import Derived.Test.YtkoefoccbjhoiabNtk15
namespace Go.Proofs.Ytkoefoccbjhoiab
open Go.RowKit

theorem flat7 : ∀ (css : List (List Value)) (i j : Nat), (∀ k, k < css.length → (css.getD k []).length = 7) → i < css.length → j < 7 → css.flatten[i * 7 + j]? = (css.getD i [])[j]?
  | [], i, j, _, hi, _ => by simp at hi
  | c :: css, 0, j, h, _, hj => by
    have h0 : c.length = 7 := by have := h 0 (by simp); simpa using this
    simp only [List.flatten_cons, Nat.zero_mul, Nat.zero_add, List.getD_cons_zero]
    rw [List.getElem?_append_left (by omega)]
  | c :: css, i + 1, j, h, hi, hj => by
    have h0 : c.length = 7 := by have := h 0 (by simp); simpa using this
    have ih := flat7 css i j (fun k hk => by have := h (k + 1) (by simp; omega); simpa using this) (by simp at hi; omega) hj
    simp only [List.flatten_cons, List.getD_cons_succ]
    rw [List.getElem?_append_right (by omega), ← ih]
    congr 1
    omega
/-- The i-th of them. -/
theorem FramesV.at {B : Nat} {w : World} {a : Option Addr} {cap : Nat} {fs : List FrameL} (h : FramesV B w (.slice a fs.length cap) fs) {i : Nat} (hi : i < fs.length) :
    ∃ g cs, a = some ⟨g, 0, none⟩ ∧ g < w.heap.size ∧ w.rangeAt g (i * 7) cs ∧ cs.length = 7 ∧ FrameV w (.agg cs.toArray) fs[i] := by
  obtain ⟨css, h1, h2, h3⟩ := h
  rcases h2.2 with ⟨_, h0⟩ | ⟨g, cp, cur, hv, hB, hg, hc, hm, hcs, htk⟩
  · omega
  · simp only [Value.slice.injEq] at hv
    obtain ⟨rfl, _, rfl⟩ := hv
    have hlt : g < w.heap.size := (Array.getElem?_eq_some_iff.1 hg).1
    refine ⟨g, css.getD i [], rfl, hlt, fun j u hu => ?_, (h3 i hi).1, (h3 i hi).2.v⟩
    have hj : j < 7 := by
      have := (List.getElem?_eq_some_iff.1 hu).1
      rw [(h3 i hi).1] at this
      exact this
    have hf := flat7 css i j (fun k hk => (h3 k (by omega)).1) (by omega) hj
    rw [hu, ← htk, List.getElem?_take_of_lt (by omega)] at hf
    rw [cell_of_row w g (i * 7 + j) cur _ _ hg]
    simpa using hf
theorem FramesV.form {B : Nat} {w : World} {v : Value} {fs : List FrameL} (h : FramesV B w v fs) : ∃ a cap, v = .slice a fs.length cap := by
  obtain ⟨css, _, h2, _⟩ := h
  obtain ⟨a, cap, e, _⟩ := own_form h2
  exact ⟨a, cap, e⟩
theorem FramesV.len {B : Nat} {w : World} {v : Value} {fs : List FrameL} (h : FramesV B w v fs) : fs.length ≤ maxLen := by
  obtain ⟨css, _, h2, _⟩ := h
  rcases h2.2 with ⟨_, h0⟩ | ⟨g, cp, cur, _, _, _, hc, hm, _⟩
  · omega
  · omega

end Go.Proofs.Ytkoefoccbjhoiab

namespace Go.Proofs.Ytkoefoccbjhoiab
open Go.RowKit

/-- Where they lie. -/
def FrsIn (B : Nat) (w : World) (a : Option Addr) (fs : List FrameL) : Prop := fs = [] ∨ ∃ b off, a = some ⟨b, off, none⟩ ∧ b < B ∧ ∀ i, i < fs.length → ∃ cs, cs.length = 7 ∧ w.rangeAt b (off + i * 7) cs ∧ FrameV w (.agg cs.toArray) (fs.getD i zeroF)
theorem FramesV.frsIn {B : Nat} {w : World} {a : Option Addr} {cap : Nat} {fs : List FrameL} (h : FramesV B w (.slice a fs.length cap) fs) : FrsIn w.heap.size w a fs := by
  by_cases h0 : fs = []
  · exact Or.inl h0
  · have hp : 0 < fs.length := List.length_pos_iff.2 h0
    obtain ⟨g, _, ha, hg, _⟩ := h.at hp
    refine Or.inr ⟨g, 0, ha, hg, fun i hi => ?_⟩
    obtain ⟨g', cs, ha', _, hr, hl, hf⟩ := h.at hi
    rw [ha] at ha'
    cases ha'
    refine ⟨cs, hl, by rw [Nat.zero_add]; exact hr, ?_⟩
    have : fs.getD i zeroF = fs[i] := by simp [List.getD, hi]
    rw [this]
    exact hf

end Go.Proofs.Ytkoefoccbjhoiab

namespace Go.Proofs.Ytkoefoccbjhoiab
open Go.RowKit

theorem range_lat {w w' : World} {B c o : Nat} {cs : List Value} (h : w.rangeAt c o cs) (hb : Below B w w') (hc : c < B) : w'.rangeAt c o cs := fun j v hv => by
  rw [hb.cell (p := ⟨c, o + j, none⟩) hc]
  exact h j v hv

set_option maxRecDepth 100000 in
set_option maxHeartbeats 1000000 in
theorem ref_sameFrames_any (a : Option Addr) (cx : Nat) (a' : Option Addr) (cy : Nat) (fs : List FrameL) (w : World) (hl : fs.length ≤ maxLen) (h : FrsIn w.heap.size w a fs) (h' : FrsIn w.heap.size w a' fs) :
    Calls Try.prog 26 #[.slice a fs.length cx, .slice a' fs.length cy] w fun r w' => r = .returned (.bool true) ∧ Below w.heap.size w w' := by
  unfold maxLen at hl
  have H1 : Hid (FrsIn w.heap.size w a fs) := h
  have H2 : Hid (FrsIn w.heap.size w a' fs) := h'
  clear h h'
  go_enter Try.func26, Try.ntmps26
  go_wp2_with fail
  go_loopw [13] (fun i wr => ∃ k : Nat, k ≤ fs.length ∧ i = .int .i64 k ∧ Below w.heap.size w wr) (fun i _ => fs.length - (intOf i).toNat)
  case atStart => exact ⟨0, Nat.zero_le _, rfl, Below.refl _ _⟩
  case round =>
    obtain ⟨i, hi, rfl, hB⟩ := hrel
    by_cases hlt : i < fs.length
    · rcases H1.out with e | ⟨g1, o1, rfl, hg1, hc1⟩
      · rw [e] at hlt; simp at hlt
      rcases H2.out with e | ⟨g2, o2, rfl, hg2, hc2⟩
      · rw [e] at hlt; simp at hlt
      obtain ⟨ca, hla, ra0, hva⟩ := hc1 i hlt
      obtain ⟨cb, hlb, rb0, hvb⟩ := hc2 i hlt
      have ra := range_lat ra0 hB hg1
      have rb := range_lat rb0 hB hg2
      have hz := hB.size
      have HVa : Hid (FrameV wr (.agg ca.toArray) (fs.getD i zeroF)) := hva.later hB
      have HVb : Hid (FrameV wr (.agg cb.toArray) (fs.getD i zeroF)) := hvb.later hB
      have hsa : (Try.prog.info? 43).map (·.size) = some ca.length := by rw [hla]; exact Try.infoFrame7
      have hsb : (Try.prog.info? 43).map (·.size) = some cb.length := by rw [hlb]; exact Try.infoFrame7
      clear hva hvb hla hlb hc1 hc2 ra0 rb0
      go_wp2_with fail
      have HRa : Hid (∀ wx, Below wr.heap.size wr wx → wx.rangeAt g1 (o1 + i * 7) ca) := fun wx hx => range_lat ra hx (by omega)
      have HRb : Hid (∀ wx, Below wr.heap.size wr wx → wx.rangeAt g2 (o2 + i * 7) cb) := fun wx hx => range_lat rb hx (by omega)
      clear ra rb
      refine wp_region_held_drew (S := fun w' => Below wr.heap.size wr w') (by kernel_rfl) ((Below.refl _ _).drew) ?_
      intro hH
      refine wpAnyH_takeD (i := 0) (d := some 16) (v := .slice (some ⟨g1, o1, none⟩) fs.length cx) rfl rfl (by kernel_rfl) (by kernel_rfl) (by kernel_rfl) (fun _ _ _ h => h) (Or.inl ⟨by rfl, fun _ _ => by go_simp⟩) hH ?_
      simp only [Act.put, List.setIfInBounds_toArray, List.set_cons_zero, List.set_cons_succ]
      refine wpAnyH_takeD (i := 1) (d := some 17) (v := .int .i64 i) rfl rfl (by kernel_rfl) (by kernel_rfl) (by kernel_rfl) (fun _ _ _ h => h) (Or.inl ⟨by rfl, fun _ _ => by go_simp⟩) hH ?_
      simp only [Act.put, List.setIfInBounds_toArray, List.set_cons_zero, List.set_cons_succ]
      refine wpAnyH_takeD (i := 2) (d := some 18) (v := .pointer (some ⟨g1, o1 + i * 7, none⟩)) rfl rfl (by kernel_rfl) (by kernel_rfl) (by kernel_rfl) (fun _ _ _ h => h) (Or.inl ⟨by rfl, fun _ _ => by go_simp⟩) hH ?_
      simp only [Act.put, List.setIfInBounds_toArray, List.set_cons_zero, List.set_cons_succ]
      refine wpAnyH_takeD (i := 3) (d := some 19) (v := .agg ca.toArray) rfl rfl (by kernel_rfl) (by kernel_rfl) (by kernel_rfl) (fun _ _ _ h => h) (yieldsIf_load_mid (by rfl) _ _ rfl _ _ rfl ca _ (HRa.out) Try.underlying43 rfl hsa) hH ?_
      simp only [Act.put, List.setIfInBounds_toArray, List.set_cons_zero, List.set_cons_succ]
      refine wpAnyH_takeD (i := 4) (d := some 20) (v := .slice (some ⟨g2, o2, none⟩) fs.length cy) rfl rfl (by kernel_rfl) (by kernel_rfl) (by kernel_rfl) (fun _ _ _ h => h) (Or.inl ⟨by rfl, fun _ _ => by go_simp⟩) hH ?_
      simp only [Act.put, List.setIfInBounds_toArray, List.set_cons_zero, List.set_cons_succ]
      refine wpAnyH_takeD (i := 5) (d := some 21) (v := .int .i64 i) rfl rfl (by kernel_rfl) (by kernel_rfl) (by kernel_rfl) (fun _ _ _ h => h) (Or.inl ⟨by rfl, fun _ _ => by go_simp⟩) hH ?_
      simp only [Act.put, List.setIfInBounds_toArray, List.set_cons_zero, List.set_cons_succ]
      refine wpAnyH_takeD (i := 6) (d := some 22) (v := .pointer (some ⟨g2, o2 + i * 7, none⟩)) rfl rfl (by kernel_rfl) (by kernel_rfl) (by kernel_rfl) (fun _ _ _ h => h) (Or.inl ⟨by rfl, fun _ _ => by go_simp⟩) hH ?_
      simp only [Act.put, List.setIfInBounds_toArray, List.set_cons_zero, List.set_cons_succ]
      refine wpAnyH_takeD (i := 7) (d := some 23) (v := .agg cb.toArray) rfl rfl (by kernel_rfl) (by kernel_rfl) (by kernel_rfl) (fun _ _ _ h => h) (yieldsIf_load_mid (by rfl) _ _ rfl _ _ rfl cb _ (HRb.out) Try.underlying43 rfl hsb) hH ?_
      simp only [Act.put, List.setIfInBounds_toArray, List.set_cons_zero, List.set_cons_succ]
      refine wpAnyH_ready (rs := [8]) (by kernel_rfl) (by simp) ?_
      refine AllReadyH.cons rfl (fun K hK => ?_) AllReadyH.nil
      go_simp
      refine (ref_sameFrame_any _ _ (fs.getD i zeroF) _ (HVa.out.later hH) (HVb.out.later hH)).mono ?_
      rintro r z2 ⟨rfl, hb2⟩
      go_wp2_with fail
      refine hK.out _ _ (hH.trans hb2) (fun hH2 => ?_)
      clear hK K hH
      have hH := hH2
      clear hH2 hb2
      refine wpAnyH_takeD (i := 9) (d := some 25) (v := .bool false) rfl rfl (by kernel_rfl) (by kernel_rfl) (by kernel_rfl) (fun _ _ _ h => h) (Or.inl ⟨by rfl, fun _ _ => by go_simp⟩) hH ?_
      simp only [Act.put, List.setIfInBounds_toArray, List.set_cons_zero, List.set_cons_succ]
      refine wpAnyH_done (by kernel_rfl) ?_ _
      have hB2 : Below w.heap.size w z2 := hB.trans (hH.mono hB.size)
      clear hH
      go_wp2
      go_roundw
      case rel => exact ⟨i + 1, by omega, by go_num, hB2⟩
      case measure => simp [intOf]; omega
    · go_wp2
      go_ret
      exact ⟨rfl, hB⟩

end Go.Proofs.Ytkoefoccbjhoiab

namespace Go.Proofs.Ytkoefoccbjhoiab
open Go.RowKit

def takesF : FrameL := ⟨3, 3, 4, [(2, 1, 9)], [], [], []⟩
theorem takes_ok : (takeN zeroN 3 takesF).2.2 = 0 := by decide +kernel
theorem takes_len : (takeN zeroN 3 takesF).2.1.length = 2 := by decide +kernel
theorem takes_val : (takeN zeroN 3 takesF).1.vals 1 = 9 := by decide +kernel
theorem takes_ord : (takeN zeroN 3 takesF).1.order.length = 1 := by decide +kernel
theorem Try.zcNode : Try.zeroCells41 = rowF 201 zv := by kernel_rfl

theorem takes_call (W : World) (cs : Array Value) (h : FrameV W (.agg cs) takesF) : ∃ T : NodeL × List FrameL × Int, T.2.2 = 0 ∧ T.2.1.length = 2 ∧ T.1.vals 1 = 9 ∧ T.1.order.length = 1 ∧
    Calls Try.prog 23 #[.agg (rowF 201 zv), .int .i64 3, .agg cs] W fun r w' => ∃ nv' x, r = .returned (.tuple #[.agg (rowF 201 nv'), x, .int .i64 T.2.2]) ∧ NodeC (· < w'.heap.size) w' nv' T.1 ∧ FramesV W.heap.size w' x T.2.1 ∧ Below W.heap.size W w' :=
  ⟨takeN zeroN 3 takesF, takes_ok, takes_len, takes_val, takes_ord, take_any zv zeroN 3 _ takesF W (zero_node _ _) h⟩

end Go.Proofs.Ytkoefoccbjhoiab

namespace Go.Proofs.Ytkoefoccbjhoiab
open Go.RowKit

set_option maxRecDepth 100000 in
set_option maxHeartbeats 1000000 in
theorem law_takes (w : World) : Calls Try.prog 30 #[] w fun r w' => r = .returned (.bool true) ∧ Below w.heap.size w w' := by
  obtain ⟨zr, hzr⟩ : ∃ zr, zr = rowF 201 zv := ⟨_, rfl⟩
  have hz0 := Try.zeroNode
  rw [← hzr] at hz0
  obtain ⟨W, hW⟩ : ∃ W, W = w.alloc (.cells #[.int .i64 2, .int .i64 1, .int .i64 9] 108) := ⟨_, rfl⟩
  have hb : Below w.heap.size w W := by rw [hW]; exact (Below.refl _ _).alloc (Nat.le_refl _) _
  have r0 : W.heap[w.heap.size]? = some (.cells #[.int .i64 2, .int .i64 1, .int .i64 9] 108 (0, 0)) := by rw [hW]; exact heap_new _ _
  have hzW : W.heap.size = w.heap.size + 1 := by rw [hW]; exact size_push _ _
  have HF : Hid (FrameV W (.agg #[.int .i64 3, .int .i64 3, .int .i64 4, .slice (some ⟨w.heap.size, 0, none⟩) 1 1, .slice none 0 0, .slice none 0 0, .slice none 0 0]) takesF) := by
    refine ⟨some ⟨w.heap.size, 0, none⟩, 1, none, 0, none, 0, none, 0, rfl, ⟨Or.inr ⟨w.heap.size, 0, rfl, by omega, fun i hi => ?_⟩, by decide, Nat.le_refl _, fun h => by cases h⟩, (slI_nil (fun _ => True) _).1, (slI_nil (fun _ => True) _).1, (slI_nil (fun _ => True) _).1⟩
    have : i = 0 := by
      have : i < 1 := hi
      omega
    subst this
    exact ⟨by rw [cell_of_row _ _ _ _ _ _ r0]; rfl, by rw [cell_of_row _ _ _ _ _ _ r0]; rfl, by rw [cell_of_row _ _ _ _ _ _ r0]; rfl⟩
  have HT := takes_call W #[.int .i64 3, .int .i64 3, .int .i64 4, .slice (some ⟨w.heap.size, 0, none⟩) 1 1, .slice none 0 0, .slice none 0 0, .slice none 0 0] HF.out
  rw [← hzr] at HT
  obtain ⟨T, t0, t1, t2, t3, HT⟩ := HT
  have T0 : Hid (T.2.2 = 0) := t0
  have T1 : Hid (T.2.1.length = 2) := t1
  have T2 : Hid (T.1.vals 1 = 9) := t2
  have T3 : Hid (T.1.order.length = 1) := t3
  have HZR : Hid (zr = rowF 201 zv) := hzr
  have HW : Hid (W = w.alloc (.cells #[.int .i64 2, .int .i64 1, .int .i64 9] 108)) := hW
  have HTA : Hid (Calls Try.prog 23 #[.agg zr, .int .i64 3, .agg #[.int .i64 3, .int .i64 3, .int .i64 4, .slice (some ⟨w.heap.size, 0, none⟩) 1 1, .slice none 0 0, .slice none 0 0, .slice none 0 0]] W fun r w' => ∃ nv' x, r = .returned (.tuple #[.agg (rowF 201 nv'), x, .int .i64 T.2.2]) ∧ NodeC (· < w'.heap.size) w' nv' T.1 ∧ FramesV W.heap.size w' x T.2.1 ∧ Below W.heap.size W w') := HT
  clear t0 t1 t2 t3
  clear hzr hW r0 HT HF
  go_enter Try.func30, Try.ntmps30
  go_wp2_with fail
  rw [← HW.out, Try.zcNode, ← HZR.out]
  refine HTA.out.mono ?_
  rintro r w1 ⟨nv1, x, rfl, hnc, hfs, hb1⟩
  rw [T0.out]
  obtain ⟨fr, hfr⟩ : ∃ fr, fr = rowF 201 nv1 := ⟨_, rfl⟩
  rw [← hfr]
  have hsf : (Try.prog.info? 41).map (·.size) = some fr.size := by rw [hfr, rowF_size]; exact Try.infoNode
  have hzz : zr.size = fr.size := by rw [hfr, HZR.out, rowF_size, rowF_size]
  have hone : fr.all (·.oneCell') = true := by rw [hfr]; exact rowF_all hnc.one
  have hres : (w1.alloc (.cells zr 41)).heap[w1.heap.size]? = some (.cells zr 41 (0, 0)) := heap_new _ _
  obtain ⟨css, _, hown, _⟩ := hfs
  obtain ⟨ax, cx, rfl, _⟩ := own_form hown
  rw [T1.out]
  have hlen2 : ((2 : Nat) : Int) = 2 := rfl
  obtain ⟨X, hX⟩ : ∃ X, X = (w1.alloc (.cells zr 41)).setRow w1.heap.size fr := ⟨_, rfl⟩
  have hbX : Below w1.heap.size w1 X := by rw [hX]; exact setRow_below ((Below.refl _ _).alloc (Nat.le_refl _) _) (Nat.le_refl _) _
  have rX : BlkAt 201 X w1.heap.size nv1 := ⟨41, by rw [← hfr, hX]; exact heap_setRow hres⟩
  have q1 : X.cell? ⟨w1.heap.size, 194, none⟩ = some (.int .i64 9) := by
    rw [rX.cell (by omega), hnc.es.vals 1 (by omega), T2.out]
  obtain ⟨ao, co, eo, _⟩ := hnc.order.sl
  have q2 : X.cell? ⟨w1.heap.size, 192, none⟩ = some (.slice ao 1 co) := by
    rw [rX.cell (by omega), eo, T3.out]
  have HX : Hid (X = (w1.alloc (.cells zr 41)).setRow w1.heap.size fr) := hX
  have hbE : Below w.heap.size w X := hb.trans ((hb1.mono (by omega)).trans (hbX.mono (by have := hb1.size; omega)))
  clear hfr hX hnc hown eo rX hbX hb1
  go_upto_region 2 with (first
    | (refine wpList_alloc_as rfl 41 rfl zr hz0 ?_)
    | (refine wpList_store_row rfl 41 _ _ rfl w1.heap.size fr rfl rfl 41 _ hres hsf hzz hone ?_))
  rw [← HX.out]
  clear HX hres
  go_wp2
  go_ret
  exact ⟨rfl, hbE⟩

end Go.Proofs.Ytkoefoccbjhoiab
