/-
  The walk of the statement NodeOnce.
-/
import Derived.Test.YtgdkjjmnoikhdabNKeep
import Derived.Test.YtgdkjjmnoikhdabNTakesK
import Derived.Test.YtgdkjjmnoikhdabNFrs
namespace Go.Proofs.Ytgdkjjmnoikhdab
open Go.RowKit

theorem nonneg_states {s : NodeL} (h : GoodN s) (h32 : ∀ n, 32 ≤ n → s.ent n = zeroE) : ∀ n, 0 ≤ (s.ent n).state := fun n => by
  by_cases hn : n < 32
  · exact (h.state hn).1
  · rw [h32 n (by omega)]; decide
theorem take_same {s : NodeL} {who : Int} {f : FrameL} (h : (takeN s who f).2.2 = 0) (h32 : ∀ n, 32 ≤ n → s.ent n = zeroE) : takeN (takeN s who f).1 who f = takeN s who f ∧ goodNB (takeN s who f).1 = true := by
  refine ⟨take_twice h ?_, goodNB_iff.2 (take_good h)⟩
  rcases take_cases s who f with ⟨h1, _⟩ | ⟨hg, _⟩
  · exact absurd h h1
  · exact nonneg_states hg h32
theorem take_fail {s : NodeL} {who : Int} {f : FrameL} (h : (takeN s who f).2.2 ≠ 0) : (takeN s who f).1 = s ∧ (takeN s who f).2.1 = [] := by
  rcases take_cases s who f with ⟨_, h1, h2⟩ | ⟨_, _, h1, _⟩
  · exact ⟨h1, h2⟩
  · exact absurd h1 h

set_option maxRecDepth 100000 in
set_option maxHeartbeats 2000000 in
theorem once_walk (nv : Nat → Value) (s : NodeL) (who : Int) (v : Value) (f : FrameL) (w : World) (h : NodeC (· < w.heap.size) w nv s) (h32 : ∀ n, 32 ≤ n → s.ent n = zeroE) (hf : FrameV w v f) :
    Calls Try.prog 8 #[.agg (rowF 201 nv), .int .i64 who, v] w fun r w' => r = .returned (.bool true) ∧ Below w.heap.size w w' := by
  obtain ⟨gr, hgr⟩ : ∃ gr, gr = rowF 201 nv := ⟨_, rfl⟩
  obtain ⟨zr, hzr⟩ : ∃ zr, zr = rowF 201 zv := ⟨_, rfl⟩
  have hz0 := Try.zeroNode
  rw [← hzr] at hz0
  have hsg : (Try.prog.info? 41).map (·.size) = some gr.size := by rw [hgr, rowF_size]; exact Try.infoNode
  rw [← hgr]
  have HGR : Hid (gr = rowF 201 nv) := hgr
  have HZR : Hid (zr = rowF 201 zv) := hzr
  have HN : Hid (NodeC (· < w.heap.size) w nv s) := h
  have H32 : Hid (∀ n, 32 ≤ n → s.ent n = zeroE) := h32
  have HFV : Hid (∀ x, Below w.heap.size w x → FrameV x v f) := fun x hx => hf.later hx
  obtain ⟨a3, c3, a4, c4, a5, c5, a6, c6, rfl, _⟩ := hf
  obtain ⟨W, hW⟩ : ∃ W, W = (w.alloc (.cells gr 41)).alloc (.cells #[.int .i64 f.kind, .int .i64 f.node, .int .i64 f.id, .slice a3 f.ops.length c3, .slice a4 f.deps.length c4, .slice a5 f.ats.length c5, .slice a6 f.vals.length c6] 43) := ⟨_, rfl⟩
  obtain ⟨r0, r1⟩ := two_rows w (.cells gr 41) (.cells #[.int .i64 f.kind, .int .i64 f.node, .int .i64 f.id, .slice a3 f.ops.length c3, .slice a4 f.deps.length c4, .slice a5 f.ats.length c5, .slice a6 f.vals.length c6] 43)
  rw [← hW] at r0 r1
  have hb : Below w.heap.size w W := by rw [hW]; exact ((Below.refl _ _).alloc (Nat.le_refl _) _).alloc (by rw [size_push]; omega) _
  have hzW : W.heap.size = w.heap.size + 2 := by rw [hW, size_push, size_push]
  have HW : Hid (W = (w.alloc (.cells gr 41)).alloc (.cells #[.int .i64 f.kind, .int .i64 f.node, .int .i64 f.id, .slice a3 f.ops.length c3, .slice a4 f.deps.length c4, .slice a5 f.ats.length c5, .slice a6 f.vals.length c6] 43)) := hW
  obtain ⟨T, hT⟩ : ∃ T, T = takeN s who f := ⟨_, rfl⟩
  have HT : Hid (T = takeN s who f) := hT
  have hTA := take_any nv s who _ f W (HN.out.below hb) (HFV.out W hb)
  rw [← hT, ← hgr] at hTA
  have HTA : Hid (Calls Try.prog 20 #[.agg gr, .int .i64 who, .agg #[.int .i64 f.kind, .int .i64 f.node, .int .i64 f.id, .slice a3 f.ops.length c3, .slice a4 f.deps.length c4, .slice a5 f.ats.length c5, .slice a6 f.vals.length c6]] W fun r w' => ∃ nv' x, r = .returned (.tuple #[.agg (rowF 201 nv'), x, .int .i64 T.2.2]) ∧ NodeC (· < w'.heap.size) w' nv' T.1 ∧ FramesV W.heap.size w' x T.2.1 ∧ Below W.heap.size W w') := hTA
  clear hgr hzr h hW h32 hT hTA
  go_enter Try.func8, Try.ntmps8
  go_upto_region 1 with fail
  rw [← HW.out]
  clear HW
  go_wp2_with (first | (refine wpList_load_row rfl 41 _ rfl (w.heap.size) rfl 41 gr (0, 0) _ r0 Try.underlying41 rfl hsg ?_) | (refine wpList_load_row rfl 43 _ rfl (w.heap.size + 1) rfl 43 _ (0, 0) _ r1 Try.underlying43 rfl Try.infoFrame7 ?_))
  refine HTA.out.mono ?_
  rintro r w1 ⟨nv1, x, rfl, hnc, hfs, hb1⟩
  have p0 : w1.heap[w.heap.size]? = some (.cells gr 41 (0, 0)) := by rw [hb1.block _ (by omega)]; exact r0
  have p1 : w1.heap[w.heap.size + 1]? = some (.cells #[.int .i64 f.kind, .int .i64 f.node, .int .i64 f.id, .slice a3 f.ops.length c3, .slice a4 f.deps.length c4, .slice a5 f.ats.length c5, .slice a6 f.vals.length c6] 43 (0, 0)) := by rw [hb1.block _ (by omega)]; exact r1
  have hz1 := hb1.size
  have hbw1 : Below w.heap.size w w1 := hb.trans (hb1.mono (by omega))
  obtain ⟨fa, hfa⟩ : ∃ fa, fa = rowF 201 nv1 := ⟨_, rfl⟩
  rw [← hfa]
  have hsfa : (Try.prog.info? 41).map (·.size) = some fa.size := by rw [hfa, rowF_size]; exact Try.infoNode
  have hzfa : zr.size = fa.size := by rw [hfa, HZR.out, rowF_size, rowF_size]
  have hofa : fa.all (·.oneCell') = true := by rw [hfa]; exact rowF_all hnc.one
  have hrfa : (w1.alloc (.cells zr 41)).heap[w1.heap.size]? = some (.cells zr 41 (0, 0)) := heap_new _ _
  obtain ⟨X, hX⟩ : ∃ X, X = (w1.alloc (.cells zr 41)).setRow w1.heap.size fa := ⟨_, rfl⟩
  have hbX : Below w1.heap.size w1 X := by rw [hX]; exact setRow_below ((Below.refl _ _).alloc (Nat.le_refl _) _) (Nat.le_refl _) _
  have rX : X.heap[w1.heap.size]? = some (.cells fa 41 (0, 0)) := by rw [hX]; exact heap_setRow hrfa
  have hzX : X.heap.size = w1.heap.size + 1 := by rw [hX, size_setRow]; exact size_push _ _
  have Hfa : Hid (fa = rowF 201 nv1) := hfa
  have HX : Hid (X = (w1.alloc (.cells zr 41)).setRow w1.heap.size fa) := hX
  clear hfa hX
  have HNX : Hid (NodeC (· < X.heap.size) X nv1 T.1) := hnc.below hbX
  have HFX : Hid (FramesV W.heap.size X x T.2.1) := hfs.later hbX
  have hbwX : Below w.heap.size w X := hbw1.trans (hbX.mono (by omega))
  have x0 : X.heap[w.heap.size]? = some (.cells gr 41 (0, 0)) := by rw [hbX.block _ (by omega)]; exact p0
  have x1 : X.heap[w.heap.size + 1]? = some (.cells #[.int .i64 f.kind, .int .i64 f.node, .int .i64 f.id, .slice a3 f.ops.length c3, .slice a4 f.deps.length c4, .slice a5 f.ats.length c5, .slice a6 f.vals.length c6] 43 (0, 0)) := by rw [hbX.block _ (by omega)]; exact p1
  clear hnc hfs hb1 p0 p1 r0 r1 hbw1 hbX HTA hb
  go_upto_region 2 with (first | (refine wpList_alloc_as rfl 41 rfl zr hz0 ?_) | (refine wpList_store_row rfl 41 _ _ rfl w1.heap.size fa rfl rfl 41 _ hrfa hsfa hzfa hofa ?_))
  rw [← HX.out]
  clear HX hrfa
  obtain ⟨ax, cx, ex⟩ := HFX.out.form
  subst ex
  by_cases t0 : T.2.2 = 0
  · have d0 : (T.2.2 != 0) = false := by simpa using t0
    have HTW : Hid (takeN T.1 who f = T ∧ goodNB T.1 = true) := by
      unfold Hid
      rw [HT.out] at t0 ⊢
      exact take_same t0 H32.out
    have HT0 : Hid (T.2.2 = 0) := t0
    clear t0
    go_wp2_with fail
    refine (keep_takes X).mono ?_
    rintro r x2 ⟨rfl, hb2⟩
    have HN2 : Hid (NodeC (· < x2.heap.size) x2 nv1 T.1) := HNX.out.below hb2
    have HF2 : Hid (FramesV W.heap.size x2 (.slice ax T.2.1.length cx) T.2.1) := HFX.out.later hb2
    have hbw2 : Below w.heap.size w x2 := hbwX.trans (hb2.mono (by omega))
    have hz2 := hb2.size
    have ra : x2.heap[w1.heap.size]? = some (.cells fa 41 (0, 0)) := by rw [hb2.block _ (by omega)]; exact rX
    have rf : x2.heap[w.heap.size + 1]? = some (.cells #[.int .i64 f.kind, .int .i64 f.node, .int .i64 f.id, .slice a3 f.ops.length c3, .slice a4 f.deps.length c4, .slice a5 f.ats.length c5, .slice a6 f.vals.length c6] 43 (0, 0)) := by rw [hb2.block _ (by omega)]; exact x1
    clear hb2 HNX HFX x0 x1 rX hbwX
    have hTB := take_any nv1 T.1 who _ f x2 HN2.out (HFV.out x2 hbw2)
    rw [HTW.out.1, ← Hfa.out] at hTB
    have HTB : Hid (Calls Try.prog 20 #[.agg fa, .int .i64 who, .agg #[.int .i64 f.kind, .int .i64 f.node, .int .i64 f.id, .slice a3 f.ops.length c3, .slice a4 f.deps.length c4, .slice a5 f.ats.length c5, .slice a6 f.vals.length c6]] x2 fun r w' => ∃ nv' x, r = .returned (.tuple #[.agg (rowF 201 nv'), x, .int .i64 T.2.2]) ∧ NodeC (· < w'.heap.size) w' nv' T.1 ∧ FramesV x2.heap.size w' x T.2.1 ∧ Below x2.heap.size x2 w') := hTB
    clear hTB
    go_wp2_with (first | (refine wpList_load_row rfl 41 _ rfl (w1.heap.size) rfl 41 fa (0, 0) _ ra Try.underlying41 rfl hsfa ?_) | (refine wpList_load_row rfl 43 _ rfl (w.heap.size + 1) rfl 43 _ (0, 0) _ rf Try.underlying43 rfl Try.infoFrame7 ?_))
    refine HTB.out.mono ?_
    rintro r w3 ⟨nv3, y, rfl, hnc, hfs, hb3⟩
    have hz3 := hb3.size
    have q0 : w3.heap[w1.heap.size]? = some (.cells fa 41 (0, 0)) := by rw [hb3.block _ (by omega)]; exact ra
    have HN3 : Hid (NodeC (· < w3.heap.size) w3 nv1 T.1) := HN2.out.below hb3
    have HF3 : Hid (FramesV W.heap.size w3 (.slice ax T.2.1.length cx) T.2.1) := HF2.out.later hb3
    have hbw3 : Below w.heap.size w w3 := hbw2.trans (hb3.mono (by omega))
    obtain ⟨fb, hfb⟩ : ∃ fb, fb = rowF 201 nv3 := ⟨_, rfl⟩
    rw [← hfb]
    have hsfb : (Try.prog.info? 41).map (·.size) = some fb.size := by rw [hfb, rowF_size]; exact Try.infoNode
    have hzfb : zr.size = fb.size := by rw [hfb, HZR.out, rowF_size, rowF_size]
    have hofb : fb.all (·.oneCell') = true := by rw [hfb]; exact rowF_all hnc.one
    have hrfb : (w3.alloc (.cells zr 41)).heap[w3.heap.size]? = some (.cells zr 41 (0, 0)) := heap_new _ _
    obtain ⟨Y, hY⟩ : ∃ Y, Y = (w3.alloc (.cells zr 41)).setRow w3.heap.size fb := ⟨_, rfl⟩
    have hbY : Below w3.heap.size w3 Y := by rw [hY]; exact setRow_below ((Below.refl _ _).alloc (Nat.le_refl _) _) (Nat.le_refl _) _
    have rY : Y.heap[w3.heap.size]? = some (.cells fb 41 (0, 0)) := by rw [hY]; exact heap_setRow hrfb
    have hzY : Y.heap.size = w3.heap.size + 1 := by rw [hY, size_setRow]; exact size_push _ _
    have Hfb : Hid (fb = rowF 201 nv3) := hfb
    have HY : Hid (Y = (w3.alloc (.cells zr 41)).setRow w3.heap.size fb) := hY
    clear hfb hY
    have HNa : Hid (NodeC (· < Y.heap.size) Y nv1 T.1) := HN3.out.below hbY
    have HNb : Hid (NodeC (· < Y.heap.size) Y nv3 T.1) := hnc.below hbY
    have HFa : Hid (FramesV W.heap.size Y (.slice ax T.2.1.length cx) T.2.1) := HF3.out.later hbY
    have HFb : Hid (FramesV x2.heap.size Y y T.2.1) := hfs.later hbY
    have hbwY : Below w.heap.size w Y := hbw3.trans (hbY.mono (by omega))
    have ya : Y.heap[w1.heap.size]? = some (.cells fa 41 (0, 0)) := by rw [hbY.block _ (by omega)]; exact q0
    clear hnc hfs hb3 q0 hbw3 hbY HTB HN2 HF2 HN3 HF3 ra rf hbw2
    go_upto_region 5 with (first | (refine wpList_alloc_as rfl 41 rfl zr hz0 ?_) | (refine wpList_store_row rfl 41 _ _ rfl w3.heap.size fb rfl rfl 41 _ hrfb hsfb hzfb hofb ?_))
    rw [← HY.out]
    clear HY hrfb
    obtain ⟨ay, cy, ey⟩ := HFb.out.form
    subst ey
    have hfl := HFa.out.len
    unfold maxLen at hfl
    obtain ⟨fs, hfs⟩ : ∃ fs, fs = T.2.1 := ⟨_, rfl⟩
    rw [HT0.out]
    rw [← hfs] at HFa HFb hfl ⊢
    clear hfs
    have hne : ((fs.length : Int) != (fs.length : Int)) = false := by simp
    go_wp2_with (first | (refine wpList_wanted (by rfl) fun K hK => ?_; refine wp_load_row 41 _ rfl (w1.heap.size) rfl 41 fa (0, 0) _ ya Try.underlying41 rfl hsfa ?_; refine hK _ _ ?_) | (refine wpList_wanted (by rfl) fun K hK => ?_; refine wp_load_row 41 _ rfl (w3.heap.size) rfl 41 fb (0, 0) _ rY Try.underlying41 rfl hsfb ?_; refine hK _ _ ?_))
    rw [Hfa.out, Hfb.out]
    refine (keep_sameNode nv1 nv3 T.1 Y HNa.out HNb.out).mono ?_
    rintro r y1 ⟨rfl, hb4⟩
    have HNa4 : Hid (NodeC (· < y1.heap.size) y1 nv1 T.1) := HNa.out.below hb4
    have HFa4 : Hid (FramesV W.heap.size y1 (.slice ax fs.length cx) fs) := HFa.out.later hb4
    have HFb4 : Hid (FramesV x2.heap.size y1 (.slice ay fs.length cy) fs) := HFb.out.later hb4
    have hbw4 : Below w.heap.size w y1 := hbwY.trans (hb4.mono (by omega))
    have y4 : y1.heap[w1.heap.size]? = some (.cells fa 41 (0, 0)) := by rw [hb4.block _ (by omega)]; exact ya
    clear hb4 HNa HNb HFa HFb ya rY hbwY
    go_wp2_with (refine wpList_wanted (by rfl) fun K hK => ?_; refine wp_load_row 41 _ rfl (w1.heap.size) rfl 41 fa (0, 0) _ y4 Try.underlying41 rfl hsfa ?_; refine hK _ _ ?_)
    rw [Hfa.out]
    refine (good_any nv1 T.1 y1 HNa4.out).mono ?_
    rintro r y2 ⟨rfl, hb5⟩
    rw [HTW.out.2]
    have HFa5 : Hid (FramesV W.heap.size y2 (.slice ax fs.length cx) fs) := HFa4.out.later hb5
    have HFb5 : Hid (FramesV x2.heap.size y2 (.slice ay fs.length cy) fs) := HFb4.out.later hb5
    have hbw5 : Below w.heap.size w y2 := hbw4.trans (hb5.mono (by have := hbw4.size; omega))
    clear hb5 HNa4 HFa4 HFb4 y4 hbw4
    go_wp2_with fail
    go_loopw [69] (fun i wr => ∃ k : Nat, k ≤ fs.length ∧ i = .int .i64 k ∧ Below y2.heap.size y2 wr) (fun i _ => fs.length - (intOf i).toNat)
    case atStart => exact ⟨0, Nat.zero_le _, rfl, Below.refl _ _⟩
    case round =>
      obtain ⟨i, hi, rfl, hB⟩ := hrel
      have hbwr : Below w.heap.size w wr := hbw5.trans (hB.mono hbw5.size)
      by_cases hlt : i < fs.length
      · obtain ⟨g1, ca, rfl, hg1, ra, hla, hva⟩ := (HFa5.out.later hB).at hlt
        obtain ⟨g2, cb, rfl, hg2, rb, hlb, hvb⟩ := (HFb5.out.later hB).at hlt
        have HVa : Hid (FrameV wr (.agg ca.toArray) fs[i]) := hva
        have HVb : Hid (FrameV wr (.agg cb.toArray) fs[i]) := hvb
        have hsa : (Try.prog.info? 43).map (·.size) = some ca.length := by rw [hla]; exact Try.infoFrame7
        have hsb : (Try.prog.info? 43).map (·.size) = some cb.length := by rw [hlb]; exact Try.infoFrame7
        clear hva hvb hla hlb
        go_wp2_with fail
        have HRa : Hid (∀ wx, Below wr.heap.size wr wx → wx.rangeAt g1 (i * 7) ca) := fun wx hx => range_later ra hx hg1
        have HRb : Hid (∀ wx, Below wr.heap.size wr wx → wx.rangeAt g2 (i * 7) cb) := fun wx hx => range_later rb hx hg2
        clear ra rb
        refine wp_region_held_drew (S := fun w' => Below wr.heap.size wr w') (by kernel_rfl) ((Below.refl _ _).drew) ?_
        intro hH
        refine wpAnyH_takeD (i := 0) (d := some 72) (v := .slice (some ⟨g1, 0, none⟩) fs.length cx) rfl rfl (by kernel_rfl) (by kernel_rfl) (by kernel_rfl) (fun _ _ _ h => h) (Or.inl ⟨by rfl, fun _ _ => by go_simp⟩) hH ?_
        simp only [Act.put, List.setIfInBounds_toArray, List.set_cons_zero, List.set_cons_succ]
        refine wpAnyH_takeD (i := 1) (d := some 73) (v := .int .i64 i) rfl rfl (by kernel_rfl) (by kernel_rfl) (by kernel_rfl) (fun _ _ _ h => h) (Or.inl ⟨by rfl, fun _ _ => by go_simp⟩) hH ?_
        simp only [Act.put, List.setIfInBounds_toArray, List.set_cons_zero, List.set_cons_succ]
        refine wpAnyH_takeD (i := 2) (d := some 74) (v := .pointer (some ⟨g1, i * 7, none⟩)) rfl rfl (by kernel_rfl) (by kernel_rfl) (by kernel_rfl) (fun _ _ _ h => h) (Or.inl ⟨by rfl, fun _ _ => by go_simp⟩) hH ?_
        simp only [Act.put, List.setIfInBounds_toArray, List.set_cons_zero, List.set_cons_succ]
        refine wpAnyH_takeD (i := 3) (d := some 75) (v := .agg ca.toArray) rfl rfl (by kernel_rfl) (by kernel_rfl) (by kernel_rfl) (fun _ _ _ h => h) (yieldsIf_load_mid (by rfl) _ _ rfl _ _ rfl ca _ (HRa.out) Try.underlying43 rfl hsa) hH ?_
        simp only [Act.put, List.setIfInBounds_toArray, List.set_cons_zero, List.set_cons_succ]
        refine wpAnyH_takeD (i := 4) (d := some 76) (v := .slice (some ⟨g2, 0, none⟩) fs.length cy) rfl rfl (by kernel_rfl) (by kernel_rfl) (by kernel_rfl) (fun _ _ _ h => h) (Or.inl ⟨by rfl, fun _ _ => by go_simp⟩) hH ?_
        simp only [Act.put, List.setIfInBounds_toArray, List.set_cons_zero, List.set_cons_succ]
        refine wpAnyH_takeD (i := 5) (d := some 77) (v := .int .i64 i) rfl rfl (by kernel_rfl) (by kernel_rfl) (by kernel_rfl) (fun _ _ _ h => h) (Or.inl ⟨by rfl, fun _ _ => by go_simp⟩) hH ?_
        simp only [Act.put, List.setIfInBounds_toArray, List.set_cons_zero, List.set_cons_succ]
        refine wpAnyH_takeD (i := 6) (d := some 78) (v := .pointer (some ⟨g2, i * 7, none⟩)) rfl rfl (by kernel_rfl) (by kernel_rfl) (by kernel_rfl) (fun _ _ _ h => h) (Or.inl ⟨by rfl, fun _ _ => by go_simp⟩) hH ?_
        simp only [Act.put, List.setIfInBounds_toArray, List.set_cons_zero, List.set_cons_succ]
        refine wpAnyH_takeD (i := 7) (d := some 79) (v := .agg cb.toArray) rfl rfl (by kernel_rfl) (by kernel_rfl) (by kernel_rfl) (fun _ _ _ h => h) (yieldsIf_load_mid (by rfl) _ _ rfl _ _ rfl cb _ (HRb.out) Try.underlying43 rfl hsb) hH ?_
        simp only [Act.put, List.setIfInBounds_toArray, List.set_cons_zero, List.set_cons_succ]
        refine wpAnyH_ready (rs := [8]) (by kernel_rfl) (by simp) ?_
        refine AllReadyH.cons rfl (fun K hK => ?_) AllReadyH.nil
        go_simp
        refine (keep_sameFrame_any _ _ fs[i] _ (HVa.out.later hH) (HVb.out.later hH)).mono ?_
        rintro r z2 ⟨rfl, hb2⟩
        go_wp2_with fail
        refine hK.out _ _ (hH.trans hb2) (fun hH2 => ?_)
        clear hK K hH
        have hH := hH2
        clear hH2 hb2
        refine wpAnyH_takeD (i := 9) (d := some 81) (v := .bool false) rfl rfl (by kernel_rfl) (by kernel_rfl) (by kernel_rfl) (fun _ _ _ h => h) (Or.inl ⟨by rfl, fun _ _ => by go_simp⟩) hH ?_
        simp only [Act.put, List.setIfInBounds_toArray, List.set_cons_zero, List.set_cons_succ]
        refine wpAnyH_done (by kernel_rfl) ?_ _
        have hB2 : Below y2.heap.size y2 z2 := hB.trans (hH.mono hB.size)
        clear hH
        go_wp2
        go_roundw
        case rel => exact ⟨i + 1, by omega, by go_num, hB2⟩
        case measure => simp [intOf]; omega
      · go_wp2
        go_ret
        exact ⟨rfl, hbwr⟩
  · have d0 : (T.2.2 != 0) = true := by simpa using t0
    obtain ⟨e1, e2⟩ : T.1 = s ∧ T.2.1 = [] := by rw [HT.out] at t0 ⊢; exact take_fail t0
    have HNs : Hid (NodeC (· < X.heap.size) X nv1 s) := by unfold Hid; rw [← e1]; exact HNX.out
    have HNo : Hid (NodeC (· < X.heap.size) X nv s) := HN.out.below hbwX
    rw [e2]
    clear t0 e1 e2 HNX HFX
    go_wp2_with (first | (refine wpList_load_row rfl 41 _ rfl (w1.heap.size) rfl 41 fa (0, 0) _ rX Try.underlying41 rfl hsfa ?_) | (refine wpList_load_row rfl 41 _ rfl (w.heap.size) rfl 41 gr (0, 0) _ x0 Try.underlying41 rfl hsg ?_))
    rw [Hfa.out, HGR.out]
    refine (keep_sameNode nv1 nv s X HNs.out HNo.out).mono ?_
    rintro r y1 ⟨rfl, hb2⟩
    have hbw2 : Below w.heap.size w y1 := hbwX.trans (hb2.mono (by omega))
    clear hb2 HNs HNo hbwX x0 x1 rX
    go_wp2_with fail
    refine (keep_takes y1).mono ?_
    rintro r y2 ⟨rfl, hb3⟩
    have hbw3 : Below w.heap.size w y2 := hbw2.trans (hb3.mono hbw2.size)
    clear hb3
    go_wp2
    go_ret
    exact ⟨rfl, hbw3⟩

end Go.Proofs.Ytgdkjjmnoikhdab
