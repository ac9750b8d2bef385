/-
  The walk of the statement NodeOnce.
  How a frame that came in is read: its numbers, and where its lists lie.
  The room that a list down in a datum takes.
  How a graph that came in is read: which are known, and where its lists lie.
  How a node that came in is read, with the room that its lists take.
-/
import Derived.Test.YtkoefoccbjhoiabNon13
import Derived.Test.YtkoefoccbjhoiabNon2
import Derived.Lib.SmallJoins
import Derived.ChangeMaps5
import Derived.SizedLaws
import Derived.Test.YtkoefoccbjhoiabNon1
import Derived.Test.YtkoefoccbjhoiabNon6
namespace Go.Proofs.Ytkoefoccbjhoiab
open Go.RowKit

theorem nonneg_states {s : NodeL} (h : GoodN s) (h32 : ∀ n, 32 ≤ n → s.ent n = zeroE) : ∀ n, 0 ≤ (s.ent n).state := fun n => by
  by_cases hn : n < 32
  · exact (h.state hn).1
  · rw [h32 n (by omega)]; decide
theorem take_same {s : NodeL} {who : Int} {f : FrameL} (h : (takeN s who f).2.2 = 0) (h32 : ∀ n, 32 ≤ n → s.ent n = zeroE) : takeN (takeN s who f).1 who f = takeN s who f ∧ goodNB (takeN s who f).1 = true := by
  refine ⟨take_twice h ?_, goodNB_iff.2 (take_good h)⟩
  rcases take_cases s who f with ⟨h1, _⟩ | ⟨hg, _⟩
  · exact absurd h h1
  · exact nonneg_states hg h32
theorem take_fail {s : NodeL} {who : Int} {f : FrameL} (h : (takeN s who f).2.2 ≠ 0) : (takeN s who f).1 = s ∧ (takeN s who f).2.1 = [] := by
  rcases take_cases s who f with ⟨_, h1, h2⟩ | ⟨_, _, h1, _⟩
  · exact ⟨h1, h2⟩
  · exact absurd h1 h

set_option maxRecDepth 100000 in
set_option maxHeartbeats 2000000 in
theorem once_walk (nv : Nat → Value) (s : NodeL) (who : Int) (v : Value) (f : FrameL) (w : World) (h : NodeC (· < w.heap.size) w nv s) (h32 : ∀ n, 32 ≤ n → s.ent n = zeroE) (hf : FrameV w v f) :
    Calls Try.prog 8 #[.agg (rowF 201 nv), .int .i64 who, v] w fun r w' => r = .returned (.bool true) ∧ Below w.heap.size w w' := by
  obtain ⟨gr, hgr⟩ : ∃ gr, gr = rowF 201 nv := ⟨_, rfl⟩
  obtain ⟨zr, hzr⟩ : ∃ zr, zr = rowF 201 zv := ⟨_, rfl⟩
  have hz0 := Try.zeroNode
  rw [← hzr] at hz0
  have hsg : (Try.prog.info? 41).map (·.size) = some gr.size := by rw [hgr, rowF_size]; exact Try.infoNode
  rw [← hgr]
  have HGR : Hid (gr = rowF 201 nv) := hgr
  have HZR : Hid (zr = rowF 201 zv) := hzr
  have HN : Hid (NodeC (· < w.heap.size) w nv s) := h
  have H32 : Hid (∀ n, 32 ≤ n → s.ent n = zeroE) := h32
  have HFV : Hid (∀ x, Below w.heap.size w x → FrameV x v f) := fun x hx => hf.later hx
  obtain ⟨a3, c3, a4, c4, a5, c5, a6, c6, rfl, _⟩ := hf
  obtain ⟨W, hW⟩ : ∃ W, W = (w.alloc (.cells gr 41)).alloc (.cells #[.int .i64 f.kind, .int .i64 f.node, .int .i64 f.id, .slice a3 f.ops.length c3, .slice a4 f.deps.length c4, .slice a5 f.ats.length c5, .slice a6 f.vals.length c6] 43) := ⟨_, rfl⟩
  obtain ⟨r0, r1⟩ := two_rows w (.cells gr 41) (.cells #[.int .i64 f.kind, .int .i64 f.node, .int .i64 f.id, .slice a3 f.ops.length c3, .slice a4 f.deps.length c4, .slice a5 f.ats.length c5, .slice a6 f.vals.length c6] 43)
  rw [← hW] at r0 r1
  have hb : Below w.heap.size w W := by rw [hW]; exact ((Below.refl _ _).alloc (Nat.le_refl _) _).alloc (by rw [size_push]; omega) _
  have hzW : W.heap.size = w.heap.size + 2 := by rw [hW, size_push, size_push]
  have HW : Hid (W = (w.alloc (.cells gr 41)).alloc (.cells #[.int .i64 f.kind, .int .i64 f.node, .int .i64 f.id, .slice a3 f.ops.length c3, .slice a4 f.deps.length c4, .slice a5 f.ats.length c5, .slice a6 f.vals.length c6] 43)) := hW
  obtain ⟨T, hT⟩ : ∃ T, T = takeN s who f := ⟨_, rfl⟩
  have HT : Hid (T = takeN s who f) := hT
  have hTA := take_any nv s who _ f W (HN.out.below hb) (HFV.out W hb)
  rw [← hT, ← hgr] at hTA
  have HTA : Hid (Calls Try.prog 23 #[.agg gr, .int .i64 who, .agg #[.int .i64 f.kind, .int .i64 f.node, .int .i64 f.id, .slice a3 f.ops.length c3, .slice a4 f.deps.length c4, .slice a5 f.ats.length c5, .slice a6 f.vals.length c6]] W fun r w' => ∃ nv' x, r = .returned (.tuple #[.agg (rowF 201 nv'), x, .int .i64 T.2.2]) ∧ NodeC (· < w'.heap.size) w' nv' T.1 ∧ FramesV W.heap.size w' x T.2.1 ∧ Below W.heap.size W w') := hTA
  clear hgr hzr h hW h32 hT hTA
  go_enter Try.func8, Try.ntmps8
  go_upto_region 1 with fail
  rw [← HW.out]
  clear HW
  go_wp2_with (first | (refine wpList_load_row rfl 41 _ rfl (w.heap.size) rfl 41 gr (0, 0) _ r0 Try.underlying41 rfl hsg ?_) | (refine wpList_load_row rfl 43 _ rfl (w.heap.size + 1) rfl 43 _ (0, 0) _ r1 Try.underlying43 rfl Try.infoFrame7 ?_))
  refine HTA.out.mono ?_
  rintro r w1 ⟨nv1, x, rfl, hnc, hfs, hb1⟩
  have p0 : w1.heap[w.heap.size]? = some (.cells gr 41 (0, 0)) := by rw [hb1.block _ (by omega)]; exact r0
  have p1 : w1.heap[w.heap.size + 1]? = some (.cells #[.int .i64 f.kind, .int .i64 f.node, .int .i64 f.id, .slice a3 f.ops.length c3, .slice a4 f.deps.length c4, .slice a5 f.ats.length c5, .slice a6 f.vals.length c6] 43 (0, 0)) := by rw [hb1.block _ (by omega)]; exact r1
  have hz1 := hb1.size
  have hbw1 : Below w.heap.size w w1 := hb.trans (hb1.mono (by omega))
  obtain ⟨fa, hfa⟩ : ∃ fa, fa = rowF 201 nv1 := ⟨_, rfl⟩
  rw [← hfa]
  have hsfa : (Try.prog.info? 41).map (·.size) = some fa.size := by rw [hfa, rowF_size]; exact Try.infoNode
  have hzfa : zr.size = fa.size := by rw [hfa, HZR.out, rowF_size, rowF_size]
  have hofa : fa.all (·.oneCell') = true := by rw [hfa]; exact rowF_all hnc.one
  have hrfa : (w1.alloc (.cells zr 41)).heap[w1.heap.size]? = some (.cells zr 41 (0, 0)) := heap_new _ _
  obtain ⟨X, hX⟩ : ∃ X, X = (w1.alloc (.cells zr 41)).setRow w1.heap.size fa := ⟨_, rfl⟩
  have hbX : Below w1.heap.size w1 X := by rw [hX]; exact setRow_below ((Below.refl _ _).alloc (Nat.le_refl _) _) (Nat.le_refl _) _
  have rX : X.heap[w1.heap.size]? = some (.cells fa 41 (0, 0)) := by rw [hX]; exact heap_setRow hrfa
  have hzX : X.heap.size = w1.heap.size + 1 := by rw [hX, size_setRow]; exact size_push _ _
  have Hfa : Hid (fa = rowF 201 nv1) := hfa
  have HX : Hid (X = (w1.alloc (.cells zr 41)).setRow w1.heap.size fa) := hX
  clear hfa hX
  have HNX : Hid (NodeC (· < X.heap.size) X nv1 T.1) := hnc.below hbX
  have HFX : Hid (FramesV W.heap.size X x T.2.1) := hfs.later hbX
  have hbwX : Below w.heap.size w X := hbw1.trans (hbX.mono (by omega))
  have x0 : X.heap[w.heap.size]? = some (.cells gr 41 (0, 0)) := by rw [hbX.block _ (by omega)]; exact p0
  have x1 : X.heap[w.heap.size + 1]? = some (.cells #[.int .i64 f.kind, .int .i64 f.node, .int .i64 f.id, .slice a3 f.ops.length c3, .slice a4 f.deps.length c4, .slice a5 f.ats.length c5, .slice a6 f.vals.length c6] 43 (0, 0)) := by rw [hbX.block _ (by omega)]; exact p1
  clear hnc hfs hb1 p0 p1 r0 r1 hbw1 hbX HTA hb
  go_upto_region 2 with (first | (refine wpList_alloc_as rfl 41 rfl zr hz0 ?_) | (refine wpList_store_row rfl 41 _ _ rfl w1.heap.size fa rfl rfl 41 _ hrfa hsfa hzfa hofa ?_))
  rw [← HX.out]
  clear HX hrfa
  obtain ⟨ax, cx, ex⟩ := HFX.out.form
  subst ex
  by_cases t0 : T.2.2 = 0
  · have d0 : (T.2.2 != 0) = false := by simpa using t0
    have HTW : Hid (takeN T.1 who f = T ∧ goodNB T.1 = true) := by
      unfold Hid
      rw [HT.out] at t0 ⊢
      exact take_same t0 H32.out
    have HT0 : Hid (T.2.2 = 0) := t0
    clear t0
    go_wp2_with fail
    refine (keep_takes X).mono ?_
    rintro r x2 ⟨rfl, hb2⟩
    have HN2 : Hid (NodeC (· < x2.heap.size) x2 nv1 T.1) := HNX.out.below hb2
    have HF2 : Hid (FramesV W.heap.size x2 (.slice ax T.2.1.length cx) T.2.1) := HFX.out.later hb2
    have hbw2 : Below w.heap.size w x2 := hbwX.trans (hb2.mono (by omega))
    have hz2 := hb2.size
    have ra : x2.heap[w1.heap.size]? = some (.cells fa 41 (0, 0)) := by rw [hb2.block _ (by omega)]; exact rX
    have rf : x2.heap[w.heap.size + 1]? = some (.cells #[.int .i64 f.kind, .int .i64 f.node, .int .i64 f.id, .slice a3 f.ops.length c3, .slice a4 f.deps.length c4, .slice a5 f.ats.length c5, .slice a6 f.vals.length c6] 43 (0, 0)) := by rw [hb2.block _ (by omega)]; exact x1
    clear hb2 HNX HFX x0 x1 rX hbwX
    have hTB := take_any nv1 T.1 who _ f x2 HN2.out (HFV.out x2 hbw2)
    rw [HTW.out.1, ← Hfa.out] at hTB
    have HTB : Hid (Calls Try.prog 23 #[.agg fa, .int .i64 who, .agg #[.int .i64 f.kind, .int .i64 f.node, .int .i64 f.id, .slice a3 f.ops.length c3, .slice a4 f.deps.length c4, .slice a5 f.ats.length c5, .slice a6 f.vals.length c6]] x2 fun r w' => ∃ nv' x, r = .returned (.tuple #[.agg (rowF 201 nv'), x, .int .i64 T.2.2]) ∧ NodeC (· < w'.heap.size) w' nv' T.1 ∧ FramesV x2.heap.size w' x T.2.1 ∧ Below x2.heap.size x2 w') := hTB
    clear hTB
    go_wp2_with (first | (refine wpList_load_row rfl 41 _ rfl (w1.heap.size) rfl 41 fa (0, 0) _ ra Try.underlying41 rfl hsfa ?_) | (refine wpList_load_row rfl 43 _ rfl (w.heap.size + 1) rfl 43 _ (0, 0) _ rf Try.underlying43 rfl Try.infoFrame7 ?_))
    refine HTB.out.mono ?_
    rintro r w3 ⟨nv3, y, rfl, hnc, hfs, hb3⟩
    have hz3 := hb3.size
    have q0 : w3.heap[w1.heap.size]? = some (.cells fa 41 (0, 0)) := by rw [hb3.block _ (by omega)]; exact ra
    have HN3 : Hid (NodeC (· < w3.heap.size) w3 nv1 T.1) := HN2.out.below hb3
    have HF3 : Hid (FramesV W.heap.size w3 (.slice ax T.2.1.length cx) T.2.1) := HF2.out.later hb3
    have hbw3 : Below w.heap.size w w3 := hbw2.trans (hb3.mono (by omega))
    obtain ⟨fb, hfb⟩ : ∃ fb, fb = rowF 201 nv3 := ⟨_, rfl⟩
    rw [← hfb]
    have hsfb : (Try.prog.info? 41).map (·.size) = some fb.size := by rw [hfb, rowF_size]; exact Try.infoNode
    have hzfb : zr.size = fb.size := by rw [hfb, HZR.out, rowF_size, rowF_size]
    have hofb : fb.all (·.oneCell') = true := by rw [hfb]; exact rowF_all hnc.one
    have hrfb : (w3.alloc (.cells zr 41)).heap[w3.heap.size]? = some (.cells zr 41 (0, 0)) := heap_new _ _
    obtain ⟨Y, hY⟩ : ∃ Y, Y = (w3.alloc (.cells zr 41)).setRow w3.heap.size fb := ⟨_, rfl⟩
    have hbY : Below w3.heap.size w3 Y := by rw [hY]; exact setRow_below ((Below.refl _ _).alloc (Nat.le_refl _) _) (Nat.le_refl _) _
    have rY : Y.heap[w3.heap.size]? = some (.cells fb 41 (0, 0)) := by rw [hY]; exact heap_setRow hrfb
    have hzY : Y.heap.size = w3.heap.size + 1 := by rw [hY, size_setRow]; exact size_push _ _
    have Hfb : Hid (fb = rowF 201 nv3) := hfb
    have HY : Hid (Y = (w3.alloc (.cells zr 41)).setRow w3.heap.size fb) := hY
    clear hfb hY
    have HNa : Hid (NodeC (· < Y.heap.size) Y nv1 T.1) := HN3.out.below hbY
    have HNb : Hid (NodeC (· < Y.heap.size) Y nv3 T.1) := hnc.below hbY
    have HFa : Hid (FramesV W.heap.size Y (.slice ax T.2.1.length cx) T.2.1) := HF3.out.later hbY
    have HFb : Hid (FramesV x2.heap.size Y y T.2.1) := hfs.later hbY
    have hbwY : Below w.heap.size w Y := hbw3.trans (hbY.mono (by omega))
    have ya : Y.heap[w1.heap.size]? = some (.cells fa 41 (0, 0)) := by rw [hbY.block _ (by omega)]; exact q0
    clear hnc hfs hb3 q0 hbw3 hbY HTB HN2 HF2 HN3 HF3 ra rf hbw2
    go_upto_region 5 with (first | (refine wpList_alloc_as rfl 41 rfl zr hz0 ?_) | (refine wpList_store_row rfl 41 _ _ rfl w3.heap.size fb rfl rfl 41 _ hrfb hsfb hzfb hofb ?_))
    rw [← HY.out]
    clear HY hrfb
    obtain ⟨ay, cy, ey⟩ := HFb.out.form
    subst ey
    have hfl := HFa.out.len
    unfold maxLen at hfl
    obtain ⟨fs, hfs⟩ : ∃ fs, fs = T.2.1 := ⟨_, rfl⟩
    rw [HT0.out]
    rw [← hfs] at HFa HFb hfl ⊢
    clear hfs
    have hne : ((fs.length : Int) != (fs.length : Int)) = false := by simp
    go_wp2_with (first | (refine wpList_wanted (by rfl) fun K hK => ?_; refine wp_load_row 41 _ rfl (w1.heap.size) rfl 41 fa (0, 0) _ ya Try.underlying41 rfl hsfa ?_; refine hK _ _ ?_) | (refine wpList_wanted (by rfl) fun K hK => ?_; refine wp_load_row 41 _ rfl (w3.heap.size) rfl 41 fb (0, 0) _ rY Try.underlying41 rfl hsfb ?_; refine hK _ _ ?_))
    rw [Hfa.out, Hfb.out]
    refine (keep_sameNode nv1 nv3 T.1 Y HNa.out HNb.out).mono ?_
    rintro r y1 ⟨rfl, hb4⟩
    have HNa4 : Hid (NodeC (· < y1.heap.size) y1 nv1 T.1) := HNa.out.below hb4
    have HFa4 : Hid (FramesV W.heap.size y1 (.slice ax fs.length cx) fs) := HFa.out.later hb4
    have HFb4 : Hid (FramesV x2.heap.size y1 (.slice ay fs.length cy) fs) := HFb.out.later hb4
    have hbw4 : Below w.heap.size w y1 := hbwY.trans (hb4.mono (by omega))
    have y4 : y1.heap[w1.heap.size]? = some (.cells fa 41 (0, 0)) := by rw [hb4.block _ (by omega)]; exact ya
    clear hb4 HNa HNb HFa HFb ya rY hbwY
    go_wp2_with (refine wpList_wanted (by rfl) fun K hK => ?_; refine wp_load_row 41 _ rfl (w1.heap.size) rfl 41 fa (0, 0) _ y4 Try.underlying41 rfl hsfa ?_; refine hK _ _ ?_)
    rw [Hfa.out]
    refine (good_any nv1 T.1 y1 HNa4.out).mono ?_
    rintro r y2 ⟨rfl, hb5⟩
    rw [HTW.out.2]
    have HFa5 : Hid (FramesV W.heap.size y2 (.slice ax fs.length cx) fs) := HFa4.out.later hb5
    have HFb5 : Hid (FramesV x2.heap.size y2 (.slice ay fs.length cy) fs) := HFb4.out.later hb5
    have hbw5 : Below w.heap.size w y2 := hbw4.trans (hb5.mono (by have := hbw4.size; omega))
    clear hb5 HNa4 HFa4 HFb4 y4 hbw4
    go_wp2_with fail
    go_loopw [69] (fun i wr => ∃ k : Nat, k ≤ fs.length ∧ i = .int .i64 k ∧ Below y2.heap.size y2 wr) (fun i _ => fs.length - (intOf i).toNat)
    case atStart => exact ⟨0, Nat.zero_le _, rfl, Below.refl _ _⟩
    case round =>
      obtain ⟨i, hi, rfl, hB⟩ := hrel
      have hbwr : Below w.heap.size w wr := hbw5.trans (hB.mono hbw5.size)
      by_cases hlt : i < fs.length
      · obtain ⟨g1, ca, rfl, hg1, ra, hla, hva⟩ := (HFa5.out.later hB).at hlt
        obtain ⟨g2, cb, rfl, hg2, rb, hlb, hvb⟩ := (HFb5.out.later hB).at hlt
        have HVa : Hid (FrameV wr (.agg ca.toArray) fs[i]) := hva
        have HVb : Hid (FrameV wr (.agg cb.toArray) fs[i]) := hvb
        have hsa : (Try.prog.info? 43).map (·.size) = some ca.length := by rw [hla]; exact Try.infoFrame7
        have hsb : (Try.prog.info? 43).map (·.size) = some cb.length := by rw [hlb]; exact Try.infoFrame7
        clear hva hvb hla hlb
        go_wp2_with fail
        have HRa : Hid (∀ wx, Below wr.heap.size wr wx → wx.rangeAt g1 (i * 7) ca) := fun wx hx => range_later ra hx hg1
        have HRb : Hid (∀ wx, Below wr.heap.size wr wx → wx.rangeAt g2 (i * 7) cb) := fun wx hx => range_later rb hx hg2
        clear ra rb
        refine wp_region_held_drew (S := fun w' => Below wr.heap.size wr w') (by kernel_rfl) ((Below.refl _ _).drew) ?_
        intro hH
        refine wpAnyH_takeD (i := 0) (d := some 72) (v := .slice (some ⟨g1, 0, none⟩) fs.length cx) rfl rfl (by kernel_rfl) (by kernel_rfl) (by kernel_rfl) (fun _ _ _ h => h) (Or.inl ⟨by rfl, fun _ _ => by go_simp⟩) hH ?_
        simp only [Act.put, List.setIfInBounds_toArray, List.set_cons_zero, List.set_cons_succ]
        refine wpAnyH_takeD (i := 1) (d := some 73) (v := .int .i64 i) rfl rfl (by kernel_rfl) (by kernel_rfl) (by kernel_rfl) (fun _ _ _ h => h) (Or.inl ⟨by rfl, fun _ _ => by go_simp⟩) hH ?_
        simp only [Act.put, List.setIfInBounds_toArray, List.set_cons_zero, List.set_cons_succ]
        refine wpAnyH_takeD (i := 2) (d := some 74) (v := .pointer (some ⟨g1, i * 7, none⟩)) rfl rfl (by kernel_rfl) (by kernel_rfl) (by kernel_rfl) (fun _ _ _ h => h) (Or.inl ⟨by rfl, fun _ _ => by go_simp⟩) hH ?_
        simp only [Act.put, List.setIfInBounds_toArray, List.set_cons_zero, List.set_cons_succ]
        refine wpAnyH_takeD (i := 3) (d := some 75) (v := .agg ca.toArray) rfl rfl (by kernel_rfl) (by kernel_rfl) (by kernel_rfl) (fun _ _ _ h => h) (yieldsIf_load_mid (by rfl) _ _ rfl _ _ rfl ca _ (HRa.out) Try.underlying43 rfl hsa) hH ?_
        simp only [Act.put, List.setIfInBounds_toArray, List.set_cons_zero, List.set_cons_succ]
        refine wpAnyH_takeD (i := 4) (d := some 76) (v := .slice (some ⟨g2, 0, none⟩) fs.length cy) rfl rfl (by kernel_rfl) (by kernel_rfl) (by kernel_rfl) (fun _ _ _ h => h) (Or.inl ⟨by rfl, fun _ _ => by go_simp⟩) hH ?_
        simp only [Act.put, List.setIfInBounds_toArray, List.set_cons_zero, List.set_cons_succ]
        refine wpAnyH_takeD (i := 5) (d := some 77) (v := .int .i64 i) rfl rfl (by kernel_rfl) (by kernel_rfl) (by kernel_rfl) (fun _ _ _ h => h) (Or.inl ⟨by rfl, fun _ _ => by go_simp⟩) hH ?_
        simp only [Act.put, List.setIfInBounds_toArray, List.set_cons_zero, List.set_cons_succ]
        refine wpAnyH_takeD (i := 6) (d := some 78) (v := .pointer (some ⟨g2, i * 7, none⟩)) rfl rfl (by kernel_rfl) (by kernel_rfl) (by kernel_rfl) (fun _ _ _ h => h) (Or.inl ⟨by rfl, fun _ _ => by go_simp⟩) hH ?_
        simp only [Act.put, List.setIfInBounds_toArray, List.set_cons_zero, List.set_cons_succ]
        refine wpAnyH_takeD (i := 7) (d := some 79) (v := .agg cb.toArray) rfl rfl (by kernel_rfl) (by kernel_rfl) (by kernel_rfl) (fun _ _ _ h => h) (yieldsIf_load_mid (by rfl) _ _ rfl _ _ rfl cb _ (HRb.out) Try.underlying43 rfl hsb) hH ?_
        simp only [Act.put, List.setIfInBounds_toArray, List.set_cons_zero, List.set_cons_succ]
        refine wpAnyH_ready (rs := [8]) (by kernel_rfl) (by simp) ?_
        refine AllReadyH.cons rfl (fun K hK => ?_) AllReadyH.nil
        go_simp
        refine (keep_sameFrame_any _ _ fs[i] _ (HVa.out.later hH) (HVb.out.later hH)).mono ?_
        rintro r z2 ⟨rfl, hb2⟩
        go_wp2_with fail
        refine hK.out _ _ (hH.trans hb2) (fun hH2 => ?_)
        clear hK K hH
        have hH := hH2
        clear hH2 hb2
        refine wpAnyH_takeD (i := 9) (d := some 81) (v := .bool false) rfl rfl (by kernel_rfl) (by kernel_rfl) (by kernel_rfl) (fun _ _ _ h => h) (Or.inl ⟨by rfl, fun _ _ => by go_simp⟩) hH ?_
        simp only [Act.put, List.setIfInBounds_toArray, List.set_cons_zero, List.set_cons_succ]
        refine wpAnyH_done (by kernel_rfl) ?_ _
        have hB2 : Below y2.heap.size y2 z2 := hB.trans (hH.mono hB.size)
        clear hH
        go_wp2
        go_roundw
        case rel => exact ⟨i + 1, by omega, by go_num, hB2⟩
        case measure => simp [intOf]; omega
      · go_wp2
        go_ret
        exact ⟨rfl, hbwr⟩
  · have d0 : (T.2.2 != 0) = true := by simpa using t0
    obtain ⟨e1, e2⟩ : T.1 = s ∧ T.2.1 = [] := by rw [HT.out] at t0 ⊢; exact take_fail t0
    have HNs : Hid (NodeC (· < X.heap.size) X nv1 s) := by unfold Hid; rw [← e1]; exact HNX.out
    have HNo : Hid (NodeC (· < X.heap.size) X nv s) := HN.out.below hbwX
    rw [e2]
    clear t0 e1 e2 HNX HFX
    go_wp2_with (first | (refine wpList_load_row rfl 41 _ rfl (w1.heap.size) rfl 41 fa (0, 0) _ rX Try.underlying41 rfl hsfa ?_) | (refine wpList_load_row rfl 41 _ rfl (w.heap.size) rfl 41 gr (0, 0) _ x0 Try.underlying41 rfl hsg ?_))
    rw [Hfa.out, HGR.out]
    refine (keep_sameNode nv1 nv s X HNs.out HNo.out).mono ?_
    rintro r y1 ⟨rfl, hb2⟩
    have hbw2 : Below w.heap.size w y1 := hbwX.trans (hb2.mono (by omega))
    clear hb2 HNs HNo hbwX x0 x1 rX
    go_wp2_with fail
    refine (keep_takes y1).mono ?_
    rintro r y2 ⟨rfl, hb3⟩
    have hbw3 : Below w.heap.size w y2 := hbw2.trans (hb3.mono hbw2.size)
    clear hb3
    go_wp2
    go_ret
    exact ⟨rfl, hbw3⟩

end Go.Proofs.Ytkoefoccbjhoiab

namespace Go.Proofs.Ytkoefoccbjhoiab
open Go.ChangeShapes Go.WideShapes Go.ChangeAt Go.RowKit Go.Deep

theorem array7 {α : Type} {cs : Array α} (h : cs.size = 7) : ∃ c0 c1 c2 c3 c4 c5 c6, cs = #[c0, c1, c2, c3, c4, c5, c6] := by
  obtain ⟨l⟩ := cs
  match l, h with
  | [c0, c1, c2, c3, c4, c5, c6], _ => exact ⟨c0, c1, c2, c3, c4, c5, c6, rfl⟩

theorem list7 {α : Type} {l : List α} (h : l.length = 7) : ∃ c0 c1 c2 c3 c4 c5 c6, l = [c0, c1, c2, c3, c4, c5, c6] := by
  match l, h with
  | [c0, c1, c2, c3, c4, c5, c6], _ => exact ⟨c0, c1, c2, c3, c4, c5, c6, rfl⟩
theorem Try.cellsFrame : Try.prog.cellsOf 43 = 7 := by kernel_rfl
theorem Try.cellsOps : Try.prog.cellsOf 35 = 1 := by kernel_rfl
theorem Try.cellsInts : Try.prog.cellsOf 23 = 1 := by kernel_rfl

section
variable {H : Type} {enc : TypeId × Value → H} {w : World} {base : Nat} {spare : Nat → Bool} {held : Bool}

theorem open_sl_ints {n : Nat} {c : Value} {y : DataW H × List MemPlace} (h : DataW.trod enc Try.prog w base spare held n 23 [c] = some y) : ∃ a cap zs, c = .slice a (zs : List Int).length cap ∧ SlInts w a cap zs := by
  obtain ⟨a, l, cap, hc⟩ := Joins.slice_form Try.underlying23 h
  simp at hc
  subst hc
  obtain ⟨hl, zs, rfl, hz, _, hn, hcap⟩ := open_intsAt Try.underlying23 Try.underlying3 Try.cellsInt h
  exact ⟨a, cap, zs, rfl, hz, hl, hcap, hn⟩
theorem open_sl_ops {n : Nat} {c : Value} {y : DataW H × List MemPlace} (h : DataW.trod enc Try.prog w base spare held n 35 [c] = some y) : ∃ a cap zs, c = .slice a (zs : List OpL).length cap ∧ SlOps w a cap zs := by
  obtain ⟨a, l, cap, hc⟩ := Joins.slice_form Try.underlying35 h
  simp at hc
  subst hc
  obtain ⟨hl, zs, rfl, hz, _, hn, hcap⟩ := open_opsAt Try.underlying35 Try.underlying108 Try.underlying3 Try.cellsOp Try.cellsInt rfl rfl rfl rfl rfl rfl h
  exact ⟨a, cap, zs, rfl, hz, hl, hcap, hn⟩

set_option maxRecDepth 100000 in
theorem open_frame {r : Reach} {b0 : Nat} {v : Value} {d : DataW H} {p : List MemPlace} (hv : Value.okWide Try.prog w r b0 43 v) (h : DataW.Trod enc Try.prog w base spare held 43 v d p) : ∃ f, FrameV w v f := by
  obtain ⟨cs, rfl, hsz⟩ := okWide_struct Try.underlying43 hv
  obtain ⟨c0, c1, c2, c3, c4, c5, c6, rfl⟩ := array7 (hsz.trans Try.cellsFrame)
  obtain ⟨fuel, hf⟩ := h
  obtain ⟨xs, n, _, _, _, hxl, hff⟩ := DataW.trod_struct Try.underlying43 hf
  have g0 := hff 0 _ rfl
  have g1 := hff 1 _ rfl
  have g2 := hff 2 _ rfl
  have g3 := hff 3 _ rfl
  have g4 := hff 4 _ rfl
  have g5 := hff 5 _ rfl
  have g6 := hff 6 _ rfl
  simp [Value.cells, Try.cellsInt, Try.cellsOps, Try.cellsInts] at g0 g1 g2 g3 g4 g5 g6
  obtain ⟨x0, x1, x2, x3, x4, x5, x6, rfl⟩ := list7 hxl
  obtain ⟨n0, r0, _, _⟩ := DataW.trod_int Try.underlying3 g0
  obtain ⟨n1, r1, _, _⟩ := DataW.trod_int Try.underlying3 g1
  obtain ⟨n2, r2, _, _⟩ := DataW.trod_int Try.underlying3 g2
  simp at r0 r1 r2
  subst r0 r1 r2
  obtain ⟨a3, d3, z3, rfl, h3⟩ := open_sl_ops g3
  obtain ⟨a4, d4, z4, rfl, h4⟩ := open_sl_ints g4
  obtain ⟨a5, d5, z5, rfl, h5⟩ := open_sl_ints g5
  obtain ⟨a6, d6, z6, rfl, h6⟩ := open_sl_ints g6
  exact ⟨⟨n0, n1, n2, z3, z4, z5, z6⟩, a3, d3, a4, d4, a5, d5, a6, d6, rfl, h3, h4, h5, h6⟩
end

end Go.Proofs.Ytkoefoccbjhoiab

namespace Go.Proofs.Ytkoefoccbjhoiab
open Go.ChangeShapes Go.WideShapes Go.ChangeAt Go.RowKit Go.Deep

section
variable {H : Type} {enc : TypeId × Value → H} {w : World} {base : Nat} {spare : Nat → Bool} {held : Bool}

theorem room_ints {n : Nat} {a : Option Addr} {len cap : Nat} {y : DataW H × List MemPlace} (h : DataW.trod enc Try.prog w base spare held n 23 [.slice a len cap] = some y) (hw : ∀ m ∈ y.1.weights Try.prog 23, m ≤ reachBytes) : len * 8 ≤ 140737488355328 := by
  obtain ⟨d, p⟩ := y
  rcases slice_datum Try.underlying23 h with hq | ⟨el, sp, rfl, hel⟩
  · omega
  · have := hw ((el.length + sp.length) * Try.prog.bytesOf 3) (by simp [DataW.weights, Try.underlying23])
    rw [Try.bytesInt] at this
    unfold reachBytes at this
    omega
theorem room_ops {n : Nat} {a : Option Addr} {len cap : Nat} {y : DataW H × List MemPlace} (h : DataW.trod enc Try.prog w base spare held n 35 [.slice a len cap] = some y) (hw : ∀ m ∈ y.1.weights Try.prog 35, m ≤ reachBytes) : len * 24 ≤ 140737488355328 := by
  obtain ⟨d, p⟩ := y
  rcases slice_datum Try.underlying35 h with hq | ⟨el, sp, rfl, hel⟩
  · omega
  · have := hw ((el.length + sp.length) * Try.prog.bytesOf 108) (by simp [DataW.weights, Try.underlying35])
    rw [Try.bytesOp] at this
    unfold reachBytes at this
    omega
end

end Go.Proofs.Ytkoefoccbjhoiab

namespace Go.Proofs.Ytkoefoccbjhoiab
open Go.ChangeShapes Go.WideShapes Go.ChangeAt Go.RowKit Go.Deep

theorem Try.cellsSlice : Try.prog.cellsOf 23 = 1 := by kernel_rfl

theorem part_one {cs : List Value} {o n i : Nat} (h : o + i < cs.length) (hi : i < n) : ((((cs.drop o).take n).drop i).take 1) = [cs.getD (o + i) (.bool false)] := by
  apply List.ext_getElem?
  intro k
  cases k with
  | zero => simp [hi, List.getD, h]
  | succ k => simp; omega

section
variable {H : Type} {enc : TypeId × Value → H} {w : World} {base : Nat} {spare : Nat → Bool} {held : Bool}

end

end Go.Proofs.Ytkoefoccbjhoiab

namespace Go.Proofs.Ytkoefoccbjhoiab
open Go.ChangeShapes Go.WideShapes Go.ChangeAt Go.RowKit Go.Deep

theorem Try.cellsNode : Try.prog.cellsOf 41 = 201 := by kernel_rfl
theorem Try.cellsEnts : Try.prog.cellsOf 38 = 192 := by kernel_rfl
theorem Try.cellsEntry : Try.prog.cellsOf 37 = 6 := by kernel_rfl
theorem Try.cellsVals : Try.prog.cellsOf 39 = 8 := by kernel_rfl
theorem list6 {α : Type} {l : List α} (h : l.length = 6) : ∃ a b c d e f, l = [a, b, c, d, e, f] := by
  match l, h with
  | [a, b, c, d, e, f], _ => exact ⟨a, b, c, d, e, f, rfl⟩
theorem list3' {α : Type} {l : List α} (h : l.length = 3) : ∃ a b c, l = [a, b, c] := by
  match l, h with
  | [a, b, c], _ => exact ⟨a, b, c, rfl⟩

theorem weights_mem_all {H : Type} {P : Program} {e : TypeId} : ∀ {ds : List (DataW H)} {j : Nat} {d : DataW H}, ds[j]? = some d → ∀ n ∈ d.weights P e, n ∈ DataW.weightsAll P e ds
  | d0 :: ds, 0, d, hd, n, hn => by
    simp only [List.getElem?_cons_zero, Option.some.injEq] at hd
    subst hd
    simp only [DataW.weightsAll, List.mem_append]
    exact Or.inl hn
  | d0 :: ds, j + 1, d, hd, n, hn => by
    simp only [List.getElem?_cons_succ] at hd
    simp only [DataW.weightsAll, List.mem_append]
    exact Or.inr (weights_mem_all hd n hn)

section
variable {H : Type} {enc : TypeId × Value → H} {w : World} {base : Nat} {spare : Nat → Bool} {held : Bool}

set_option maxRecDepth 100000 in
theorem open_ent {n : Nat} {cs : List Value} (hl : cs.length = 6) {y : DataW H × List MemPlace} (h : DataW.trod enc Try.prog w base spare held n 37 cs = some y) (hw : ∀ m ∈ y.1.weights Try.prog 37, m ≤ reachBytes) :
    ∃ e : EntryL, EntC (· < w.heap.size) w (fun j => cs.getD j (.bool false)) 0 e := by
  obtain ⟨c0, c1, c2, c3, c4, c5, rfl⟩ := list6 hl
  obtain ⟨xs, k, _, hd, _, hxl, hff⟩ := DataW.trod_struct Try.underlying37 h
  have g0 := hff 0 _ rfl
  have g1 := hff 1 _ rfl
  have g2 := hff 2 _ rfl
  have g3 := hff 3 _ rfl
  have g4 := hff 4 _ rfl
  have g5 := hff 5 _ rfl
  simp [Try.cellsInt, Try.cellsOps, Try.cellsInts] at g0 g1 g2 g3 g4 g5
  obtain ⟨x0, x1, x2, x3, x4, x5, rfl⟩ := list6 hxl
  obtain ⟨d, p⟩ := y
  simp only [Prod.mk.injEq] at hd
  obtain ⟨rfl, _⟩ := hd
  simp [DataW.weights, Try.underlying37] at hw
  have W := fun (j : Nat) t y h1 h2 m hm => hw m (DataW.weights_mem_each (j := j) (t := t) (d := y) h1 h2 m hm)
  obtain ⟨n0, r0, _, _⟩ := DataW.trod_int Try.underlying3 g0
  simp at r0
  subst r0
  obtain ⟨a1, d1, z1, rfl, h1⟩ := open_sl_ops g1
  obtain ⟨a2, d2, z2, rfl, h2⟩ := open_sl_ints g2
  obtain ⟨a3, d3, z3, rfl, h3⟩ := open_sl_ints g3
  obtain ⟨a4, d4, z4, rfl, h4⟩ := open_sl_ints g4
  obtain ⟨a5, d5, z5, rfl, h5⟩ := open_sl_ints g5
  exact ⟨⟨n0, z1, z2, z3, z4, z5⟩, rfl, IsO.of_sl h1 (room_ops g1 (W 1 _ _ rfl rfl)), IsI.of_sl h2 (room_ints g2 (W 2 _ _ rfl rfl)), IsI.of_sl h3 (room_ints g3 (W 3 _ _ rfl rfl)), IsI.of_sl h4 (room_ints g4 (W 4 _ _ rfl rfl)), IsI.of_sl h5 (room_ints g5 (W 5 _ _ rfl rfl))⟩

theorem part_six {cs : List Value} {i : Nat} (hi : i < 32) : ∀ j, j < 6 → (((((cs.drop 0).take 192).drop (i * 6)).take 6)).getD j (.bool false) = cs.getD (i * 6 + j) (.bool false) := by
  intro j hj
  simp only [List.drop_zero, List.getD]
  rw [List.getElem?_take_of_lt hj, List.getElem?_drop, List.getElem?_take_of_lt (by omega)]

set_option maxRecDepth 100000 in
theorem open_node {r : Reach} {b0 : Nat} {v : Value} {d : DataW H} {p : List MemPlace} (hv : Value.okWide Try.prog w r b0 41 v) (h : DataW.Trod enc Try.prog w base spare held 41 v d p) (hw : ∀ m ∈ d.weights Try.prog 41, m ≤ reachBytes) :
    ∃ nv s, v = .agg (rowF 201 nv) ∧ NodeC (· < w.heap.size) w nv s ∧ ∀ n, 32 ≤ n → s.ent n = zeroE := by
  obtain ⟨cs, rfl, hsz⟩ := okWide_struct Try.underlying41 hv
  rw [Try.cellsNode] at hsz
  obtain ⟨fuel, hf⟩ := h
  obtain ⟨xs, n, _, hd, _, hxl, hff⟩ := DataW.trod_struct Try.underlying41 hf
  have g0 : DataW.trod enc Try.prog w base spare held n 38 ((cs.toList.drop 0).take (Try.prog.cellsOf 38)) = xs[0]? := hff 0 _ rfl
  have g1 : DataW.trod enc Try.prog w base spare held n 23 ((cs.toList.drop 192).take (Try.prog.cellsOf 23)) = xs[1]? := hff 1 _ rfl
  have g2 : DataW.trod enc Try.prog w base spare held n 39 ((cs.toList.drop 193).take (Try.prog.cellsOf 39)) = xs[2]? := hff 2 _ rfl
  have hl : cs.toList.length = 201 := by simpa using hsz
  rw [Try.cellsEnts] at g0
  rw [Try.cellsSlice] at g1
  rw [Try.cellsVals] at g2
  obtain ⟨x0, x1, x2, rfl⟩ := list3' hxl
  simp only [List.getElem?_cons_zero, List.getElem?_cons_succ] at g0 g1 g2
  simp only [Prod.mk.injEq] at hd
  obtain ⟨rfl, _⟩ := hd
  simp [DataW.weights, Try.underlying41] at hw
  have W := fun (j : Nat) t y h1 h2 m hm => hw m (DataW.weights_mem_each (j := j) (t := t) (d := y) h1 h2 m hm)
  obtain ⟨ys, _, _, hdy, _, hyl, hy⟩ := DataW.trod_array Try.underlying38 g0
  obtain ⟨zs, _, _, _, _, hzl, hz⟩ := DataW.trod_array Try.underlying39 g2
  have W0 : ∀ m ∈ x0.1.weights Try.prog 38, m ≤ reachBytes := W 0 _ _ rfl rfl
  obtain ⟨d0, p0⟩ := x0
  simp only [Prod.mk.injEq] at hdy
  obtain ⟨rfl, _⟩ := hdy
  simp [DataW.weights, Try.underlying38] at W0
  have H1 : ∀ i, i < 32 → ∃ e : EntryL, EntC (· < w.heap.size) w (fun j => cs.toList.getD j (.bool false)) (i * 6) e := by
    intro i hi
    have hyi := hy i hi
    rw [Try.cellsEntry, List.getElem?_eq_getElem (by omega)] at hyi
    obtain ⟨e, he⟩ := open_ent (by simp; omega) hyi (fun m hm => W0 m (weights_mem_all (j := i) (d := ys[i].1) (by simp [hyl, hi]) m hm))
    exact ⟨e, he.same (fun j hj => by rw [Nat.zero_add]; exact (part_six hi j hj).symm)⟩
  have H2 : ∀ k, k < 8 → ∃ q : Int, cs.toList.getD (193 + k) (.bool false) = .int .i64 q := by
    intro k hk
    have := hz k hk
    rw [Try.cellsInt, Nat.mul_one, part_one (by omega) hk, List.getElem?_eq_getElem (by omega)] at this
    obtain ⟨q, hq, _⟩ := DataW.trod_int Try.underlying3 this
    exact ⟨q, by simpa using hq⟩
  have hone : (cs.toList.drop 192).take 1 = [cs.toList.getD 192 (.bool false)] := by
    have := part_one (cs := cs.toList) (o := 192) (n := 1) (i := 0) (by omega) (by omega)
    simp only [List.drop_zero, List.take_take, Nat.min_self, Nat.add_zero] at this
    exact this
  rw [hone] at g1
  obtain ⟨ao, co, zo, eo, ho⟩ := open_sl_ints g1
  have hro := g1
  rw [eo] at hro
  have lo := room_ints hro (W 1 _ _ rfl rfl)
  haveI : Inhabited EntryL := ⟨zeroE⟩
  obtain ⟨E, hE⟩ := choose_lt H1
  obtain ⟨V, hV⟩ := choose_lt H2
  refine ⟨fun i => cs.toList.getD i (.bool false), ⟨fun i => if i < 32 then E i else zeroE, zo, V⟩, ?_, ⟨⟨fun i hi => ?_, hV⟩, ?_⟩, fun n hn => if_neg (by omega)⟩
  · congr 1
    apply Array.ext_getElem?
    intro i
    by_cases hi : i < 201
    · rw [rowF_get _ hi]
      simp [List.getD, hsz, hi]
    · rw [Array.getElem?_eq_none (by omega), Array.getElem?_eq_none (by rw [rowF_size]; omega)]
  · show EntC _ w _ (i * 6) (if i < 32 then E i else zeroE)
    rw [if_pos hi]
    exact hE i hi
  · show IsI _ w (cs.toList.getD 192 (.bool false)) zo
    rw [eo]
    exact IsI.of_sl ho lo
end

end Go.Proofs.Ytkoefoccbjhoiab
