/-
  The document's own TakeFrame: what is refused ahead of all.
-/
import Derived.Test.YtgdkjjmnoikhdabRep24
import Derived.Test.YtgdkjjmnoikhdabRep26
import Derived.Test.YtgdkjjmnoikhdabRep27
import Derived.Test.YtgdkjjmnoikhdabRep29
namespace Go.Proofs.Ytgdkjjmnoikhdab
open Go.RowKit

theorem takeN_bad {s : NodeL} {who : Int} {f : FrameL} (h : goodNB s = false ∨ who < 0 ∨ 5 < who ∨ f.node ≠ who) : takeN s who f = (s, [], 2) := by unfold takeN; rw [if_pos h]
theorem takeN_form {s : NodeL} {who : Int} {f : FrameL} (h : ¬ (goodNB s = false ∨ who < 0 ∨ 5 < who ∨ f.node ≠ who)) (h2 : goodL f ≠ 0) : takeN s who f = (s, [], goodL f) := by unfold takeN; rw [if_neg h, if_pos h2]
theorem takeN_kind {s : NodeL} {who : Int} {f : FrameL} (h : ¬ (goodNB s = false ∨ who < 0 ∨ 5 < who ∨ f.node ≠ who)) (h2 : goodL f = 0) (h3 : f.kind ≠ 1) (h4 : f.kind ≠ 3) : takeN s who f = (s, [], 3) := by unfold takeN; rw [if_neg h, if_neg (by omega), if_neg h3, if_neg h4]
theorem takeN_none {s : NodeL} {who : Int} {f : FrameL} (h : ¬ (goodNB s = false ∨ who < 0 ∨ 5 < who ∨ f.node ≠ who)) (h2 : goodL f = 0) (h3 : f.kind = 1) (h4 : touchesL f.ops (ofL who) = false) : takeN s who f = (s, [], 4) := by unfold takeN; rw [if_neg h, if_neg (by omega), if_pos h3, if_pos h4]
theorem takeN_ask {s : NodeL} {who : Int} {f : FrameL} (h : ¬ (goodNB s = false ∨ who < 0 ∨ 5 < who ∨ f.node ≠ who)) (h2 : goodL f = 0) (h3 : f.kind = 1) (h4 : touchesL f.ops (ofL who) = true) : takeN s who f = (s.asked (ofL who) f, [⟨2, who, f.id, [], ((s.asked (ofL who) f).ent f.id.toNat).first, [], []⟩], 0) := by unfold takeN; rw [if_neg h, if_neg (by omega), if_pos h3, if_neg (by rw [h4]; decide)]
theorem takeN_com {s : NodeL} {who : Int} {f : FrameL} (h : ¬ (goodNB s = false ∨ who < 0 ∨ 5 < who ∨ f.node ≠ who)) (h2 : goodL f = 0) (h3 : f.kind = 3) : takeN s who f = (s.commit (ofL who) f, (s.commit (ofL who) f).answers (ofL who) who f.id, 0) := by unfold takeN; rw [if_neg h, if_neg (by omega), if_neg (by omega), if_pos h3]


set_option maxRecDepth 100000 in
set_option maxHeartbeats 40000000 in
theorem takeFrame_bad (lo : Nat) (nv : Nat → Value) (s : NodeL) (who : Int) (v : Value) (f : FrameL) (w : World) (_hlw : lo ≤ w.heap.size) (h : NodeC (fun b => lo ≤ b ∧ b < w.heap.size) w nv s) (hf : FrameV w v f) (hfar : FarV lo v) (hbad : goodNB s = false ∨ who < 0 ∨ 5 < who ∨ f.node ≠ who) :
    Calls Try.prog 21 #[.agg (rowF 201 nv), .int .i64 who, v] w fun r w' => ∃ nv' x, r = .returned (.tuple #[.agg (rowF 201 nv'), x, .int .i64 (takeN s who f).2.2]) ∧ NodeC (lo ≤ ·) w' nv' (takeN s who f).1 ∧
      FramesV 0 w' x (takeN s who f).2.1 ∧ Below w.heap.size w w' := by
  obtain ⟨gr, hgr⟩ : ∃ gr, gr = rowF 201 nv := ⟨_, rfl⟩
  obtain ⟨zr, hzr⟩ : ∃ zr, zr = rowF 201 zv := ⟨_, rfl⟩
  have hz0 := Try.zeroNode
  rw [← hzr] at hz0
  have hsg : (Try.prog.info? 41).map (·.size) = some gr.size := by rw [hgr, rowF_size]; exact Try.infoNode
  have hzg : zr.size = gr.size := by rw [hgr, hzr, rowF_size, rowF_size]
  have hog : gr.all (·.oneCell') = true := by rw [hgr]; exact rowF_all h.one
  rw [← hgr]
  have HGR : Hid (gr = rowF 201 nv) := hgr
  have HZR : Hid (zr = rowF 201 zv) := hzr
  have HN : Hid (NodeC (fun b => lo ≤ b ∧ b < w.heap.size) w nv s) := h
  have HFB : Hid (FrameB w.heap.size w v f) := hf.b
  have HFV : Hid (∀ x, Below w.heap.size w x → FrameV x v f) := fun x hx => (hf.b.later hx).v
  obtain ⟨a3, c3, a4, c4, a5, c5, a6, c6, rfl, H3, H4, _, _⟩ := hf.b
  have HF3 : Hid (SlOps w a3 c3 f.ops ∧ OpsIn (fun b => lo ≤ b ∧ b < w.heap.size) w a3 f.ops) := ⟨H3.1, ops_far H3.2 (fun x e => hfar _ rfl 3 x f.ops.length c3 (by rw [e]; rfl))⟩
  have HF4 : Hid (SlInts w a4 c4 f.deps ∧ IntsIn (fun b => lo ≤ b ∧ b < w.heap.size) w a4 f.deps) := ⟨H4.1, ints_far H4.2 (fun x e => hfar _ rfl 4 x f.deps.length c4 (by rw [e]; rfl))⟩
  obtain ⟨W, hW⟩ : ∃ W, W = ((w.alloc (.cells gr 41)).alloc (.cells #[.int .i64 f.kind, .int .i64 f.node, .int .i64 f.id, .slice a3 f.ops.length c3, .slice a4 f.deps.length c4, .slice a5 f.ats.length c5, .slice a6 f.vals.length c6] 43)).alloc (.cells zr 41) := ⟨_, rfl⟩
  obtain ⟨r0, r1, r2⟩ := rows3 w (.cells gr 41) (.cells #[.int .i64 f.kind, .int .i64 f.node, .int .i64 f.id, .slice a3 f.ops.length c3, .slice a4 f.deps.length c4, .slice a5 f.ats.length c5, .slice a6 f.vals.length c6] 43) (.cells zr 41)
  rw [← hW] at r0 r1 r2
  have hb : Below w.heap.size w W := by rw [hW]; exact (((Below.refl _ _).alloc (Nat.le_refl _) _).alloc (by rw [size_push]; omega) _).alloc (by rw [size_push, size_push]; omega) _
  have hzW : W.heap.size = w.heap.size + 3 := by rw [hW, size_push, size_push, size_push]
  have HW : Hid (W = ((w.alloc (.cells gr 41)).alloc (.cells #[.int .i64 f.kind, .int .i64 f.node, .int .i64 f.id, .slice a3 f.ops.length c3, .slice a4 f.deps.length c4, .slice a5 f.ats.length c5, .slice a6 f.vals.length c6] 43)).alloc (.cells zr 41)) := hW
  clear hgr hzr h hW hf H3 H4 hfar
  go_enter Try.func21, Try.ntmps21
  go_upto_region 1 with (first
    | (refine wpList_alloc_as rfl 41 rfl zr hz0 ?_)
    | fail)
  rw [← HW.out]
  clear HW
  go_wp2_with (refine wpList_load_row rfl 41 _ rfl w.heap.size rfl 41 gr (0, 0) _ r0 Try.underlying41 rfl hsg ?_)
  have hre := isNode_ref nv s W (HN.out.any.below hb)
  rw [← HGR.out] at hre
  refine hre.mono ?_
  clear hre
  rintro r y ⟨rfl, hby⟩
  have hyw : Below w.heap.size w y := hb.trans (hby.mono (by omega))
  have hzy : w.heap.size + 3 ≤ y.heap.size := by have := hby.size; omega
  have y0 : y.heap[w.heap.size]? = some (.cells gr 41 (0, 0)) := by rw [hby.block _ (by omega)]; exact r0
  have y1 : y.heap[w.heap.size + 1]? = some (.cells #[.int .i64 f.kind, .int .i64 f.node, .int .i64 f.id, .slice a3 f.ops.length c3, .slice a4 f.deps.length c4, .slice a5 f.ats.length c5, .slice a6 f.vals.length c6] 43 (0, 0)) := by rw [hby.block _ (by omega)]; exact r1
  have y2 : y.heap[w.heap.size + 2]? = some (.cells zr 41 (0, 0)) := by rw [hby.block _ (by omega)]; exact r2
  have k1 : y.cell? ⟨w.heap.size + 1, 1, none⟩ = some (.int .i64 f.node) := by rw [cell_of_row _ _ _ _ _ _ y1]; rfl
  clear hby hb r0 r1 r2 hzW
  have HT : Hid (takeN s who f = (s, [], 2)) := takeN_bad hbad
  cases tg : goodNB s
  · have hyf : Below w.heap.size w (y.setRow (w.heap.size + 2) gr) := setRow_below hyw (by omega) _
    have HFin : Hid (NodeC (lo ≤ ·) (y.setRow (w.heap.size + 2) gr) nv s) := (HN.out.later (fun b _ hb => hyf.block b hb.2)).mono (fun _ _ hb => hb.1)
    go_wp2_with (first
      | (refine wpList_load_row rfl 41 _ rfl w.heap.size rfl 41 gr (0, 0) _ y0 Try.underlying41 rfl hsg ?_)
      | (refine wpList_store_row rfl 41 _ _ rfl (w.heap.size + 2) gr rfl rfl 41 _ y2 hsg hzg hog ?_))
    refine bodyPost_ret (v := .tuple #[.agg gr, .slice none 0 0, .int .i64 2]) (results_row2 Try.results21 _ _ (w.heap.size + 2) 41 gr (0, 0) _ rfl (heap_setRow y2) Try.underlying41 rfl hsg _ _ rfl rfl) rfl ⟨nv, _, by rw [HGR.out, HT.out], by rw [HT.out]; exact HFin.out, by rw [HT.out]; exact FramesV.nil _ _, hyf⟩
  by_cases tw : who < 0
  · have dw : decide (who < 0) = true := decide_eq_true tw
    clear tw hbad
    have hyf : Below w.heap.size w (y.setRow (w.heap.size + 2) gr) := setRow_below hyw (by omega) _
    have HFin : Hid (NodeC (lo ≤ ·) (y.setRow (w.heap.size + 2) gr) nv s) := (HN.out.later (fun b _ hb => hyf.block b hb.2)).mono (fun _ _ hb => hb.1)
    go_wp2_with (first
      | (refine wpList_load_row rfl 41 _ rfl w.heap.size rfl 41 gr (0, 0) _ y0 Try.underlying41 rfl hsg ?_)
      | (refine wpList_store_row rfl 41 _ _ rfl (w.heap.size + 2) gr rfl rfl 41 _ y2 hsg hzg hog ?_))
    refine bodyPost_ret (v := .tuple #[.agg gr, .slice none 0 0, .int .i64 2]) (results_row2 Try.results21 _ _ (w.heap.size + 2) 41 gr (0, 0) _ rfl (heap_setRow y2) Try.underlying41 rfl hsg _ _ rfl rfl) rfl ⟨nv, _, by rw [HGR.out, HT.out], by rw [HT.out]; exact HFin.out, by rw [HT.out]; exact FramesV.nil _ _, hyf⟩
  have dw : decide (who < 0) = false := decide_eq_false tw
  by_cases tv : 5 < who
  · have dv : decide (5 < who) = true := decide_eq_true tv
    clear tw tv hbad
    have hyf : Below w.heap.size w (y.setRow (w.heap.size + 2) gr) := setRow_below hyw (by omega) _
    have HFin : Hid (NodeC (lo ≤ ·) (y.setRow (w.heap.size + 2) gr) nv s) := (HN.out.later (fun b _ hb => hyf.block b hb.2)).mono (fun _ _ hb => hb.1)
    go_wp2_with (first
      | (refine wpList_load_row rfl 41 _ rfl w.heap.size rfl 41 gr (0, 0) _ y0 Try.underlying41 rfl hsg ?_)
      | (refine wpList_store_row rfl 41 _ _ rfl (w.heap.size + 2) gr rfl rfl 41 _ y2 hsg hzg hog ?_))
    refine bodyPost_ret (v := .tuple #[.agg gr, .slice none 0 0, .int .i64 2]) (results_row2 Try.results21 _ _ (w.heap.size + 2) 41 gr (0, 0) _ rfl (heap_setRow y2) Try.underlying41 rfl hsg _ _ rfl rfl) rfl ⟨nv, _, by rw [HGR.out, HT.out], by rw [HT.out]; exact HFin.out, by rw [HT.out]; exact FramesV.nil _ _, hyf⟩
  have dv : decide (5 < who) = false := decide_eq_false tv
  have tn : f.node ≠ who := by
    rcases hbad with h | h | h | h
    · rw [tg] at h; cases h
    · exact absurd h tw
    · exact absurd h tv
    · exact h
  have dn : (f.node != who) = true := by simpa using tn
  clear tw tv tn hbad
  have hyf : Below w.heap.size w (y.setRow (w.heap.size + 2) gr) := setRow_below hyw (by omega) _
  have HFin : Hid (NodeC (lo ≤ ·) (y.setRow (w.heap.size + 2) gr) nv s) := (HN.out.later (fun b _ hb => hyf.block b hb.2)).mono (fun _ _ hb => hb.1)
  go_wp2_with (first
    | (refine wpList_load_row rfl 41 _ rfl w.heap.size rfl 41 gr (0, 0) _ y0 Try.underlying41 rfl hsg ?_)
    | (refine wpList_store_row rfl 41 _ _ rfl (w.heap.size + 2) gr rfl rfl 41 _ y2 hsg hzg hog ?_))
  refine bodyPost_ret (v := .tuple #[.agg gr, .slice none 0 0, .int .i64 2]) (results_row2 Try.results21 _ _ (w.heap.size + 2) 41 gr (0, 0) _ rfl (heap_setRow y2) Try.underlying41 rfl hsg _ _ rfl rfl) rfl ⟨nv, _, by rw [HGR.out, HT.out], by rw [HT.out]; exact HFin.out, by rw [HT.out]; exact FramesV.nil _ _, hyf⟩

set_option maxRecDepth 100000 in
set_option maxHeartbeats 40000000 in
theorem takeFrame_form (lo : Nat) (nv : Nat → Value) (s : NodeL) (who : Int) (v : Value) (f : FrameL) (w : World) (_hlw : lo ≤ w.heap.size) (h : NodeC (fun b => lo ≤ b ∧ b < w.heap.size) w nv s) (hf : FrameV w v f) (hfar : FarV lo v) (hok : ¬ (goodNB s = false ∨ who < 0 ∨ 5 < who ∨ f.node ≠ who)) (hgf : goodL f ≠ 0) :
    Calls Try.prog 21 #[.agg (rowF 201 nv), .int .i64 who, v] w fun r w' => ∃ nv' x, r = .returned (.tuple #[.agg (rowF 201 nv'), x, .int .i64 (takeN s who f).2.2]) ∧ NodeC (lo ≤ ·) w' nv' (takeN s who f).1 ∧
      FramesV 0 w' x (takeN s who f).2.1 ∧ Below w.heap.size w w' := by
  obtain ⟨gr, hgr⟩ : ∃ gr, gr = rowF 201 nv := ⟨_, rfl⟩
  obtain ⟨zr, hzr⟩ : ∃ zr, zr = rowF 201 zv := ⟨_, rfl⟩
  have hz0 := Try.zeroNode
  rw [← hzr] at hz0
  have hsg : (Try.prog.info? 41).map (·.size) = some gr.size := by rw [hgr, rowF_size]; exact Try.infoNode
  have hzg : zr.size = gr.size := by rw [hgr, hzr, rowF_size, rowF_size]
  have hog : gr.all (·.oneCell') = true := by rw [hgr]; exact rowF_all h.one
  rw [← hgr]
  have HGR : Hid (gr = rowF 201 nv) := hgr
  have HZR : Hid (zr = rowF 201 zv) := hzr
  have HN : Hid (NodeC (fun b => lo ≤ b ∧ b < w.heap.size) w nv s) := h
  have HFB : Hid (FrameB w.heap.size w v f) := hf.b
  have HFV : Hid (∀ x, Below w.heap.size w x → FrameV x v f) := fun x hx => (hf.b.later hx).v
  obtain ⟨a3, c3, a4, c4, a5, c5, a6, c6, rfl, H3, H4, _, _⟩ := hf.b
  have HF3 : Hid (SlOps w a3 c3 f.ops ∧ OpsIn (fun b => lo ≤ b ∧ b < w.heap.size) w a3 f.ops) := ⟨H3.1, ops_far H3.2 (fun x e => hfar _ rfl 3 x f.ops.length c3 (by rw [e]; rfl))⟩
  have HF4 : Hid (SlInts w a4 c4 f.deps ∧ IntsIn (fun b => lo ≤ b ∧ b < w.heap.size) w a4 f.deps) := ⟨H4.1, ints_far H4.2 (fun x e => hfar _ rfl 4 x f.deps.length c4 (by rw [e]; rfl))⟩
  obtain ⟨W, hW⟩ : ∃ W, W = ((w.alloc (.cells gr 41)).alloc (.cells #[.int .i64 f.kind, .int .i64 f.node, .int .i64 f.id, .slice a3 f.ops.length c3, .slice a4 f.deps.length c4, .slice a5 f.ats.length c5, .slice a6 f.vals.length c6] 43)).alloc (.cells zr 41) := ⟨_, rfl⟩
  obtain ⟨r0, r1, r2⟩ := rows3 w (.cells gr 41) (.cells #[.int .i64 f.kind, .int .i64 f.node, .int .i64 f.id, .slice a3 f.ops.length c3, .slice a4 f.deps.length c4, .slice a5 f.ats.length c5, .slice a6 f.vals.length c6] 43) (.cells zr 41)
  rw [← hW] at r0 r1 r2
  have hb : Below w.heap.size w W := by rw [hW]; exact (((Below.refl _ _).alloc (Nat.le_refl _) _).alloc (by rw [size_push]; omega) _).alloc (by rw [size_push, size_push]; omega) _
  have hzW : W.heap.size = w.heap.size + 3 := by rw [hW, size_push, size_push, size_push]
  have HW : Hid (W = ((w.alloc (.cells gr 41)).alloc (.cells #[.int .i64 f.kind, .int .i64 f.node, .int .i64 f.id, .slice a3 f.ops.length c3, .slice a4 f.deps.length c4, .slice a5 f.ats.length c5, .slice a6 f.vals.length c6] 43)).alloc (.cells zr 41)) := hW
  clear hgr hzr h hW hf H3 H4 hfar
  go_enter Try.func21, Try.ntmps21
  go_upto_region 1 with (first
    | (refine wpList_alloc_as rfl 41 rfl zr hz0 ?_)
    | fail)
  rw [← HW.out]
  clear HW
  go_wp2_with (refine wpList_load_row rfl 41 _ rfl w.heap.size rfl 41 gr (0, 0) _ r0 Try.underlying41 rfl hsg ?_)
  have hre := isNode_ref nv s W (HN.out.any.below hb)
  rw [← HGR.out] at hre
  refine hre.mono ?_
  clear hre
  rintro r y ⟨rfl, hby⟩
  have hyw : Below w.heap.size w y := hb.trans (hby.mono (by omega))
  have hzy : w.heap.size + 3 ≤ y.heap.size := by have := hby.size; omega
  have y0 : y.heap[w.heap.size]? = some (.cells gr 41 (0, 0)) := by rw [hby.block _ (by omega)]; exact r0
  have y1 : y.heap[w.heap.size + 1]? = some (.cells #[.int .i64 f.kind, .int .i64 f.node, .int .i64 f.id, .slice a3 f.ops.length c3, .slice a4 f.deps.length c4, .slice a5 f.ats.length c5, .slice a6 f.vals.length c6] 43 (0, 0)) := by rw [hby.block _ (by omega)]; exact r1
  have y2 : y.heap[w.heap.size + 2]? = some (.cells zr 41 (0, 0)) := by rw [hby.block _ (by omega)]; exact r2
  have k1 : y.cell? ⟨w.heap.size + 1, 1, none⟩ = some (.int .i64 f.node) := by rw [cell_of_row _ _ _ _ _ _ y1]; rfl
  clear hby hb r0 r1 r2 hzW
  have HT : Hid (takeN s who f = (s, [], goodL f)) := takeN_form hok hgf
  have HOK : Hid (¬ (goodNB s = false ∨ who < 0 ∨ 5 < who ∨ f.node ≠ who)) := hok
  have tg : goodNB s = true := by
    cases e : goodNB s
    · exact absurd (Or.inl e) hok
    · rfl
  have dw : decide (who < 0) = false := decide_eq_false (fun e => hok (Or.inr (Or.inl e)))
  have dv : decide (5 < who) = false := decide_eq_false (fun e => hok (Or.inr (Or.inr (Or.inl e))))
  have tn : f.node = who := by
    by_cases e : f.node = who
    · exact e
    · exact absurd (Or.inr (Or.inr (Or.inr e))) hok
  have dn : (f.node != who) = false := by simpa using tn
  have HG : Hid (GoodN s) := goodNB_iff.1 tg
  have HNW : Hid (f.node = who) := tn
  rw [tg]
  clear tg tn hok
  go_wp2_with (refine wpList_load_row rfl 43 _ rfl (w.heap.size + 1) rfl 43 _ (0, 0) _ y1 Try.underlying43 rfl Try.infoFrame7 ?_)
  refine (isFrame_any _ f y (HFV.out y hyw)).mono ?_
  rintro r z ⟨rfl, hbz⟩
  have hzw : Below w.heap.size w z := hyw.trans (hbz.mono (by omega))
  have hzz : w.heap.size + 3 ≤ z.heap.size := by have := hbz.size; omega
  have z0 : z.heap[w.heap.size]? = some (.cells gr 41 (0, 0)) := by rw [hbz.block _ (by omega)]; exact y0
  have z1 : z.heap[w.heap.size + 1]? = some (.cells #[.int .i64 f.kind, .int .i64 f.node, .int .i64 f.id, .slice a3 f.ops.length c3, .slice a4 f.deps.length c4, .slice a5 f.ats.length c5, .slice a6 f.vals.length c6] 43 (0, 0)) := by rw [hbz.block _ (by omega)]; exact y1
  have z2 : z.heap[w.heap.size + 2]? = some (.cells zr 41 (0, 0)) := by rw [hbz.block _ (by omega)]; exact y2
  have kk : z.cell? ⟨w.heap.size + 1, 0, none⟩ = some (.int .i64 f.kind) := by rw [cell_of_row _ _ _ _ _ _ z1]; rfl
  clear hbz hyw hzy y0 y1 y2 k1 dw dv dn
  have de : (goodL f != 0) = true := by simpa using hgf
  clear hgf
  have hyf : Below w.heap.size w (z.setRow (w.heap.size + 2) gr) := setRow_below hzw (by omega) _
  have HFin : Hid (NodeC (lo ≤ ·) (z.setRow (w.heap.size + 2) gr) nv s) := (HN.out.later (fun b _ hb => hyf.block b hb.2)).mono (fun _ _ hb => hb.1)
  go_wp2_with (first
    | (refine wpList_load_row rfl 41 _ rfl w.heap.size rfl 41 gr (0, 0) _ z0 Try.underlying41 rfl hsg ?_)
    | (refine wpList_store_row rfl 41 _ _ rfl (w.heap.size + 2) gr rfl rfl 41 _ z2 hsg hzg hog ?_))
  refine bodyPost_ret (v := .tuple #[.agg gr, .slice none 0 0, .int .i64 (goodL f)]) (results_row2 Try.results21 _ _ (w.heap.size + 2) 41 gr (0, 0) _ rfl (heap_setRow z2) Try.underlying41 rfl hsg _ _ rfl rfl) rfl ⟨nv, _, by rw [HGR.out, HT.out], by rw [HT.out]; exact HFin.out, by rw [HT.out]; exact FramesV.nil _ _, hyf⟩

set_option maxRecDepth 100000 in
set_option maxHeartbeats 40000000 in
theorem takeFrame_kind (lo : Nat) (nv : Nat → Value) (s : NodeL) (who : Int) (v : Value) (f : FrameL) (w : World) (_hlw : lo ≤ w.heap.size) (h : NodeC (fun b => lo ≤ b ∧ b < w.heap.size) w nv s) (hf : FrameV w v f) (hfar : FarV lo v) (hok : ¬ (goodNB s = false ∨ who < 0 ∨ 5 < who ∨ f.node ≠ who)) (hgf : goodL f = 0) (hk1 : f.kind ≠ 1) (hk3 : f.kind ≠ 3) :
    Calls Try.prog 21 #[.agg (rowF 201 nv), .int .i64 who, v] w fun r w' => ∃ nv' x, r = .returned (.tuple #[.agg (rowF 201 nv'), x, .int .i64 (takeN s who f).2.2]) ∧ NodeC (lo ≤ ·) w' nv' (takeN s who f).1 ∧
      FramesV 0 w' x (takeN s who f).2.1 ∧ Below w.heap.size w w' := by
  obtain ⟨gr, hgr⟩ : ∃ gr, gr = rowF 201 nv := ⟨_, rfl⟩
  obtain ⟨zr, hzr⟩ : ∃ zr, zr = rowF 201 zv := ⟨_, rfl⟩
  have hz0 := Try.zeroNode
  rw [← hzr] at hz0
  have hsg : (Try.prog.info? 41).map (·.size) = some gr.size := by rw [hgr, rowF_size]; exact Try.infoNode
  have hzg : zr.size = gr.size := by rw [hgr, hzr, rowF_size, rowF_size]
  have hog : gr.all (·.oneCell') = true := by rw [hgr]; exact rowF_all h.one
  rw [← hgr]
  have HGR : Hid (gr = rowF 201 nv) := hgr
  have HZR : Hid (zr = rowF 201 zv) := hzr
  have HN : Hid (NodeC (fun b => lo ≤ b ∧ b < w.heap.size) w nv s) := h
  have HFB : Hid (FrameB w.heap.size w v f) := hf.b
  have HFV : Hid (∀ x, Below w.heap.size w x → FrameV x v f) := fun x hx => (hf.b.later hx).v
  obtain ⟨a3, c3, a4, c4, a5, c5, a6, c6, rfl, H3, H4, _, _⟩ := hf.b
  have HF3 : Hid (SlOps w a3 c3 f.ops ∧ OpsIn (fun b => lo ≤ b ∧ b < w.heap.size) w a3 f.ops) := ⟨H3.1, ops_far H3.2 (fun x e => hfar _ rfl 3 x f.ops.length c3 (by rw [e]; rfl))⟩
  have HF4 : Hid (SlInts w a4 c4 f.deps ∧ IntsIn (fun b => lo ≤ b ∧ b < w.heap.size) w a4 f.deps) := ⟨H4.1, ints_far H4.2 (fun x e => hfar _ rfl 4 x f.deps.length c4 (by rw [e]; rfl))⟩
  obtain ⟨W, hW⟩ : ∃ W, W = ((w.alloc (.cells gr 41)).alloc (.cells #[.int .i64 f.kind, .int .i64 f.node, .int .i64 f.id, .slice a3 f.ops.length c3, .slice a4 f.deps.length c4, .slice a5 f.ats.length c5, .slice a6 f.vals.length c6] 43)).alloc (.cells zr 41) := ⟨_, rfl⟩
  obtain ⟨r0, r1, r2⟩ := rows3 w (.cells gr 41) (.cells #[.int .i64 f.kind, .int .i64 f.node, .int .i64 f.id, .slice a3 f.ops.length c3, .slice a4 f.deps.length c4, .slice a5 f.ats.length c5, .slice a6 f.vals.length c6] 43) (.cells zr 41)
  rw [← hW] at r0 r1 r2
  have hb : Below w.heap.size w W := by rw [hW]; exact (((Below.refl _ _).alloc (Nat.le_refl _) _).alloc (by rw [size_push]; omega) _).alloc (by rw [size_push, size_push]; omega) _
  have hzW : W.heap.size = w.heap.size + 3 := by rw [hW, size_push, size_push, size_push]
  have HW : Hid (W = ((w.alloc (.cells gr 41)).alloc (.cells #[.int .i64 f.kind, .int .i64 f.node, .int .i64 f.id, .slice a3 f.ops.length c3, .slice a4 f.deps.length c4, .slice a5 f.ats.length c5, .slice a6 f.vals.length c6] 43)).alloc (.cells zr 41)) := hW
  clear hgr hzr h hW hf H3 H4 hfar
  go_enter Try.func21, Try.ntmps21
  go_upto_region 1 with (first
    | (refine wpList_alloc_as rfl 41 rfl zr hz0 ?_)
    | fail)
  rw [← HW.out]
  clear HW
  go_wp2_with (refine wpList_load_row rfl 41 _ rfl w.heap.size rfl 41 gr (0, 0) _ r0 Try.underlying41 rfl hsg ?_)
  have hre := isNode_ref nv s W (HN.out.any.below hb)
  rw [← HGR.out] at hre
  refine hre.mono ?_
  clear hre
  rintro r y ⟨rfl, hby⟩
  have hyw : Below w.heap.size w y := hb.trans (hby.mono (by omega))
  have hzy : w.heap.size + 3 ≤ y.heap.size := by have := hby.size; omega
  have y0 : y.heap[w.heap.size]? = some (.cells gr 41 (0, 0)) := by rw [hby.block _ (by omega)]; exact r0
  have y1 : y.heap[w.heap.size + 1]? = some (.cells #[.int .i64 f.kind, .int .i64 f.node, .int .i64 f.id, .slice a3 f.ops.length c3, .slice a4 f.deps.length c4, .slice a5 f.ats.length c5, .slice a6 f.vals.length c6] 43 (0, 0)) := by rw [hby.block _ (by omega)]; exact r1
  have y2 : y.heap[w.heap.size + 2]? = some (.cells zr 41 (0, 0)) := by rw [hby.block _ (by omega)]; exact r2
  have k1 : y.cell? ⟨w.heap.size + 1, 1, none⟩ = some (.int .i64 f.node) := by rw [cell_of_row _ _ _ _ _ _ y1]; rfl
  clear hby hb r0 r1 r2 hzW
  have HT : Hid (takeN s who f = (s, [], 3)) := takeN_kind hok hgf hk1 hk3
  have HOK : Hid (¬ (goodNB s = false ∨ who < 0 ∨ 5 < who ∨ f.node ≠ who)) := hok
  have tg : goodNB s = true := by
    cases e : goodNB s
    · exact absurd (Or.inl e) hok
    · rfl
  have dw : decide (who < 0) = false := decide_eq_false (fun e => hok (Or.inr (Or.inl e)))
  have dv : decide (5 < who) = false := decide_eq_false (fun e => hok (Or.inr (Or.inr (Or.inl e))))
  have tn : f.node = who := by
    by_cases e : f.node = who
    · exact e
    · exact absurd (Or.inr (Or.inr (Or.inr e))) hok
  have dn : (f.node != who) = false := by simpa using tn
  have HG : Hid (GoodN s) := goodNB_iff.1 tg
  have HNW : Hid (f.node = who) := tn
  rw [tg]
  clear tg tn hok
  go_wp2_with (refine wpList_load_row rfl 43 _ rfl (w.heap.size + 1) rfl 43 _ (0, 0) _ y1 Try.underlying43 rfl Try.infoFrame7 ?_)
  refine (isFrame_any _ f y (HFV.out y hyw)).mono ?_
  rintro r z ⟨rfl, hbz⟩
  have hzw : Below w.heap.size w z := hyw.trans (hbz.mono (by omega))
  have hzz : w.heap.size + 3 ≤ z.heap.size := by have := hbz.size; omega
  have z0 : z.heap[w.heap.size]? = some (.cells gr 41 (0, 0)) := by rw [hbz.block _ (by omega)]; exact y0
  have z1 : z.heap[w.heap.size + 1]? = some (.cells #[.int .i64 f.kind, .int .i64 f.node, .int .i64 f.id, .slice a3 f.ops.length c3, .slice a4 f.deps.length c4, .slice a5 f.ats.length c5, .slice a6 f.vals.length c6] 43 (0, 0)) := by rw [hbz.block _ (by omega)]; exact y1
  have z2 : z.heap[w.heap.size + 2]? = some (.cells zr 41 (0, 0)) := by rw [hbz.block _ (by omega)]; exact y2
  have kk : z.cell? ⟨w.heap.size + 1, 0, none⟩ = some (.int .i64 f.kind) := by rw [cell_of_row _ _ _ _ _ _ z1]; rfl
  clear hbz hyw hzy y0 y1 y2 k1 dw dv dn
  have de : (goodL f != 0) = false := by simpa using hgf
  have dk : (f.kind != 1) = true := by simpa using hk1
  have dk3 : (f.kind != 3) = true := by simpa using hk3
  clear hgf hk1 hk3
  have hyf : Below w.heap.size w (z.setRow (w.heap.size + 2) gr) := setRow_below hzw (by omega) _
  have HFin : Hid (NodeC (lo ≤ ·) (z.setRow (w.heap.size + 2) gr) nv s) := (HN.out.later (fun b _ hb => hyf.block b hb.2)).mono (fun _ _ hb => hb.1)
  go_wp2_with (first
    | (refine wpList_load_row rfl 41 _ rfl w.heap.size rfl 41 gr (0, 0) _ z0 Try.underlying41 rfl hsg ?_)
    | (refine wpList_store_row rfl 41 _ _ rfl (w.heap.size + 2) gr rfl rfl 41 _ z2 hsg hzg hog ?_))
  refine bodyPost_ret (v := .tuple #[.agg gr, .slice none 0 0, .int .i64 3]) (results_row2 Try.results21 _ _ (w.heap.size + 2) 41 gr (0, 0) _ rfl (heap_setRow z2) Try.underlying41 rfl hsg _ _ rfl rfl) rfl ⟨nv, _, by rw [HGR.out, HT.out], by rw [HT.out]; exact HFin.out, by rw [HT.out]; exact FramesV.nil _ _, hyf⟩

end Go.Proofs.Ytgdkjjmnoikhdab
