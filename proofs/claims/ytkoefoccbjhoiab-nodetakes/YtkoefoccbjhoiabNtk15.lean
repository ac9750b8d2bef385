/-
  The contract of node's Take.
  What the document's own TakeFrame needs of memory.
  Two rows of numbers are alike.
  The contracts of the document's own isTxn, has and SameNumbers.
  The contract of the document's own IsRising.
  Plain mathematics of our own: the reader at a place of a text, and what a text's length tells of a frame.
  The contracts of the document's own SameOps and SameFrame, of fromSix and of the closure of DecodeFrame.
  The contracts of the document's own SameEntry and SameNode.
-/
import Derived.Test.YtkoefoccbjhoiabNtk14
import Derived.Test.YtkoefoccbjhoiabNtk12
import Derived.Test.YtkoefoccbjhoiabNtk13
import Derived.Test.YtkoefoccbjhoiabNtk3
import Derived.Test.YtkoefoccbjhoiabNtk1
import Derived.Test.YtkoefoccbjhoiabNtk2
namespace Go.Proofs.Ytkoefoccbjhoiab
open Go.RowKit

/-- What separate leaves, laid into the box ahead of it. -/
theorem Apart.into {B c : Nat} {w : World} {nv : Nat → Value} {s : NodeL} {old : Array Value} {t : TypeId} (h : Apart B w nv s) (hc : c + 2 < B) (hB : B ≤ w.heap.size) (hr : w.heap[c]? = some (.cells old t (0, 0))) : NodeAt c (w.setRow c (rowF 201 nv)) nv s := by
  have hs : ∀ k, k ≠ c → (w.setRow c (rowF 201 nv)).heap[k]? = w.heap[k]? := fun k hk => setRow_other _ _ hk
  have h2 : Apart B (w.setRow c (rowF 201 nv)) nv s := ⟨h.node.later (fun b _ hb => hs b (by omega)), own_same h.order (fun k hk => hs k (by have := (World.ownsRow.lt h.order k hk).1; omega)), h.hot, h.len⟩
  exact h2.at hc (by rw [size_setRow]; exact hB) ⟨t, heap_setRow hr⟩
/-- And out of it again, into the result's box. -/
theorem NodeAt.out {c : Nat} {w : World} {nv : Nat → Value} {s : NodeL} (h : NodeAt c w nv s) (hl : s.order.length * 8 ≤ 140737488355328) (r : Array Value) : NodeC (c + 2 < ·) (w.setRow (c + 2) r) nv s := by
  have hs : ∀ k, k ≠ c + 2 → (w.setRow (c + 2) r).heap[k]? = w.heap[k]? := fun k hk => setRow_other _ _ hk
  have h1 : NodeC (c + 2 < ·) w nv s := ⟨h.node.mono (fun b _ hb => hb.1), (IsI.of_owns h.order hl).mono (fun b _ hb => by have := hb.1; omega)⟩
  exact h1.later (fun b _ hb => hs b (by omega))

/-- A frame that is taken: what then is, by its kind. -/
theorem take_ask {s : NodeL} {who : Int} {f : FrameL} (h : reasonN s who f = 0) (hk : f.kind = 1) : GoodN s ∧ goodL f = 0 ∧ f.node = who ∧ takeN s who f = (s.asked (ofL f.node) f, [⟨2, f.node, f.id, [], ((s.asked (ofL f.node) f).ent f.id.toNat).first, [], []⟩], 0) := by
  rcases take_cases s who f with ⟨h1, _⟩ | ⟨hg, hf, _, hn, _, _, ⟨_, _, e⟩ | ⟨hk3, _⟩⟩
  · rw [reason_take] at h1; exact absurd h h1
  · exact ⟨hg, hf, hn, by rw [e, hn]⟩
  · omega
theorem take_com {s : NodeL} {who : Int} {f : FrameL} (h : reasonN s who f = 0) (hk : f.kind ≠ 1) : GoodN s ∧ goodL f = 0 ∧ f.node = who ∧ f.kind = 3 ∧ takeN s who f = (s.commit (ofL f.node) f, (s.commit (ofL f.node) f).answers (ofL f.node) f.node f.id, 0) := by
  rcases take_cases s who f with ⟨h1, _⟩ | ⟨hg, hf, _, hn, _, _, ⟨hk1, _, _⟩ | ⟨hk3, e⟩⟩
  · rw [reason_take] at h1; exact absurd h h1
  · exact absurd hk1 hk
  · exact ⟨hg, hf, hn, hk3, by rw [e, hn]⟩
theorem take_not {s : NodeL} {who : Int} {f : FrameL} (h : reasonN s who f ≠ 0) : takeN s who f = (s, [], reasonN s who f) := by
  rcases take_cases s who f with ⟨_, h1, h2⟩ | ⟨_, _, h3, _⟩
  · have h4 := reason_take s who f
    generalize takeN s who f = t at h1 h2 h4 ⊢
    obtain ⟨a, b, c⟩ := t
    simp only at h1 h2 h4
    rw [h1, h2, h4]
  · rw [reason_take] at h3; exact absurd h3 h

set_option maxRecDepth 100000 in
set_option maxHeartbeats 2000000 in
theorem take_new (nv : Nat → Value) (s : NodeL) (who : Int) (v : Value) (f : FrameL) (w : World) (h : NodeC (· < w.heap.size) w nv s) (hf : FrameV w v f) :
    Calls Try.prog 23 #[.agg (rowF 201 nv), .int .i64 who, v] w fun r w' => ∃ nv' x, r = .returned (.tuple #[.agg (rowF 201 nv'), x, .int .i64 (takeN s who f).2.2]) ∧ NodeC (w.heap.size < ·) w' nv' (takeN s who f).1 ∧
      FramesV w.heap.size w' x (takeN s who f).2.1 ∧ Below w.heap.size w w' := by
  obtain ⟨gr, hgr⟩ : ∃ gr, gr = rowF 201 nv := ⟨_, rfl⟩
  obtain ⟨zr, hzr⟩ : ∃ zr, zr = rowF 201 zv := ⟨_, rfl⟩
  have hz0 := Try.zeroNode
  rw [← hzr] at hz0
  have hsg : (Try.prog.info? 41).map (·.size) = some gr.size := by rw [hgr, rowF_size]; exact Try.infoNode
  rw [← hgr]
  have HGR : Hid (gr = rowF 201 nv) := hgr
  have HZR : Hid (zr = rowF 201 zv) := hzr
  have HN : Hid (NodeC (· < w.heap.size) w nv s) := h
  have HFB : Hid (FrameB w.heap.size w v f) := hf.b
  have HFV : Hid (∀ x, Below w.heap.size w x → FrameV x v f) := fun x hx => (hf.b.later hx).v
  obtain ⟨a3, c3, a4, c4, a5, c5, a6, c6, rfl, _⟩ := hf
  obtain ⟨W, hW⟩ : ∃ W, W = ((w.alloc (.cells gr 41)).alloc (.cells #[.int .i64 f.kind, .int .i64 f.node, .int .i64 f.id, .slice a3 f.ops.length c3, .slice a4 f.deps.length c4, .slice a5 f.ats.length c5, .slice a6 f.vals.length c6] 43)).alloc (.cells zr 41) := ⟨_, rfl⟩
  obtain ⟨r0, r1, r2⟩ := rows3 w (.cells gr 41) (.cells #[.int .i64 f.kind, .int .i64 f.node, .int .i64 f.id, .slice a3 f.ops.length c3, .slice a4 f.deps.length c4, .slice a5 f.ats.length c5, .slice a6 f.vals.length c6] 43) (.cells zr 41)
  rw [← hW] at r0 r1 r2
  have hb : Below w.heap.size w W := by rw [hW]; exact (((Below.refl _ _).alloc (Nat.le_refl _) _).alloc (by rw [size_push]; omega) _).alloc (by rw [size_push, size_push]; omega) _
  have hzW : W.heap.size = w.heap.size + 3 := by rw [hW, size_push, size_push, size_push]
  have HW : Hid (W = ((w.alloc (.cells gr 41)).alloc (.cells #[.int .i64 f.kind, .int .i64 f.node, .int .i64 f.id, .slice a3 f.ops.length c3, .slice a4 f.deps.length c4, .slice a5 f.ats.length c5, .slice a6 f.vals.length c6] 43)).alloc (.cells zr 41)) := hW
  clear hgr hzr h hW
  go_enter Try.func23, Try.ntmps23
  go_upto_region 1 with (first
    | (refine wpList_alloc_as rfl 41 rfl zr hz0 ?_)
    | fail)
  rw [← HW.out]
  clear HW hz0
  go_wp2_with (refine wpList_load_row rfl 41 _ rfl w.heap.size rfl 41 gr (0, 0) _ r0 Try.underlying41 rfl hsg ?_)
  rw [HGR.out]
  refine (separate_any nv s W (HN.out.below hb)).mono ?_
  rintro r w1 ⟨nv1, rfl, hap, hb1⟩
  obtain ⟨fr, hfr⟩ : ∃ fr, fr = rowF 201 nv1 := ⟨_, rfl⟩
  rw [← hfr]
  have hsf : (Try.prog.info? 41).map (·.size) = some fr.size := by rw [hfr, rowF_size]; exact Try.infoNode
  have p0 : w1.heap[w.heap.size]? = some (.cells gr 41 (0, 0)) := by rw [hb1.block _ (by omega)]; exact r0
  have p1 : w1.heap[w.heap.size + 1]? = some (.cells #[.int .i64 f.kind, .int .i64 f.node, .int .i64 f.id, .slice a3 f.ops.length c3, .slice a4 f.deps.length c4, .slice a5 f.ats.length c5, .slice a6 f.vals.length c6] 43 (0, 0)) := by rw [hb1.block _ (by omega)]; exact r1
  have p2 : w1.heap[w.heap.size + 2]? = some (.cells zr 41 (0, 0)) := by rw [hb1.block _ (by omega)]; exact r2
  have hzs : gr.size = fr.size := by rw [hfr, HGR.out, rowF_size, rowF_size]
  have hzz : zr.size = fr.size := by rw [hfr, HZR.out, rowF_size, rowF_size]
  have hone : fr.all (·.oneCell') = true := by
    rw [hfr]
    exact rowF_all (NodeC.one (ok := fun _ => True) (w := w1) (s := s) ⟨hap.node.mono (fun _ _ _ => trivial), (IsI.of_owns hap.order hap.len).mono (fun _ _ _ => trivial)⟩)
  have hlen := hap.len
  have hz1 := hb1.size
  obtain ⟨X, hX⟩ : ∃ X, X = w1.setRow w.heap.size fr := ⟨_, rfl⟩
  have HA : Hid (NodeAt w.heap.size X nv1 s) := by rw [hX, hfr]; exact hap.into (by omega) (by omega) p0
  have hXw : Below w.heap.size w X := by rw [hX]; exact setRow_below (hb.trans (hb1.mono (by omega))) (Nat.le_refl _) _
  have hzX : w.heap.size + 3 ≤ X.heap.size := by rw [hX, size_setRow]; omega
  have x0 : X.heap[w.heap.size]? = some (.cells fr 41 (0, 0)) := by rw [hX]; exact heap_setRow p0
  have x1 : X.heap[w.heap.size + 1]? = some (.cells #[.int .i64 f.kind, .int .i64 f.node, .int .i64 f.id, .slice a3 f.ops.length c3, .slice a4 f.deps.length c4, .slice a5 f.ats.length c5, .slice a6 f.vals.length c6] 43 (0, 0)) := by rw [hX, setRow_other _ _ (by omega)]; exact p1
  have x2 : X.heap[w.heap.size + 2]? = some (.cells zr 41 (0, 0)) := by rw [hX, setRow_other _ _ (by omega)]; exact p2
  have HFR : Hid (fr = rowF 201 nv1) := hfr
  have HX : Hid (X = w1.setRow w.heap.size fr) := hX
  have HNC : Hid (NodeC (· < X.heap.size) X nv1 s) := by
    have h1 : Apart W.heap.size X nv1 s := by
      rw [hX]
      exact ⟨hap.node.later (fun b _ hb => setRow_other _ _ (by omega)), own_same hap.order (fun k hk => setRow_other _ _ (by have := (World.ownsRow.lt hap.order k hk).1; omega)), hap.hot, hap.len⟩
    exact ⟨h1.node.mono (fun _ hb _ => hb), (IsI.of_owns h1.order h1.len).mono (fun _ hb _ => hb)⟩
  clear hfr hX hap r0 r1 r2 hb1 p1 p2 hb
  go_upto_region 2 with (refine wpList_store_row rfl 41 _ _ rfl w.heap.size fr rfl rfl 41 _ p0 hsf hzs hone ?_)
  rw [← HX.out]
  clear HX p0
  go_wp2_with (first
    | (refine wpList_load_row rfl 41 _ rfl w.heap.size rfl 41 fr (0, 0) _ x0 Try.underlying41 rfl hsf ?_)
    | (refine wpList_load_row rfl 43 _ rfl (w.heap.size + 1) rfl 43 _ (0, 0) _ x1 Try.underlying43 rfl Try.infoFrame7 ?_))
  have hre := refusal_any nv1 s who _ f X HNC.out (HFV.out X hXw)
  rw [← HFR.out] at hre
  refine hre.mono ?_
  clear hre
  rintro r y ⟨rfl, hby⟩
  have HAy : Hid (NodeAt w.heap.size y nv1 s) := HA.out.later hby
  have hyw : Below w.heap.size w y := hXw.trans (hby.mono (by omega))
  have hzy : w.heap.size + 3 ≤ y.heap.size := by have := hby.size; omega
  have y0 : y.heap[w.heap.size]? = some (.cells fr 41 (0, 0)) := by rw [hby.block _ (by omega)]; exact x0
  have y1 : y.heap[w.heap.size + 1]? = some (.cells #[.int .i64 f.kind, .int .i64 f.node, .int .i64 f.id, .slice a3 f.ops.length c3, .slice a4 f.deps.length c4, .slice a5 f.ats.length c5, .slice a6 f.vals.length c6] 43 (0, 0)) := by rw [hby.block _ (by omega)]; exact x1
  have y2 : y.heap[w.heap.size + 2]? = some (.cells zr 41 (0, 0)) := by rw [hby.block _ (by omega)]; exact x2
  have qk : y.cell? ⟨w.heap.size + 1, 0, none⟩ = some (.int .i64 f.kind) := by rw [cell_of_row _ _ _ _ _ _ y1]; rfl
  clear hby HA hXw hzX x0 x1 x2 HNC
  by_cases t0 : reasonN s who f = 0
  · have d0 : (reasonN s who f != 0) = false := by simpa using t0
    have HT0 : Hid (reasonN s who f = 0) := t0
    clear t0
    by_cases tk : f.kind = 1
    · have dk : (f.kind == 1) = true := by simpa using tk
      have HTK : Hid (GoodN s ∧ goodL f = 0 ∧ f.node = who ∧ takeN s who f = (s.asked (ofL f.node) f, [⟨2, f.node, f.id, [], ((s.asked (ofL f.node) f).ent f.id.toNat).first, [], []⟩], 0)) := take_ask HT0.out tk
      have HLo : Hid ((s.asked (ofL f.node) f).order.length * 8 ≤ 140737488355328) := by
        unfold Hid
        have : (s.asked (ofL f.node) f).order = s.order := by unfold NodeL.asked; split <;> rfl
        rw [this]; exact hlen
      clear tk
      go_wp2_with (refine wpList_load_row rfl 43 _ rfl (w.heap.size + 1) rfl 43 _ (0, 0) _ y1 Try.underlying43 rfl Try.infoFrame7 ?_)
      refine (takeAsk_any w.heap.size nv1 s _ f y HAy.out HTK.out.1 (HFB.out.later hyw) HTK.out.2.1).mono ?_
      rintro r z ⟨x, mv, rfl, hat, hfs, hbz⟩
      obtain ⟨s1, hs1⟩ : ∃ s1, s1 = (takeN s who f).1 := ⟨_, rfl⟩
      obtain ⟨f1, hf1⟩ : ∃ f1, f1 = (takeN s who f).2.1 := ⟨_, rfl⟩
      have HS0 : Hid ((takeN s who f).2.2 = 0) := by unfold Hid; rw [reason_take]; exact HT0.out
      have HS1 : Hid (s1 = (takeN s who f).1) := hs1
      have HF1 : Hid (f1 = (takeN s who f).2.1) := hf1
      have hat : NodeAt w.heap.size z mv s1 := by rw [hs1, HTK.out.2.2.2]; exact hat
      have hfs : FramesV y.heap.size z x f1 := by rw [hf1, HTK.out.2.2.2]; exact hfs
      have hlo : s1.order.length * 8 ≤ 140737488355328 := by rw [hs1, HTK.out.2.2.2]; exact HLo.out
      obtain ⟨er, her⟩ : ∃ er, er = rowF 201 mv := ⟨_, rfl⟩
      have hse : (Try.prog.info? 41).map (·.size) = some er.size := by rw [her, rowF_size]; exact Try.infoNode
      have hze : zr.size = er.size := by rw [her, HZR.out, rowF_size, rowF_size]
      have honee : er.all (·.oneCell') = true := by rw [her]; exact rowF_all (NodeC.one (ok := fun _ => True) (w := z) (s := s1) ⟨hat.node.mono (fun _ _ _ => trivial), (IsI.of_owns hat.order hlo).mono (fun _ _ _ => trivial)⟩)
      obtain ⟨tz, z0⟩ := hat.blk
      rw [← her] at z0
      have z2 : z.heap[w.heap.size + 2]? = some (.cells zr 41 (0, 0)) := by rw [hbz.block _ (by omega) (by omega)]; exact y2
      have HF : Hid (NodeC (w.heap.size < ·) (z.setRow (w.heap.size + 2) er) mv s1) := (hat.out hlo er).mono (fun b _ hb => by omega)
      have HFS : Hid (FramesV w.heap.size (z.setRow (w.heap.size + 2) er) x f1) := (hfs.same (fun b _ hb => setRow_other _ _ (by omega))).mono (by omega)
      have hzf : Below w.heap.size w (z.setRow (w.heap.size + 2) er) := setRow_below (hyw.trans hbz.below) (by omega) _
      have HER : Hid (er = rowF 201 mv) := her
      clear hs1 hf1 hat hfs her HAy hyw hbz HTK HLo
      go_wp2_with (first
        | (refine wpList_load_row rfl 41 _ rfl w.heap.size rfl tz er (0, 0) _ z0 Try.underlying41 rfl hse ?_)
        | (refine wpList_store_row rfl 41 _ _ rfl (w.heap.size + 2) er rfl rfl 41 _ z2 hse hze honee ?_))
      refine bodyPost_ret (v := .tuple #[.agg er, x, .int .i64 0]) (results_row2 Try.results23 _ _ (w.heap.size + 2) 41 er (0, 0) _ rfl (heap_setRow z2) Try.underlying41 rfl hse _ _ rfl rfl) rfl ⟨mv, _, by rw [HER.out, HS0.out], by rw [← HS1.out]; exact HF.out, by rw [← HF1.out]; exact HFS.out, hzf⟩
    · have dk : (f.kind == 1) = false := by simpa using tk
      have HTK : Hid (GoodN s ∧ goodL f = 0 ∧ f.node = who ∧ f.kind = 3 ∧ takeN s who f = (s.commit (ofL f.node) f, (s.commit (ofL f.node) f).answers (ofL f.node) f.node f.id, 0)) := take_com HT0.out tk
      have HLo : Hid ((s.commit (ofL f.node) f).order.length * 8 ≤ 140737488355328) := by
        unfold Hid
        have := (good_commit HTK.out.1 (ofL f.node) HTK.out.2.1 HTK.out.2.2.2.1).len
        omega
      clear tk
      go_wp2_with (refine wpList_load_row rfl 43 _ rfl (w.heap.size + 1) rfl 43 _ (0, 0) _ y1 Try.underlying43 rfl Try.infoFrame7 ?_)
      refine (takeCommit_any w.heap.size nv1 s _ f y HAy.out HTK.out.1 (HFB.out.later hyw) HTK.out.2.1 HTK.out.2.2.2.1).mono ?_
      rintro r z ⟨x, mv, rfl, hat, hfs, hbz⟩
      obtain ⟨s1, hs1⟩ : ∃ s1, s1 = (takeN s who f).1 := ⟨_, rfl⟩
      obtain ⟨f1, hf1⟩ : ∃ f1, f1 = (takeN s who f).2.1 := ⟨_, rfl⟩
      have HS0 : Hid ((takeN s who f).2.2 = 0) := by unfold Hid; rw [reason_take]; exact HT0.out
      have HS1 : Hid (s1 = (takeN s who f).1) := hs1
      have HF1 : Hid (f1 = (takeN s who f).2.1) := hf1
      have hat : NodeAt w.heap.size z mv s1 := by rw [hs1, HTK.out.2.2.2.2]; exact hat
      have hfs : FramesV y.heap.size z x f1 := by rw [hf1, HTK.out.2.2.2.2]; exact hfs
      have hlo : s1.order.length * 8 ≤ 140737488355328 := by rw [hs1, HTK.out.2.2.2.2]; exact HLo.out
      obtain ⟨er, her⟩ : ∃ er, er = rowF 201 mv := ⟨_, rfl⟩
      have hse : (Try.prog.info? 41).map (·.size) = some er.size := by rw [her, rowF_size]; exact Try.infoNode
      have hze : zr.size = er.size := by rw [her, HZR.out, rowF_size, rowF_size]
      have honee : er.all (·.oneCell') = true := by rw [her]; exact rowF_all (NodeC.one (ok := fun _ => True) (w := z) (s := s1) ⟨hat.node.mono (fun _ _ _ => trivial), (IsI.of_owns hat.order hlo).mono (fun _ _ _ => trivial)⟩)
      obtain ⟨tz, z0⟩ := hat.blk
      rw [← her] at z0
      have z2 : z.heap[w.heap.size + 2]? = some (.cells zr 41 (0, 0)) := by rw [hbz.block _ (by omega) (by omega)]; exact y2
      have HF : Hid (NodeC (w.heap.size < ·) (z.setRow (w.heap.size + 2) er) mv s1) := (hat.out hlo er).mono (fun b _ hb => by omega)
      have HFS : Hid (FramesV w.heap.size (z.setRow (w.heap.size + 2) er) x f1) := (hfs.same (fun b _ hb => setRow_other _ _ (by omega))).mono (by omega)
      have hzf : Below w.heap.size w (z.setRow (w.heap.size + 2) er) := setRow_below (hyw.trans hbz.below) (by omega) _
      have HER : Hid (er = rowF 201 mv) := her
      clear hs1 hf1 hat hfs her HAy hyw hbz HTK HLo
      go_wp2_with (first
        | (refine wpList_load_row rfl 41 _ rfl w.heap.size rfl tz er (0, 0) _ z0 Try.underlying41 rfl hse ?_)
        | (refine wpList_store_row rfl 41 _ _ rfl (w.heap.size + 2) er rfl rfl 41 _ z2 hse hze honee ?_))
      refine bodyPost_ret (v := .tuple #[.agg er, x, .int .i64 0]) (results_row2 Try.results23 _ _ (w.heap.size + 2) 41 er (0, 0) _ rfl (heap_setRow z2) Try.underlying41 rfl hse _ _ rfl rfl) rfl ⟨mv, _, by rw [HER.out, HS0.out], by rw [← HS1.out]; exact HF.out, by rw [← HF1.out]; exact HFS.out, hzf⟩
  · have d0 : (reasonN s who f != 0) = true := by simpa using t0
    have HT : Hid (takeN s who f = (s, [], reasonN s who f)) := take_not t0
    clear t0
    have HF : Hid (NodeC (w.heap.size < ·) (y.setRow (w.heap.size + 2) fr) nv1 s) := (HAy.out.out hlen fr).mono (fun b _ hb => by omega)
    have hyf : Below w.heap.size w (y.setRow (w.heap.size + 2) fr) := setRow_below hyw (by omega) _
    clear HAy hyw
    go_wp2_with (first
      | (refine wpList_load_row rfl 41 _ rfl w.heap.size rfl 41 fr (0, 0) _ y0 Try.underlying41 rfl hsf ?_)
      | (refine wpList_store_row rfl 41 _ _ rfl (w.heap.size + 2) fr rfl rfl 41 _ y2 hsf hzz hone ?_))
    refine bodyPost_ret (v := .tuple #[.agg fr, .slice none 0 0, .int .i64 (reasonN s who f)]) (results_row2 Try.results23 _ _ (w.heap.size + 2) 41 fr (0, 0) _ rfl (heap_setRow y2) Try.underlying41 rfl hsf _ _ rfl rfl) rfl ⟨nv1, _, by rw [HFR.out, HT.out], by rw [HT.out]; exact HF.out, by rw [HT.out]; exact FramesV.nil _ _, hyf⟩

theorem take_any (nv : Nat → Value) (s : NodeL) (who : Int) (v : Value) (f : FrameL) (w : World) (h : NodeC (· < w.heap.size) w nv s) (hf : FrameV w v f) :
    Calls Try.prog 23 #[.agg (rowF 201 nv), .int .i64 who, v] w fun r w' => ∃ nv' x, r = .returned (.tuple #[.agg (rowF 201 nv'), x, .int .i64 (takeN s who f).2.2]) ∧ NodeC (· < w'.heap.size) w' nv' (takeN s who f).1 ∧
      FramesV w.heap.size w' x (takeN s who f).2.1 ∧ Below w.heap.size w w' := by
  refine (take_new nv s who v f w h hf).mono ?_
  rintro r w' ⟨nv', x, e, h1, h2⟩
  exact ⟨nv', x, e, h1.any, h2⟩

end Go.Proofs.Ytkoefoccbjhoiab

namespace Go.Proofs.Ytkoefoccbjhoiab
open Go.RowKit

theorem setCells_size (c : Nat) : ∀ (vs : List Value) (o : Nat) (w : World), (w.setCells c o vs).heap.size = w.heap.size
  | [], _, _ => rfl
  | v :: r, o, w => by rw [World.setCells, setCells_size c r]; simp [World.setCell]
theorem setCells_other {c k : Nat} (hk : k ≠ c) : ∀ (vs : List Value) (o : Nat) (w : World), (w.setCells c o vs).heap[k]? = w.heap[k]?
  | [], _, _ => rfl
  | v :: r, o, w => by rw [World.setCells, setCells_other hk r, Below.heap_setCell _ _ _ _ hk]
theorem setCells_below {B c : Nat} {a : World} (hc : B ≤ c) : ∀ (vs : List Value) (o : Nat) {w : World}, Below B a w → Below B a (w.setCells c o vs)
  | [], _, _, h => h
  | v :: r, o, w, h => by rw [World.setCells]; exact setCells_below hc r (o + 1) (h.setCell hc _)
theorem BlkAt.put6 {c n : Nat} {w : World} {mv ev : Nat → Value} (h : BlkAt 201 w c mv) (hn : n < 32) : BlkAt 201 (w.setCells c (n * 6) (rowF 6 ev).toList) c (fun i => if n * 6 ≤ i ∧ i < n * 6 + 6 then ev (i - n * 6) else mv i) := by
  have hlen : (rowF 6 ev).toList.length = 6 := by rw [Array.length_toList, rowF_size]
  refine (BlkAt.puts (rowF 6 ev).toList (n * 6) h (by rw [hlen]; omega)).congr fun i hi => ?_
  rw [hlen]
  by_cases e : n * 6 ≤ i ∧ i < n * 6 + 6
  · rw [if_pos e, if_pos e]
    have h3 := rowF_get ev (N := 6) (i := i - n * 6) (by omega)
    simp only [List.getD, Array.getElem?_toList, h3, Option.getD_some]
  · rw [if_neg e, if_neg e]
theorem NodeR.putEnt {lo c m : Nat} {w : World} {nv ev : Nat → Value} {s : NodeL} {e' : EntryL} (h : NodeR lo c w nv s) (hm : m < 32) (he : ∀ f, f < 6 → fieldOK (fun b => (lo ≤ b ∧ (b < c ∨ c + 2 < b)) ∧ (nv 192).ownBlock ≠ some b) w e' f (ev f)) :
    NodeR lo c (w.setCells c (m * 6) (rowF 6 ev).toList) (fun i => if m * 6 ≤ i ∧ i < m * 6 + 6 then ev (i - m * 6) else nv i) ⟨upd s.ent m e', s.order, s.vals⟩ := by
  have e192 : (if m * 6 ≤ 192 ∧ 192 < m * 6 + 6 then ev (192 - m * 6) else nv 192) = nv 192 := if_neg (by omega)
  refine ⟨h.blk.put6 hm, ?_, h.lc, by rw [setCells_size]; exact h.room, ?_⟩
  · show NodeE (fun b => (lo ≤ b ∧ (b < c ∨ c + 2 < b)) ∧ (if m * 6 ≤ 192 ∧ 192 < m * 6 + 6 then ev (192 - m * 6) else nv 192).ownBlock ≠ some b) _ _ _
    rw [e192]
    have h1 : NodeE (fun b => (lo ≤ b ∧ (b < c ∨ c + 2 < b)) ∧ (nv 192).ownBlock ≠ some b) w (fun i => if m * 6 ≤ i ∧ i < m * 6 + 6 then ev (i - m * 6) else nv i) ⟨upd s.ent m e', s.order, s.vals⟩ := by
      refine h.node.change (fun g hg => ?_) (fun i _ hi _ => ?_) hm s.order
      · show fieldOK _ w e' g (if m * 6 ≤ m * 6 + g ∧ m * 6 + g < m * 6 + 6 then ev (m * 6 + g - m * 6) else nv (m * 6 + g))
        rw [if_pos (by omega), show m * 6 + g - m * 6 = g by omega]
        exact he g hg
      · show (if m * 6 ≤ i ∧ i < m * 6 + 6 then ev (i - m * 6) else nv i) = nv i
        rw [if_neg (by omega)]
    exact h1.later (fun b _ hb => setCells_other (by omega) _ _ _)
  · show World.ownsRow _ _ _ _ (if m * 6 ≤ 192 ∧ 192 < m * 6 + 6 then ev (192 - m * 6) else nv 192) _ _
    rw [e192]
    exact own_same h.order (fun k hk => setCells_other (by have := (World.ownsRow.lt h.order k hk).1; omega) _ _ _)
theorem ApartR.into {lo B c : Nat} {w : World} {nv : Nat → Value} {s : NodeL} {old : Array Value} {t : TypeId} (h : ApartR B w nv s) (hl : lo ≤ c) (hc : c + 2 < B) (hB : B ≤ w.heap.size) (hr : w.heap[c]? = some (.cells old t (0, 0))) : NodeR lo c (w.setRow c (rowF 201 nv)) nv s :=
  ⟨⟨t, heap_setRow hr⟩, (h.node.later (fun b _ hb => setRow_other _ _ (by omega))).mono (fun b _ hb => ⟨by omega, hb.2⟩), hl, by rw [size_setRow]; omega,
   own_mono (own_same h.order (fun k hk => setRow_other _ _ (by have := (World.ownsRow.lt h.order k hk).1; omega))) (by omega)⟩
theorem NodeR.out {lo c : Nat} {w : World} {nv : Nat → Value} {s : NodeL} (h : NodeR lo c w nv s) (hl : s.order.length * 8 ≤ 140737488355328) (r : Array Value) : NodeC (lo ≤ ·) (w.setRow (c + 2) r) nv s := by
  have h1 := own_same h.order (w' := w.setRow (c + 2) r) (fun k hk => setRow_other _ _ (by have := (World.ownsRow.lt h.order k hk).1; omega))
  exact ⟨(h.node.later (fun b _ hb => setRow_other _ _ (by omega))).mono (fun _ _ hb => hb.1.1), (IsI.of_owns h1 hl).mono (fun _ _ hb => by have := hb.1; have := h.lc; omega)⟩
theorem framesR_one {x : World} {K : Nat} {k n i : Int} {a4 : Option Addr} {c4 : Nat} {deps : List Int} (h : x.heap[K]? = some (.cells #[.int .i64 k, .int .i64 n, .int .i64 i, .slice none 0 0, .slice a4 deps.length c4, .slice none 0 0, .slice none 0 0] 43 (0, 0)))
    (h4 : SlInts x a4 c4 deps ∧ IntsIn (0 ≤ ·) x a4 deps) : FramesV 0 x (.slice (some ⟨K, 0, none⟩) 1 1) [⟨k, n, i, [], deps, [], []⟩] := by
  refine ⟨[[.int .i64 k, .int .i64 n, .int .i64 i, .slice none 0 0, .slice a4 deps.length c4, .slice none 0 0, .slice none 0 0]], rfl, ⟨rfl, Or.inr ⟨K, 1, _, rfl, Nat.zero_le _, h, Nat.le_refl _, by decide, rfl, rfl⟩⟩, fun i hi => ?_⟩
  have : i = 0 := by simp at hi; exact hi
  subst this
  exact ⟨rfl, none, 0, a4, c4, none, 0, none, 0, rfl, slO_nil _ _, h4, slI_nil _ _, slI_nil _ _⟩
theorem framesR_two {z4 : World} {v' : Value} {who m : Int} {a5 a6 : Option Addr} {c5 c6 : Nat} {ats vals : List Int} (own : z4.ownsRow 0 43 7 v' (1 + 1) ([.int .i64 4, .int .i64 who, .int .i64 m, .slice none 0 0, .slice none 0 0, .slice none 0 0, .slice none 0 0] ++ [.int .i64 5, .int .i64 who, .int .i64 m, .slice none 0 0, .slice none 0 0, .slice a5 ats.length c5, .slice a6 vals.length c6]))
    (h5 : SlInts z4 a5 c5 ats ∧ IntsIn (0 ≤ ·) z4 a5 ats) (h6 : SlInts z4 a6 c6 vals ∧ IntsIn (0 ≤ ·) z4 a6 vals) : FramesV 0 z4 v' [⟨4, who, m, [], [], [], []⟩, ⟨5, who, m, [], [], ats, vals⟩] := by
  refine ⟨[[.int .i64 4, .int .i64 who, .int .i64 m, .slice none 0 0, .slice none 0 0, .slice none 0 0, .slice none 0 0], [.int .i64 5, .int .i64 who, .int .i64 m, .slice none 0 0, .slice none 0 0, .slice a5 ats.length c5, .slice a6 vals.length c6]], rfl, own, fun i hi => ?_⟩
  match i, hi with
  | 0, _ => exact ⟨rfl, none, 0, none, 0, none, 0, none, 0, rfl, slO_nil _ _, slI_nil _ _, slI_nil _ _, slI_nil _ _⟩
  | 1, _ => exact ⟨rfl, none, 0, none, 0, a5, c5, a6, c6, rfl, slO_nil _ _, slI_nil _ _, h5, h6⟩
theorem step_store_row {P : Program} {ops : Array Oper} {o : Oper} {a : Act} {w : World} {K : Act → World → Prop} {Q : Exit → Act → World → Prop} {E : Prop} (hgd : o.guard = none) (ty : TypeId) (x y : Operand) (ho : o.op = .store ty x y)
    (g : Nat) (cells : Array Value) (hx : a.eval x = .pointer (some ⟨g, 0, none⟩)) (hy : a.eval y = .agg cells) (t : TypeId) (old : Array Value) (hg : w.heap[g]? = some (.cells old t (0, 0))) (hi : (P.info? ty).map (·.size) = some cells.size)
    (hold : old.size = cells.size) (h1 : cells.all (·.oneCell') = true) (h : K (a.put o.dst undef) (w.setRow g cells)) : if Region.wanted o (yielded ops a.tmps) = true then Oper.wp P o a w K Q else E := by
  have hw : Region.wanted o (yielded ops a.tmps) = true := by simp [Region.wanted, hgd]
  rw [if_pos hw]
  exact wp_store_row ty x y ho g cells hx hy t old hg hi hold h1 h
theorem IsI.sl1 {ok : Nat → Prop} {w : World} {a : Option Addr} {cap : Nat} {zs : List Int} (h : IsI ok w (.slice a zs.length cap) zs) : SlInts w a cap zs ∧ IntsIn ok w a zs := by
  obtain ⟨a', cap', e, hs⟩ := h.sl
  simp only [Value.slice.injEq, true_and] at e
  obtain ⟨rfl, rfl⟩ := e
  refine ⟨hs, ?_⟩
  obtain ⟨a2, cap2, e', hi, _⟩ := h
  simp only [Value.slice.injEq, true_and] at e'
  obtain ⟨rfl, rfl⟩ := e'
  exact hi
theorem ops_far {lo B : Nat} {w : World} {a : Option Addr} {zs : List OpL} (h : OpsIn (· < B) w a zs) (hf : ∀ x, a = some x → lo ≤ x.block) : OpsIn (fun b => lo ≤ b ∧ b < B) w a zs := by
  rcases h with h | ⟨b, off, rfl, hb, hc⟩
  · exact Or.inl h
  · exact Or.inr ⟨b, off, rfl, ⟨hf _ rfl, hb⟩, hc⟩
theorem ints_far {lo B : Nat} {w : World} {a : Option Addr} {zs : List Int} (h : IntsIn (· < B) w a zs) (hf : ∀ x, a = some x → lo ≤ x.block) : IntsIn (fun b => lo ≤ b ∧ b < B) w a zs := by
  rcases h with h | ⟨b, off, rfl, hb, hc⟩
  · exact Or.inl h
  · exact Or.inr ⟨b, off, rfl, ⟨hf _ rfl, hb⟩, hc⟩
def AreaR (c : Nat) (nv : Nat → Value) (w : World) (b : Nat) : Prop := b < w.heap.size ∧ b ≠ c ∧ (nv 192).ownBlock ≠ some b
theorem Safe.endsR {A : Nat → Prop} {lo c : Nat} {W w w' : World} {nv nv' : Nat → Value} {s' : NodeL} (h : Safe A c W w nv) (e : EndsR lo c w w' nv nv' s') : Safe A c W w' nv' := by
  refine ⟨fun k hk ha => ?_, fun k hk ha => ?_, h.lt, h.nc, Nat.le_trans h.size e.moves.size⟩
  · rw [e.moves.block k (by have := h.size; omega) (fun hc => h.nc (by rw [← hc]; exact ha)) (fun ho => h.ord k ho ha)]
    exact h.same k hk ha
  · rcases e.ord k hk with h1 | h1
    · exact h.ord k h1 ha
    · have := h.lt k ha
      have := h.size
      omega
theorem EndsR.below {lo c : Nat} {w w' : World} {nv nv' : Nat → Value} {s s' : NodeL} (h : NodeR lo c w nv s) (e : EndsR lo c w w' nv nv' s') : Below c w w' :=
  ⟨e.moves.os, e.moves.tape, e.moves.output, e.moves.size, fun k hk => e.moves.block k (by have := h.room; omega) (by omega) (fun ho => by have := (World.ownsRow.lt h.order k ho).1; omega)⟩
theorem rowR_range {x : World} {b : Nat} {cs : Array Value} {t : TypeId} (h : x.heap[b]? = some (.cells cs t (0, 0))) : x.rangeAt b 0 cs.toList := by
  intro j v hv
  rw [Nat.zero_add, cell_of_row _ _ _ _ _ _ h]
  rw [Array.getElem?_toList] at hv
  exact hv

end Go.Proofs.Ytkoefoccbjhoiab

namespace Go.Proofs.Ytkoefoccbjhoiab
open Go.RowKit

theorem run_part_ints {P : Program} {e : TypeId} (he : P.underlying e = some (.int .i64)) (hi : (P.info? e).map (·.size) = some 1) {n : Nat} (S : Nat → Int) {k : Nat} (hk : k < n) (w : World) :
    (part e (rowF n fun i => .int .i64 (S i)) k).run P w = .ok (.int .i64 (S k)) w := by
  cases hq : P.info? e with
  | none => simp [hq] at hi
  | some i =>
    have hs : i.size = 1 := by simpa [hq] using hi
    have hg := rowF_get (fun i => Value.int .i64 (S i)) hk
    simp [part, isAgg, run_underlying he, sizeOf, typeInfo, hq, hs, hg, go_sem]
    try omega
theorem run_equalIn_row {P : Program} {t e : TypeId} {n : Nat} (d : Nat) (ht : P.underlying t = some (.array n e)) (he : P.underlying e = some (.int .i64)) (hi : (P.info? e).map (·.size) = some 1) (S : Nat → Int) (w : World) :
    (Op.equalIn (d + 2) t (.agg (rowF n fun i => .int .i64 (S i))) (.agg (rowF n fun i => .int .i64 (S i)))).run P w = .ok true w := by
  have hsz : ∀ w, (sizeOf e).run P w = .ok 1 w := by
    intro w
    cases hq : P.info? e with
    | none => simp [hq] at hi
    | some i =>
      have hs : i.size = 1 := by simpa [hq] using hi
      simp [sizeOf, typeInfo, hq, hs]
  rw [Op.equalIn]
  simp only [Sem.run_bind, run_underlying ht, Result.andThen_ok, hsz, Std.Legacy.Range.forIn_eq_forIn_range', Std.Legacy.Range.size, Nat.sub_zero, Nat.add_sub_cancel, Nat.div_one]
  have hl : ∀ i ∈ List.range' 0 n 1, i < n := fun i hi => by simpa using (List.mem_range'_1.1 hi).2
  generalize List.range' 0 n 1 = l at hl ⊢
  induction l with
  | nil => simp
  | cons i l ih =>
    have hk : i < n := hl i (by simp)
    have px := run_part_ints he hi S hk w
    have pe : (Op.equalIn (d + 1) e (.int .i64 (S i)) (.int .i64 (S i))).run P w = .ok true w := by simp [Op.equalIn, run_underlying he]
    simp only [List.forIn_cons, Sem.run_bind, Nat.mul_one, px, pe, Result.andThen_ok]
    simp only [Bool.not_true, Bool.false_eq_true, if_false, Sem.run_pure, Result.andThen_ok]
    simpa only [Nat.mul_one] using ih fun j hj => hl j (by simp [hj])
theorem Try.infoInt1 : (Try.prog.info? 3).map (·.size) = some 1 := by kernel_rfl
theorem Try.infoVals : (Try.prog.info? 39).map (·.size) = some 8 := by kernel_rfl
theorem Try.valsGuard : Try.prog.eqGuardType Try.prog.depth 39 = false := by kernel_rfl

end Go.Proofs.Ytkoefoccbjhoiab

namespace Go.Proofs.Ytkoefoccbjhoiab
open Go.RowKit

def txnB (n : Int) : Bool := decide (0 ≤ n ∧ n < 32)

set_option maxRecDepth 100000 in
set_option maxHeartbeats 400000 in
theorem isTxn_any (n : Int) (w : World) :
    Calls Try.prog 81 #[.int .i64 n] w fun e w' => e = .returned (.bool (txnB n)) ∧ w' = w := by
  by_cases h1 : 0 ≤ n
  · by_cases h2 : n < 32
    · have E : Hid (txnB n = true) := decide_eq_true ⟨h1, h2⟩
      go_enter Try.func81, Try.ntmps81
      go_wp2
      go_ret
      exact ⟨ret_bool (by rw [E.out]), rfl⟩
    · have E : Hid (txnB n = false) := decide_eq_false (fun h => h2 h.2)
      go_enter Try.func81, Try.ntmps81
      go_wp2
      go_ret
      exact ⟨ret_bool (by rw [E.out]), rfl⟩
  · have E : Hid (txnB n = false) := decide_eq_false (fun h => h1 h.1)
    go_enter Try.func81, Try.ntmps81
    go_wp2
    go_ret
    exact ⟨ret_bool (by rw [E.out]), rfl⟩

set_option maxRecDepth 100000 in
set_option maxHeartbeats 400000 in
theorem ref_has (a : Option Addr) (cap : Nat) (zs : List Int) (n : Int) (w : World) (hl : zs.length ≤ maxLen) (hz : IntsAt w.heap.size w a zs) :
    Calls Try.prog 80 #[.slice a zs.length cap, .int .i64 n] w fun e w' => e = .returned (.bool (hasL zs n)) ∧ w' = w := by
  unfold maxLen at hl
  rcases hz with rfl | ⟨b, off, rfl, hb, hc⟩
  · go_enter Try.func80, Try.ntmps80
    go_wp2
    refine wp_loop_rounds 1 ?_; rw [rounds_succ]
    go_wp2
    go_ret
    exact ⟨rfl, rfl⟩
  · go_enter Try.func80, Try.ntmps80
    go_wp2
    go_loop [9] (fun i => ∃ k : Nat, k ≤ zs.length ∧ i = .int .i64 k ∧ (zs.take k).any (eqB n) = false) (fun i => zs.length - (intOf i).toNat)
    case atStart => exact ⟨0, Nat.zero_le _, rfl, rfl⟩
    case round =>
      obtain ⟨k, hk, rfl, hno⟩ := hrel
      by_cases hlt : k < zs.length
      · obtain ⟨q, Hq, e0⟩ := IntsAt.at hc hb (Below.refl _ _) hlt
        have hm : Hid (eqB n q = (q == n)) := rfl
        clear hc
        cases t1 : q == n
        · go_wp2
          go_round
          case rel => exact ⟨k + 1, by omega, by go_num, any_step hlt Hq.out hno (by rw [hm.out, t1])⟩
          case measure => simp [intOf]; omega
        · go_wp2
          go_ret
          exact ⟨ret_bool (any_hit hlt Hq.out (by rw [hm.out, t1])).symm, rfl⟩
      · go_wp2
        go_ret
        exact ⟨ret_bool (any_end hlt hno).symm, rfl⟩


set_option maxRecDepth 100000 in
set_option maxHeartbeats 400000 in
theorem sameNumbers_any (a : Option Addr) (cap : Nat) (zs : List Int) (a' : Option Addr) (cap' : Nat) (w : World) (hl : zs.length ≤ maxLen) (hz : IntsAt w.heap.size w a zs) (hy : IntsAt w.heap.size w a' zs) :
    Calls Try.prog 35 #[.slice a zs.length cap, .slice a' zs.length cap'] w fun e w' => e = .returned (.bool true) ∧ Below w.heap.size w w' := by
  unfold maxLen at hl
  have hne : ((zs.length : Int) != (zs.length : Int)) = false := by simp
  rcases hz with rfl | ⟨b, off, rfl, hb, hc⟩
  · go_enter Try.func35, Try.ntmps35
    go_wp2
    refine wp_loop_rounds 1 ?_; rw [rounds_succ]
    go_wp2
    go_ret
    exact ⟨rfl, Below.refl _ _⟩
  rcases hy with rfl | ⟨b', off', rfl, hb', hc'⟩
  · go_enter Try.func35, Try.ntmps35
    go_wp2
    refine wp_loop_rounds 1 ?_; rw [rounds_succ]
    go_wp2
    go_ret
    exact ⟨rfl, Below.refl _ _⟩
  go_enter Try.func35, Try.ntmps35
  go_wp2
  go_loopw [13] (fun i wr => ∃ k : Nat, k ≤ zs.length ∧ i = .int .i64 k ∧ Below w.heap.size w wr) (fun i _ => zs.length - (intOf i).toNat)
  case atStart => exact ⟨0, Nat.zero_le _, rfl, Below.refl _ _⟩
  case round =>
    obtain ⟨k, hk, rfl, hB⟩ := hrel
    by_cases hlt : k < zs.length
    · obtain ⟨q, Hq, e0⟩ := IntsAt.at hc hb hB hlt
      have f0 : wr.cell? ⟨b', off' + k, none⟩ = some (.int .i64 q) := by rw [hB.cell (p := ⟨b', off' + k, none⟩) hb', ← Hq.out]; exact hc' k hlt
      have hi : (k : Int) < (zs.length : Int) := by omega
      clear hc hc'
      go_wp2
      go_quiet (fail)
      go_wp2
      go_roundw
      case rel => exact ⟨k + 1, by omega, by go_num, below_drewN hB _⟩
      case measure => simp [intOf]; omega
    · go_wp2
      go_ret
      exact ⟨rfl, hB⟩

end Go.Proofs.Ytkoefoccbjhoiab

namespace Go.Proofs.Ytkoefoccbjhoiab
open Go.RowKit

set_option maxRecDepth 100000 in
set_option maxHeartbeats 400000 in
theorem isRising_any (a : Option Addr) (cap : Nat) (zs : List Int) (w : World) (hl : zs.length ≤ maxLen) (hz : IntsAt w.heap.size w a zs) :
    Calls Try.prog 79 #[.slice a zs.length cap] w fun e w' => e = .returned (.bool (risingFrom (-1) zs)) ∧ w' = w := by
  unfold maxLen at hl
  rcases hz with rfl | ⟨b, off, rfl, hb, hc⟩
  · go_enter Try.func79, Try.ntmps79
    go_wp2
    refine wp_loop_rounds 1 ?_; rw [rounds_succ]
    go_wp2
    go_ret
    exact ⟨rfl, rfl⟩
  · go_enter Try.func79, Try.ntmps79
    go_wp2
    go_loop [3, 8] (fun l i => ∃ (k : Nat) (q : Int), k ≤ zs.length ∧ i = .int .i64 k ∧ l = .int .i64 q ∧ -1 ≤ q ∧ Hid (risingFrom (-1) zs = risingFrom q (zs.drop k))) (fun _ i => zs.length - (intOf i).toNat)
    case atStart => exact ⟨0, -1, Nat.zero_le _, rfl, rfl, by omega, rfl⟩
    case round =>
      obtain ⟨k, l, hk, rfl, rfl, hl0, hno⟩ := hrel
      by_cases hlt : k < zs.length
      · obtain ⟨q, Hq, e0⟩ := IntsAt.at hc hb (Below.refl _ _) hlt
        clear hc
        by_cases t1 : q ≤ l
        · go_wp2
          go_ret
          exact ⟨ret_bool (rising_no hlt Hq.out hno.out (Or.inl t1)).symm, rfl⟩
        · go_wp2_with fail
          refine (isTxn_any _ _).mono ?_
          rintro e wx ⟨rfl, hw⟩
          subst hw
          by_cases t2 : 32 ≤ q
          · have E : txnB q = false := decide_eq_false (by omega)
            rw [E]
            go_wp2
            go_ret
            exact ⟨ret_bool (rising_no hlt Hq.out hno.out (Or.inr t2)).symm, rfl⟩
          · have E : txnB q = true := decide_eq_true ⟨by omega, by omega⟩
            rw [E]
            clear E
            go_wp2
            go_round
            case rel => exact ⟨k + 1, q, by omega, by go_num, rfl, by omega, rising_yes hlt Hq.out hno.out (by omega) (by omega)⟩
            case measure => simp [intOf]; omega
      · go_wp2
        go_ret
        exact ⟨ret_bool (rising_end hlt hno.out).symm, rfl⟩


end Go.Proofs.Ytkoefoccbjhoiab

namespace Go.Proofs.Ytkoefoccbjhoiab
open Go.RowKit

end Go.Proofs.Ytkoefoccbjhoiab

namespace Go.Proofs.Ytkoefoccbjhoiab
open Go.RowKit

set_option maxRecDepth 100000 in
set_option maxHeartbeats 400000 in
theorem ref_sameOps_any (a : Option Addr) (cap : Nat) (zs : List OpL) (a' : Option Addr) (cap' : Nat) (w : World) (hl : zs.length ≤ maxLen) (hz : OpsAt w a zs) (hy : OpsAt w a' zs) :
    Calls Try.prog 82 #[.slice a zs.length cap, .slice a' zs.length cap'] w fun e w' => e = .returned (.bool true) ∧ Below w.heap.size w w' := by
  unfold maxLen at hl
  have hne : ((zs.length : Int) != (zs.length : Int)) = false := by simp
  rcases hz with rfl | ⟨b, off, rfl, hb, hc⟩
  · go_enter Try.func82, Try.ntmps82
    go_wp2
    refine wp_loop_rounds 1 ?_; rw [rounds_succ]
    go_wp2
    go_ret
    exact ⟨rfl, Below.refl _ _⟩
  rcases hy with rfl | ⟨b', off', rfl, hb', hc'⟩
  · go_enter Try.func82, Try.ntmps82
    go_wp2
    refine wp_loop_rounds 1 ?_; rw [rounds_succ]
    go_wp2
    go_ret
    exact ⟨rfl, Below.refl _ _⟩
  go_enter Try.func82, Try.ntmps82
  go_wp2
  go_loopw [13] (fun i wr => ∃ k : Nat, k ≤ zs.length ∧ i = .int .i64 k ∧ Below w.heap.size w wr) (fun i _ => zs.length - (intOf i).toNat)
  case atStart => exact ⟨0, Nat.zero_le _, rfl, Below.refl _ _⟩
  case round =>
    obtain ⟨k, hk, rfl, hB⟩ := hrel
    by_cases hlt : k < zs.length
    · obtain ⟨q0, q1, q2, Hq, e0, e1, e2⟩ := OpsAt.at hc hb hB hlt
      obtain ⟨p0, p1, p2, Hp, f0, f1, f2⟩ := OpsAt.at hc' hb' hB hlt
      have hh : (q0, q1, q2) = (p0, p1, p2) := Hq.out.symm.trans Hp.out
      simp at hh
      obtain ⟨rfl, rfl, rfl⟩ := hh
      have hi : (k : Int) < (zs.length : Int) := by omega
      clear hc hc'
      go_wp2
      go_quiet (fail)
      go_wp2
      go_roundw
      case rel => exact ⟨k + 1, by omega, by go_num, below_drewN hB _⟩
      case measure => simp [intOf]; omega
    · go_wp2
      go_ret
      exact ⟨rfl, hB⟩

set_option maxRecDepth 100000 in
set_option maxHeartbeats 1000000 in
theorem ref_sameFrame_any (v v' : Value) (f : FrameL) (w : World) (hv : FrameV w v f) (hv' : FrameV w v' f) :
    Calls Try.prog 29 #[v, v'] w fun e w' => e = .returned (.bool true) ∧ Below w.heap.size w w' := by
  obtain ⟨a3, c3, a4, c4, a5, c5, a6, c6, rfl, h3, h4, h5, h6⟩ := hv
  obtain ⟨b3, d3, b4, d4, b5, d5, b6, d6, rfl, k3, k4, k5, k6⟩ := hv'
  obtain ⟨kind, node, id, ops, deps, ats, vals⟩ := f
  simp only at *
  have tk : (kind == kind) = true := by simp
  have tn : (node == node) = true := by simp
  have ti : (id == id) = true := by simp
  go_enter Try.func29, Try.ntmps29
  go_wp2_with fail
  obtain ⟨W, hW⟩ : ∃ W, W = (w.alloc (.cells #[.int .i64 kind, .int .i64 node, .int .i64 id, .slice a3 ops.length c3, .slice a4 deps.length c4, .slice a5 ats.length c5, .slice a6 vals.length c6] 43)).alloc (.cells #[.int .i64 kind, .int .i64 node, .int .i64 id, .slice b3 ops.length d3, .slice b4 deps.length d4, .slice b5 ats.length d5, .slice b6 vals.length d6] 43) := ⟨_, rfl⟩
  have hf1 : FAt W w.heap.size kind node id (.slice a3 ops.length c3) (.slice a4 deps.length c4) (.slice a5 ats.length c5) (.slice a6 vals.length c6) := by rw [hW]; exact ⟨43, by rw [Below.heap_alloc _ _ _ (by rw [alloc_size]; omega), heap_new]⟩
  have hg1 : FAt W (w.heap.size + 1) kind node id (.slice b3 ops.length d3) (.slice b4 deps.length d4) (.slice b5 ats.length d5) (.slice b6 vals.length d6) := by rw [hW]; exact ⟨43, heap_new2 _ _ _⟩
  have hb1 : Below w.heap.size w W := by rw [hW]; exact ((Below.refl _ w).alloc (Nat.le_refl _) _).alloc (by rw [alloc_size]; omega) _
  rw [← hW]
  clear hW
  refine (ref_sameOps_any a3 c3 ops b3 d3 _ h3.2.1 (h3.later hb1).1 (k3.later hb1).1).mono ?_
  rintro e w1 ⟨rfl, hc⟩
  have hb2 := hb1.trans (hc.mono hb1.size)
  have hf2 := hf1.block (hc.block _ hf1.lt)
  have hg2 := hg1.block (hc.block _ hg1.lt)
  clear hc hf1 hg1 hb1
  have x4 := hf2.cell.2.2.2.2.1
  have y4 := hg2.cell.2.2.2.2.1
  go_wp2_with fail
  refine (sameNumbers_any a4 c4 deps b4 d4 _ h4.2.1 (h4.later hb2).1 (k4.later hb2).1).mono ?_
  rintro e w2 ⟨rfl, hc⟩
  have hb3 := hb2.trans (hc.mono hb2.size)
  have hf3 := hf2.block (hc.block _ hf2.lt)
  have hg3 := hg2.block (hc.block _ hg2.lt)
  clear hc hf2 hg2 hb2 x4 y4
  have x5 := hf3.cell.2.2.2.2.2.1
  have y5 := hg3.cell.2.2.2.2.2.1
  go_wp2_with fail
  refine (sameNumbers_any a5 c5 ats b5 d5 _ h5.2.1 (h5.later hb3).1 (k5.later hb3).1).mono ?_
  rintro e w3 ⟨rfl, hc⟩
  have hb4 := hb3.trans (hc.mono hb3.size)
  have hf4 := hf3.block (hc.block _ hf3.lt)
  have hg4 := hg3.block (hc.block _ hg3.lt)
  clear hc hf3 hg3 hb3 x5 y5
  have x6 := hf4.cell.2.2.2.2.2.2
  have y6 := hg4.cell.2.2.2.2.2.2
  go_wp2_with fail
  refine (sameNumbers_any a6 c6 vals b6 d6 _ h6.2.1 (h6.later hb4).1 (k6.later hb4).1).mono ?_
  rintro e w4 ⟨rfl, hc⟩
  have hb5 := hb4.trans (hc.mono hb4.size)
  clear hc hf4 hg4 hb4 x6 y6
  go_wp2
  go_ret
  exact ⟨rfl, hb5⟩

end Go.Proofs.Ytkoefoccbjhoiab

namespace Go.Proofs.Ytkoefoccbjhoiab
open Go.RowKit

set_option maxRecDepth 100000 in
set_option maxHeartbeats 1000000 in
theorem ref_sameEntry (v v' : Value) (e : EntryL) (w : World) (h : EntV w v e) (h' : EntV w v' e) :
    Calls Try.prog 75 #[v, v'] w fun r w' => r = .returned (.bool true) ∧ Below w.heap.size w w' := by
  obtain ⟨a1, c1, a2, c2, a3, c3, a4, c4, a5, c5, rfl, x1, x2, x3, x4, x5, _⟩ := h
  obtain ⟨a1', c1', a2', c2', a3', c3', a4', c4', a5', c5', rfl, y1, y2, y3, y4, y5, _⟩ := h'
  obtain ⟨W, hW⟩ : ∃ W, W = (w.alloc (.cells #[.int .i64 e.state, .slice a1 e.ops.length c1, .slice a2 e.first.length c2, .slice a3 e.deps.length c3, .slice a4 e.ats.length c4, .slice a5 e.vals.length c5] 37)).alloc (.cells #[.int .i64 e.state, .slice a1' e.ops.length c1', .slice a2' e.first.length c2', .slice a3' e.deps.length c3', .slice a4' e.ats.length c4', .slice a5' e.vals.length c5'] 37) := ⟨_, rfl⟩
  obtain ⟨r0, r1⟩ := two_rows w (.cells #[.int .i64 e.state, .slice a1 e.ops.length c1, .slice a2 e.first.length c2, .slice a3 e.deps.length c3, .slice a4 e.ats.length c4, .slice a5 e.vals.length c5] 37) (.cells #[.int .i64 e.state, .slice a1' e.ops.length c1', .slice a2' e.first.length c2', .slice a3' e.deps.length c3', .slice a4' e.ats.length c4', .slice a5' e.vals.length c5'] 37)
  rw [← hW] at r0 r1
  have hb : Below w.heap.size w W := by rw [hW]; exact ((Below.refl _ _).alloc (Nat.le_refl _) _).alloc (by rw [size_push]; omega) _
  have hzW : W.heap.size = w.heap.size + 2 := by rw [hW, size_push, size_push]
  have es : (e.state == e.state) = true := by simp
  have HW : Hid (W = (w.alloc (.cells #[.int .i64 e.state, .slice a1 e.ops.length c1, .slice a2 e.first.length c2, .slice a3 e.deps.length c3, .slice a4 e.ats.length c4, .slice a5 e.vals.length c5] 37)).alloc (.cells #[.int .i64 e.state, .slice a1' e.ops.length c1', .slice a2' e.first.length c2', .slice a3' e.deps.length c3', .slice a4' e.ats.length c4', .slice a5' e.vals.length c5'] 37)) := hW
  have KC : Hid (∀ wx, Below W.heap.size W wx → (wx.heap[w.heap.size]? = some (.cells #[.int .i64 e.state, .slice a1 e.ops.length c1, .slice a2 e.first.length c2, .slice a3 e.deps.length c3, .slice a4 e.ats.length c4, .slice a5 e.vals.length c5] 37 (0, 0)) ∧ wx.heap[w.heap.size + 1]? = some (.cells #[.int .i64 e.state, .slice a1' e.ops.length c1', .slice a2' e.first.length c2', .slice a3' e.deps.length c3', .slice a4' e.ats.length c4', .slice a5' e.vals.length c5'] 37 (0, 0)))) := fun wx hx => ⟨by rw [hx.block _ (by omega)]; exact r0, by rw [hx.block _ (by omega)]; exact r1⟩
  clear hW r0 r1
  go_enter Try.func75, Try.ntmps75
  go_upto_region 1 with fail
  rw [← HW.out]
  clear HW
  obtain ⟨r0, r1⟩ := KC.out W (Below.refl _ _)
  have p0 : W.cell? ⟨w.heap.size, 0, none⟩ = some (.int .i64 e.state) := by rw [cell_of_row _ _ _ _ _ _ r0]; rfl
  have p1 : W.cell? ⟨w.heap.size + 1, 0, none⟩ = some (.int .i64 e.state) := by rw [cell_of_row _ _ _ _ _ _ r1]; rfl
  have q1 : W.cell? ⟨w.heap.size, 1, none⟩ = some (.slice a1 e.ops.length c1) := by rw [cell_of_row _ _ _ _ _ _ r0]; rfl
  have z1 : W.cell? ⟨w.heap.size + 1, 1, none⟩ = some (.slice a1' e.ops.length c1') := by rw [cell_of_row _ _ _ _ _ _ r1]; rfl
  clear r0 r1
  go_wp2_with fail
  refine (ref_sameOps_any a1 c1 e.ops a1' c1' W x1.2.1 (x1.later hb).1 (y1.later hb).1).mono ?_
  rintro r w1 ⟨rfl, hx1⟩
  have hb1 : Below W.heap.size W w1 := hx1
  have hw1 : Below w.heap.size w w1 := hb.trans (hb1.mono (by omega))
  obtain ⟨r0, r1⟩ := KC.out w1 hb1
  clear hx1 q1 z1
  have q2 : w1.cell? ⟨w.heap.size, 2, none⟩ = some (.slice a2 e.first.length c2) := by rw [cell_of_row _ _ _ _ _ _ r0]; rfl
  have z2 : w1.cell? ⟨w.heap.size + 1, 2, none⟩ = some (.slice a2' e.first.length c2') := by rw [cell_of_row _ _ _ _ _ _ r1]; rfl
  clear r0 r1
  go_wp2_with fail
  refine (sameNumbers_any a2 c2 e.first a2' c2' w1 x2.2.1 (x2.later hw1).1 (y2.later hw1).1).mono ?_
  rintro r w2 ⟨rfl, hx2⟩
  have hb2 : Below W.heap.size W w2 := hb1.trans (hx2.mono hb1.size)
  have hw2 : Below w.heap.size w w2 := hb.trans (hb2.mono (by omega))
  obtain ⟨r0, r1⟩ := KC.out w2 hb2
  clear hx2 q2 z2
  have q3 : w2.cell? ⟨w.heap.size, 3, none⟩ = some (.slice a3 e.deps.length c3) := by rw [cell_of_row _ _ _ _ _ _ r0]; rfl
  have z3 : w2.cell? ⟨w.heap.size + 1, 3, none⟩ = some (.slice a3' e.deps.length c3') := by rw [cell_of_row _ _ _ _ _ _ r1]; rfl
  clear r0 r1
  go_wp2_with fail
  refine (sameNumbers_any a3 c3 e.deps a3' c3' w2 x3.2.1 (x3.later hw2).1 (y3.later hw2).1).mono ?_
  rintro r w3 ⟨rfl, hx3⟩
  have hb3 : Below W.heap.size W w3 := hb2.trans (hx3.mono hb2.size)
  have hw3 : Below w.heap.size w w3 := hb.trans (hb3.mono (by omega))
  obtain ⟨r0, r1⟩ := KC.out w3 hb3
  clear hx3 q3 z3
  have q4 : w3.cell? ⟨w.heap.size, 4, none⟩ = some (.slice a4 e.ats.length c4) := by rw [cell_of_row _ _ _ _ _ _ r0]; rfl
  have z4 : w3.cell? ⟨w.heap.size + 1, 4, none⟩ = some (.slice a4' e.ats.length c4') := by rw [cell_of_row _ _ _ _ _ _ r1]; rfl
  clear r0 r1
  go_wp2_with fail
  refine (sameNumbers_any a4 c4 e.ats a4' c4' w3 x4.2.1 (x4.later hw3).1 (y4.later hw3).1).mono ?_
  rintro r w4 ⟨rfl, hx4⟩
  have hb4 : Below W.heap.size W w4 := hb3.trans (hx4.mono hb3.size)
  have hw4 : Below w.heap.size w w4 := hb.trans (hb4.mono (by omega))
  obtain ⟨r0, r1⟩ := KC.out w4 hb4
  clear hx4 q4 z4
  have q5 : w4.cell? ⟨w.heap.size, 5, none⟩ = some (.slice a5 e.vals.length c5) := by rw [cell_of_row _ _ _ _ _ _ r0]; rfl
  have z5 : w4.cell? ⟨w.heap.size + 1, 5, none⟩ = some (.slice a5' e.vals.length c5') := by rw [cell_of_row _ _ _ _ _ _ r1]; rfl
  clear r0 r1
  go_wp2_with fail
  refine (sameNumbers_any a5 c5 e.vals a5' c5' w4 x5.2.1 (x5.later hw4).1 (y5.later hw4).1).mono ?_
  rintro r w5 ⟨rfl, hx5⟩
  have hb5 : Below W.heap.size W w5 := hb4.trans (hx5.mono hb4.size)
  have hw5 : Below w.heap.size w w5 := hb.trans (hb5.mono (by omega))
  obtain ⟨r0, r1⟩ := KC.out w5 hb5
  clear hx5 q5 z5
  clear r0 r1
  go_wp2
  go_ret
  exact ⟨rfl, hw5⟩

set_option maxRecDepth 100000 in
set_option maxHeartbeats 1000000 in
theorem ref_sameNode (nv nv' : Nat → Value) (s : NodeL) (w : World) (h : NodeC (· < w.heap.size) w nv s) (h' : NodeC (· < w.heap.size) w nv' s) :
    Calls Try.prog 25 #[.agg (rowF 201 nv), .agg (rowF 201 nv')] w fun r w' => r = .returned (.bool true) ∧ Below w.heap.size w w' := by
  obtain ⟨ga, hga⟩ : ∃ ga, ga = rowF 201 nv := ⟨_, rfl⟩
  obtain ⟨gb, hgb⟩ : ∃ gb, gb = rowF 201 nv' := ⟨_, rfl⟩
  rw [← hga, ← hgb]
  obtain ⟨W, hW⟩ : ∃ W, W = (w.alloc (.cells ga 41)).alloc (.cells gb 41) := ⟨_, rfl⟩
  obtain ⟨r0, r1⟩ := two_rows w (.cells ga 41) (.cells gb 41)
  rw [← hW] at r0 r1
  have hb : Below w.heap.size w W := by rw [hW]; exact ((Below.refl _ _).alloc (Nat.le_refl _) _).alloc (by rw [size_push]; omega) _
  have hzW : W.heap.size = w.heap.size + 2 := by rw [hW, size_push, size_push]
  have HBa : Hid (BlkAt 201 W w.heap.size nv) := ⟨_, by rw [← hga]; exact r0⟩
  have HBb : Hid (BlkAt 201 W (w.heap.size + 1) nv') := ⟨_, by rw [← hgb]; exact r1⟩
  have HN : Hid (NodeC (· < w.heap.size) w nv s) := h
  have HN' : Hid (NodeC (· < w.heap.size) w nv' s) := h'
  have HW : Hid (W = (w.alloc (.cells ga 41)).alloc (.cells gb 41)) := hW
  clear hW r0 r1 h h' hga hgb
  go_enter Try.func25, Try.ntmps25
  go_upto_region 1 with fail
  rw [← HW.out]
  clear HW
  go_wp2_with fail
  go_loopw [6] (fun i wr => ∃ k : Nat, k ≤ 32 ∧ i = .int .i64 k ∧ Below W.heap.size W wr) (fun i _ => 32 - (intOf i).toNat)
  case atStart => exact ⟨0, Nat.zero_le _, rfl, Below.refl _ _⟩
  case round =>
    obtain ⟨k, hk, rfl, hB⟩ := hrel
    have hbw : Below w.heap.size w wr := hb.trans (hB.mono (by omega))
    have hsz := hB.size
    have HBar : Hid (BlkAt 201 wr w.heap.size nv) := HBa.out.later hB (by omega)
    have HBbr : Hid (BlkAt 201 wr (w.heap.size + 1) nv') := HBb.out.later hB (by omega)
    by_cases hlt : k < 32
    · have n1 : (0 : Int) ≤ (k : Int) ∧ (k : Int) < 32 := by omega
      obtain ⟨ca, hca⟩ : ∃ ca, ca = (sixV nv (k * 6)).toList := ⟨_, rfl⟩
      obtain ⟨cb, hcb⟩ : ∃ cb, cb = (sixV nv' (k * 6)).toList := ⟨_, rfl⟩
      have ra : wr.rangeAt w.heap.size (k * 6) ca := by
        rw [hca]
        exact BlkAt.range HBar.out (o := k * 6) (n := 6) (by omega)
      have rb : wr.rangeAt (w.heap.size + 1) (k * 6) cb := by
        rw [hcb]
        exact BlkAt.range HBbr.out (o := k * 6) (n := 6) (by omega)
      have hsa : (Try.prog.info? 37).map (·.size) = some ca.length := by rw [hca]; exact Try.infoEntry
      have hsb : (Try.prog.info? 37).map (·.size) = some cb.length := by rw [hcb]; exact Try.infoEntry
      have HVa : Hid (EntV w (.agg ca.toArray) (s.ent k)) := by rw [hca]; exact (HN.out.es.ent k hlt).v
      have HVb : Hid (EntV w (.agg cb.toArray) (s.ent k)) := by rw [hcb]; exact (HN'.out.es.ent k hlt).v
      clear hca hcb
      go_wp2_with fail
      have HRa : Hid (∀ wx, Below wr.heap.size wr wx → wx.rangeAt w.heap.size (k * 6) ca) := fun wx hx => range_later ra hx (by omega)
      have HRb : Hid (∀ wx, Below wr.heap.size wr wx → wx.rangeAt (w.heap.size + 1) (k * 6) cb) := fun wx hx => range_later rb hx (by omega)
      clear ra rb
      refine wp_region_held_drew (S := fun w' => Below wr.heap.size wr w') (by kernel_rfl) ((Below.refl _ _).drew) ?_
      intro hH
      refine wpAnyH_takeD (i := 0) (d := some 9) (v := .int .i64 k) rfl rfl (by kernel_rfl) (by kernel_rfl) (by kernel_rfl) (fun _ _ _ h => h) (Or.inl ⟨by rfl, fun _ _ => by go_simp⟩) hH ?_
      simp only [Act.put, List.setIfInBounds_toArray, List.set_cons_zero, List.set_cons_succ]
      refine wpAnyH_takeD (i := 1) (d := some 10) (v := .pointer (some ⟨w.heap.size, 0, none⟩)) rfl rfl (by kernel_rfl) (by kernel_rfl) (by kernel_rfl) (fun _ _ _ h => h) (Or.inl ⟨by rfl, fun _ _ => by go_simp⟩) hH ?_
      simp only [Act.put, List.setIfInBounds_toArray, List.set_cons_zero, List.set_cons_succ]
      refine wpAnyH_takeD (i := 2) (d := some 11) (v := .pointer (some ⟨w.heap.size, k * 6, none⟩)) rfl rfl (by kernel_rfl) (by kernel_rfl) (by kernel_rfl) (fun _ _ _ h => h) (Or.inl ⟨by rfl, fun _ _ => by go_simp⟩) hH ?_
      simp only [Act.put, List.setIfInBounds_toArray, List.set_cons_zero, List.set_cons_succ]
      refine wpAnyH_takeD (i := 3) (d := some 12) (v := .agg ca.toArray) rfl rfl (by kernel_rfl) (by kernel_rfl) (by kernel_rfl) (fun _ _ _ h => h) (yieldsIf_load_mid (by rfl) _ _ rfl _ _ rfl ca _ (HRa.out) Try.underlying37 rfl hsa) hH ?_
      simp only [Act.put, List.setIfInBounds_toArray, List.set_cons_zero, List.set_cons_succ]
      refine wpAnyH_takeD (i := 4) (d := some 13) (v := .int .i64 k) rfl rfl (by kernel_rfl) (by kernel_rfl) (by kernel_rfl) (fun _ _ _ h => h) (Or.inl ⟨by rfl, fun _ _ => by go_simp⟩) hH ?_
      simp only [Act.put, List.setIfInBounds_toArray, List.set_cons_zero, List.set_cons_succ]
      refine wpAnyH_takeD (i := 5) (d := some 14) (v := .pointer (some ⟨w.heap.size + 1, 0, none⟩)) rfl rfl (by kernel_rfl) (by kernel_rfl) (by kernel_rfl) (fun _ _ _ h => h) (Or.inl ⟨by rfl, fun _ _ => by go_simp⟩) hH ?_
      simp only [Act.put, List.setIfInBounds_toArray, List.set_cons_zero, List.set_cons_succ]
      refine wpAnyH_takeD (i := 6) (d := some 15) (v := .pointer (some ⟨w.heap.size + 1, k * 6, none⟩)) rfl rfl (by kernel_rfl) (by kernel_rfl) (by kernel_rfl) (fun _ _ _ h => h) (Or.inl ⟨by rfl, fun _ _ => by go_simp⟩) hH ?_
      simp only [Act.put, List.setIfInBounds_toArray, List.set_cons_zero, List.set_cons_succ]
      refine wpAnyH_takeD (i := 7) (d := some 16) (v := .agg cb.toArray) rfl rfl (by kernel_rfl) (by kernel_rfl) (by kernel_rfl) (fun _ _ _ h => h) (yieldsIf_load_mid (by rfl) _ _ rfl _ _ rfl cb _ (HRb.out) Try.underlying37 rfl hsb) hH ?_
      simp only [Act.put, List.setIfInBounds_toArray, List.set_cons_zero, List.set_cons_succ]
      refine wpAnyH_ready (rs := [8]) (by kernel_rfl) (by simp) ?_
      refine AllReadyH.cons rfl (fun K hK => ?_) AllReadyH.nil
      go_simp
      refine (ref_sameEntry _ _ (s.ent k) _ (HVa.out.later (hbw.drew)) (HVb.out.later (hbw.drew))).mono ?_
      rintro r x2 ⟨rfl, hb2⟩
      go_wp2_with fail
      refine hK.out _ _ (hH.trans hb2) (fun hH2 => ?_)
      clear hK K hH
      have hH := hH2
      clear hH2 hb2
      refine wpAnyH_takeD (i := 9) (d := some 18) (v := .bool false) rfl rfl (by kernel_rfl) (by kernel_rfl) (by kernel_rfl) (fun _ _ _ h => h) (Or.inl ⟨by rfl, fun _ _ => by go_simp⟩) hH ?_
      simp only [Act.put, List.setIfInBounds_toArray, List.set_cons_zero, List.set_cons_succ]
      refine wpAnyH_done (by kernel_rfl) ?_ _
      have hB2 : Below W.heap.size W x2 := hB.trans (hH.mono (by omega))
      clear hH
      go_wp2
      go_roundw
      case rel => exact ⟨k + 1, by omega, by go_num, hB2⟩
      case measure => simp [intOf]; omega
    · obtain ⟨ao, co, eo, ho⟩ := HN.out.order.sl
      obtain ⟨ap, cp, ep, hp⟩ := HN'.out.order.sl
      have q0 : wr.cell? ⟨w.heap.size, 192, none⟩ = some (.slice ao s.order.length co) := by rw [HBar.out.cell (by omega), eo]
      have q1 : wr.cell? ⟨w.heap.size + 1, 192, none⟩ = some (.slice ap s.order.length cp) := by rw [HBbr.out.cell (by omega), ep]
      clear eo ep
      go_wp2_with fail
      refine (sameNumbers_any ao co s.order ap cp wr ho.2.1 (ho.later hbw).1 (hp.later hbw).1).mono ?_
      rintro r x1 ⟨rfl, hb1⟩
      have hbx : Below w.heap.size w x1 := hbw.trans (hb1.mono (by omega))
      obtain ⟨vr, hvr⟩ : ∃ vr, vr = (rowF 8 fun i => .int .i64 (s.vals i)).toList := ⟨_, rfl⟩
      have ra : x1.rangeAt w.heap.size 193 vr := by
        rw [hvr]
        refine range_later (w := wr) ?_ hb1 (by omega)
        have := BlkAt.range HBar.out (o := 193) (n := 8) (by omega)
        have e : (List.range 8).map (fun i => nv (193 + i)) = (rowF 8 fun i => .int .i64 (s.vals i)).toList := by
          unfold rowF
          exact List.map_congr_left fun i hi => HN.out.es.vals i (List.mem_range.1 hi)
        rw [← e]; exact this
      have rb : x1.rangeAt (w.heap.size + 1) 193 vr := by
        rw [hvr]
        refine range_later (w := wr) ?_ hb1 (by omega)
        have := BlkAt.range HBbr.out (o := 193) (n := 8) (by omega)
        have e : (List.range 8).map (fun i => nv' (193 + i)) = (rowF 8 fun i => .int .i64 (s.vals i)).toList := by
          unfold rowF
          exact List.map_congr_left fun i hi => HN'.out.es.vals i (List.mem_range.1 hi)
        rw [← e]; exact this
      have hsv : (Try.prog.info? 39).map (·.size) = some vr.length := by rw [hvr, rowF_toList]; exact Try.infoVals
      have hg := Try.valsGuard
      have he := fun w => run_equalIn_row 9998 Try.underlying39 Try.underlying3 Try.infoInt1 s.vals w
      have hva : vr.toArray = rowF 8 fun i => .int .i64 (s.vals i) := by rw [hvr]
      rw [← hva] at he
      clear hvr hva hb1 q0 q1
      go_wp2_with (first
        | (refine wpList_wanted (by rfl) fun K hK => ?_; refine wp_load_mid 39 _ rfl w.heap.size 193 rfl vr _ ra Try.underlying39 rfl hsv ?_; refine hK _ _ ?_)
        | (refine wpList_wanted (by rfl) fun K hK => ?_; refine wp_load_mid 39 _ rfl (w.heap.size + 1) 193 rfl vr _ rb Try.underlying39 rfl hsv ?_; refine hK _ _ ?_))
      go_ret
      exact ⟨rfl, hbx⟩

end Go.Proofs.Ytkoefoccbjhoiab
