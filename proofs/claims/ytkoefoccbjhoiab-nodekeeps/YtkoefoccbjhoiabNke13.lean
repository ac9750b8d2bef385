/-
  The contract of node's Take.
  Two rows of numbers are alike.
  The contract of the statements' own sameNumbers, at two lists that are alike.
  The contracts of package wire's appendWide and Encode.
  The contracts of the statements' own sameOps and sameFrame.
  The contracts of the statements' own sameEntry and sameNode.
  One frame that a node that is nothing takes.
  The contract of the statements' own takes (januspostkeep): node answers at all.
  A list of frames that a call made, read one by one.
  The walk of the statement NodeOnce.
-/
import Derived.Test.YtkoefoccbjhoiabNke12
import Derived.Test.YtkoefoccbjhoiabNke2
import Derived.Test.YtkoefoccbjhoiabNke1
import Derived.Test.YtkoefoccbjhoiabNke7
import Derived.Laws.IdiomStrings
import Derived.Test.YtkoefoccbjhoiabNke3
namespace Go.Proofs.Ytkoefoccbjhoiab
open Go.RowKit

/-- What separate leaves, laid into the box ahead of it. -/
theorem Apart.into {B c : Nat} {w : World} {nv : Nat → Value} {s : NodeL} {old : Array Value} {t : TypeId} (h : Apart B w nv s) (hc : c + 2 < B) (hB : B ≤ w.heap.size) (hr : w.heap[c]? = some (.cells old t (0, 0))) : NodeAt c (w.setRow c (rowF 201 nv)) nv s := by
  have hs : ∀ k, k ≠ c → (w.setRow c (rowF 201 nv)).heap[k]? = w.heap[k]? := fun k hk => setRow_other _ _ hk
  have h2 : Apart B (w.setRow c (rowF 201 nv)) nv s := ⟨h.node.later (fun b _ hb => hs b (by omega)), own_same h.order (fun k hk => hs k (by have := (World.ownsRow.lt h.order k hk).1; omega)), h.hot, h.len⟩
  exact h2.at hc (by rw [size_setRow]; exact hB) ⟨t, heap_setRow hr⟩
/-- And out of it again, into the result's box. -/
theorem NodeAt.out {c : Nat} {w : World} {nv : Nat → Value} {s : NodeL} (h : NodeAt c w nv s) (hl : s.order.length * 8 ≤ 140737488355328) (r : Array Value) : NodeC (c + 2 < ·) (w.setRow (c + 2) r) nv s := by
  have hs : ∀ k, k ≠ c + 2 → (w.setRow (c + 2) r).heap[k]? = w.heap[k]? := fun k hk => setRow_other _ _ hk
  have h1 : NodeC (c + 2 < ·) w nv s := ⟨h.node.mono (fun b _ hb => hb.1), (IsI.of_owns h.order hl).mono (fun b _ hb => by have := hb.1; omega)⟩
  exact h1.later (fun b _ hb => hs b (by omega))

/-- A frame that is taken: what then is, by its kind. -/
theorem take_ask {s : NodeL} {who : Int} {f : FrameL} (h : reasonN s who f = 0) (hk : f.kind = 1) : GoodN s ∧ goodL f = 0 ∧ f.node = who ∧ takeN s who f = (s.asked (ofL f.node) f, [⟨2, f.node, f.id, [], ((s.asked (ofL f.node) f).ent f.id.toNat).first, [], []⟩], 0) := by
  rcases take_cases s who f with ⟨h1, _⟩ | ⟨hg, hf, _, hn, _, _, ⟨_, _, e⟩ | ⟨hk3, _⟩⟩
  · rw [reason_take] at h1; exact absurd h h1
  · exact ⟨hg, hf, hn, by rw [e, hn]⟩
  · omega
theorem take_com {s : NodeL} {who : Int} {f : FrameL} (h : reasonN s who f = 0) (hk : f.kind ≠ 1) : GoodN s ∧ goodL f = 0 ∧ f.node = who ∧ f.kind = 3 ∧ takeN s who f = (s.commit (ofL f.node) f, (s.commit (ofL f.node) f).answers (ofL f.node) f.node f.id, 0) := by
  rcases take_cases s who f with ⟨h1, _⟩ | ⟨hg, hf, _, hn, _, _, ⟨hk1, _, _⟩ | ⟨hk3, e⟩⟩
  · rw [reason_take] at h1; exact absurd h h1
  · exact absurd hk1 hk
  · exact ⟨hg, hf, hn, hk3, by rw [e, hn]⟩
theorem take_not {s : NodeL} {who : Int} {f : FrameL} (h : reasonN s who f ≠ 0) : takeN s who f = (s, [], reasonN s who f) := by
  rcases take_cases s who f with ⟨_, h1, h2⟩ | ⟨_, _, h3, _⟩
  · have h4 := reason_take s who f
    generalize takeN s who f = t at h1 h2 h4 ⊢
    obtain ⟨a, b, c⟩ := t
    simp only at h1 h2 h4
    rw [h1, h2, h4]
  · rw [reason_take] at h3; exact absurd h3 h

set_option maxRecDepth 100000 in
set_option maxHeartbeats 2000000 in
theorem take_new (nv : Nat → Value) (s : NodeL) (who : Int) (v : Value) (f : FrameL) (w : World) (h : NodeC (· < w.heap.size) w nv s) (hf : FrameV w v f) :
    Calls Try.prog 23 #[.agg (rowF 201 nv), .int .i64 who, v] w fun r w' => ∃ nv' x, r = .returned (.tuple #[.agg (rowF 201 nv'), x, .int .i64 (takeN s who f).2.2]) ∧ NodeC (w.heap.size < ·) w' nv' (takeN s who f).1 ∧
      FramesV w.heap.size w' x (takeN s who f).2.1 ∧ Below w.heap.size w w' := by
  obtain ⟨gr, hgr⟩ : ∃ gr, gr = rowF 201 nv := ⟨_, rfl⟩
  obtain ⟨zr, hzr⟩ : ∃ zr, zr = rowF 201 zv := ⟨_, rfl⟩
  have hz0 := Try.zeroNode
  rw [← hzr] at hz0
  have hsg : (Try.prog.info? 41).map (·.size) = some gr.size := by rw [hgr, rowF_size]; exact Try.infoNode
  rw [← hgr]
  have HGR : Hid (gr = rowF 201 nv) := hgr
  have HZR : Hid (zr = rowF 201 zv) := hzr
  have HN : Hid (NodeC (· < w.heap.size) w nv s) := h
  have HFB : Hid (FrameB w.heap.size w v f) := hf.b
  have HFV : Hid (∀ x, Below w.heap.size w x → FrameV x v f) := fun x hx => (hf.b.later hx).v
  obtain ⟨a3, c3, a4, c4, a5, c5, a6, c6, rfl, _⟩ := hf
  obtain ⟨W, hW⟩ : ∃ W, W = ((w.alloc (.cells gr 41)).alloc (.cells #[.int .i64 f.kind, .int .i64 f.node, .int .i64 f.id, .slice a3 f.ops.length c3, .slice a4 f.deps.length c4, .slice a5 f.ats.length c5, .slice a6 f.vals.length c6] 43)).alloc (.cells zr 41) := ⟨_, rfl⟩
  obtain ⟨r0, r1, r2⟩ := rows3 w (.cells gr 41) (.cells #[.int .i64 f.kind, .int .i64 f.node, .int .i64 f.id, .slice a3 f.ops.length c3, .slice a4 f.deps.length c4, .slice a5 f.ats.length c5, .slice a6 f.vals.length c6] 43) (.cells zr 41)
  rw [← hW] at r0 r1 r2
  have hb : Below w.heap.size w W := by rw [hW]; exact (((Below.refl _ _).alloc (Nat.le_refl _) _).alloc (by rw [size_push]; omega) _).alloc (by rw [size_push, size_push]; omega) _
  have hzW : W.heap.size = w.heap.size + 3 := by rw [hW, size_push, size_push, size_push]
  have HW : Hid (W = ((w.alloc (.cells gr 41)).alloc (.cells #[.int .i64 f.kind, .int .i64 f.node, .int .i64 f.id, .slice a3 f.ops.length c3, .slice a4 f.deps.length c4, .slice a5 f.ats.length c5, .slice a6 f.vals.length c6] 43)).alloc (.cells zr 41)) := hW
  clear hgr hzr h hW
  go_enter Try.func23, Try.ntmps23
  go_upto_region 1 with (first
    | (refine wpList_alloc_as rfl 41 rfl zr hz0 ?_)
    | fail)
  rw [← HW.out]
  clear HW hz0
  go_wp2_with (refine wpList_load_row rfl 41 _ rfl w.heap.size rfl 41 gr (0, 0) _ r0 Try.underlying41 rfl hsg ?_)
  rw [HGR.out]
  refine (separate_any nv s W (HN.out.below hb)).mono ?_
  rintro r w1 ⟨nv1, rfl, hap, hb1⟩
  obtain ⟨fr, hfr⟩ : ∃ fr, fr = rowF 201 nv1 := ⟨_, rfl⟩
  rw [← hfr]
  have hsf : (Try.prog.info? 41).map (·.size) = some fr.size := by rw [hfr, rowF_size]; exact Try.infoNode
  have p0 : w1.heap[w.heap.size]? = some (.cells gr 41 (0, 0)) := by rw [hb1.block _ (by omega)]; exact r0
  have p1 : w1.heap[w.heap.size + 1]? = some (.cells #[.int .i64 f.kind, .int .i64 f.node, .int .i64 f.id, .slice a3 f.ops.length c3, .slice a4 f.deps.length c4, .slice a5 f.ats.length c5, .slice a6 f.vals.length c6] 43 (0, 0)) := by rw [hb1.block _ (by omega)]; exact r1
  have p2 : w1.heap[w.heap.size + 2]? = some (.cells zr 41 (0, 0)) := by rw [hb1.block _ (by omega)]; exact r2
  have hzs : gr.size = fr.size := by rw [hfr, HGR.out, rowF_size, rowF_size]
  have hzz : zr.size = fr.size := by rw [hfr, HZR.out, rowF_size, rowF_size]
  have hone : fr.all (·.oneCell') = true := by
    rw [hfr]
    exact rowF_all (NodeC.one (ok := fun _ => True) (w := w1) (s := s) ⟨hap.node.mono (fun _ _ _ => trivial), (IsI.of_owns hap.order hap.len).mono (fun _ _ _ => trivial)⟩)
  have hlen := hap.len
  have hz1 := hb1.size
  obtain ⟨X, hX⟩ : ∃ X, X = w1.setRow w.heap.size fr := ⟨_, rfl⟩
  have HA : Hid (NodeAt w.heap.size X nv1 s) := by rw [hX, hfr]; exact hap.into (by omega) (by omega) p0
  have hXw : Below w.heap.size w X := by rw [hX]; exact setRow_below (hb.trans (hb1.mono (by omega))) (Nat.le_refl _) _
  have hzX : w.heap.size + 3 ≤ X.heap.size := by rw [hX, size_setRow]; omega
  have x0 : X.heap[w.heap.size]? = some (.cells fr 41 (0, 0)) := by rw [hX]; exact heap_setRow p0
  have x1 : X.heap[w.heap.size + 1]? = some (.cells #[.int .i64 f.kind, .int .i64 f.node, .int .i64 f.id, .slice a3 f.ops.length c3, .slice a4 f.deps.length c4, .slice a5 f.ats.length c5, .slice a6 f.vals.length c6] 43 (0, 0)) := by rw [hX, setRow_other _ _ (by omega)]; exact p1
  have x2 : X.heap[w.heap.size + 2]? = some (.cells zr 41 (0, 0)) := by rw [hX, setRow_other _ _ (by omega)]; exact p2
  have HFR : Hid (fr = rowF 201 nv1) := hfr
  have HX : Hid (X = w1.setRow w.heap.size fr) := hX
  have HNC : Hid (NodeC (· < X.heap.size) X nv1 s) := by
    have h1 : Apart W.heap.size X nv1 s := by
      rw [hX]
      exact ⟨hap.node.later (fun b _ hb => setRow_other _ _ (by omega)), own_same hap.order (fun k hk => setRow_other _ _ (by have := (World.ownsRow.lt hap.order k hk).1; omega)), hap.hot, hap.len⟩
    exact ⟨h1.node.mono (fun _ hb _ => hb), (IsI.of_owns h1.order h1.len).mono (fun _ hb _ => hb)⟩
  clear hfr hX hap r0 r1 r2 hb1 p1 p2 hb
  go_upto_region 2 with (refine wpList_store_row rfl 41 _ _ rfl w.heap.size fr rfl rfl 41 _ p0 hsf hzs hone ?_)
  rw [← HX.out]
  clear HX p0
  go_wp2_with (first
    | (refine wpList_load_row rfl 41 _ rfl w.heap.size rfl 41 fr (0, 0) _ x0 Try.underlying41 rfl hsf ?_)
    | (refine wpList_load_row rfl 43 _ rfl (w.heap.size + 1) rfl 43 _ (0, 0) _ x1 Try.underlying43 rfl Try.infoFrame7 ?_))
  have hre := refusal_any nv1 s who _ f X HNC.out (HFV.out X hXw)
  rw [← HFR.out] at hre
  refine hre.mono ?_
  clear hre
  rintro r y ⟨rfl, hby⟩
  have HAy : Hid (NodeAt w.heap.size y nv1 s) := HA.out.later hby
  have hyw : Below w.heap.size w y := hXw.trans (hby.mono (by omega))
  have hzy : w.heap.size + 3 ≤ y.heap.size := by have := hby.size; omega
  have y0 : y.heap[w.heap.size]? = some (.cells fr 41 (0, 0)) := by rw [hby.block _ (by omega)]; exact x0
  have y1 : y.heap[w.heap.size + 1]? = some (.cells #[.int .i64 f.kind, .int .i64 f.node, .int .i64 f.id, .slice a3 f.ops.length c3, .slice a4 f.deps.length c4, .slice a5 f.ats.length c5, .slice a6 f.vals.length c6] 43 (0, 0)) := by rw [hby.block _ (by omega)]; exact x1
  have y2 : y.heap[w.heap.size + 2]? = some (.cells zr 41 (0, 0)) := by rw [hby.block _ (by omega)]; exact x2
  have qk : y.cell? ⟨w.heap.size + 1, 0, none⟩ = some (.int .i64 f.kind) := by rw [cell_of_row _ _ _ _ _ _ y1]; rfl
  clear hby HA hXw hzX x0 x1 x2 HNC
  by_cases t0 : reasonN s who f = 0
  · have d0 : (reasonN s who f != 0) = false := by simpa using t0
    have HT0 : Hid (reasonN s who f = 0) := t0
    clear t0
    by_cases tk : f.kind = 1
    · have dk : (f.kind == 1) = true := by simpa using tk
      have HTK : Hid (GoodN s ∧ goodL f = 0 ∧ f.node = who ∧ takeN s who f = (s.asked (ofL f.node) f, [⟨2, f.node, f.id, [], ((s.asked (ofL f.node) f).ent f.id.toNat).first, [], []⟩], 0)) := take_ask HT0.out tk
      have HLo : Hid ((s.asked (ofL f.node) f).order.length * 8 ≤ 140737488355328) := by
        unfold Hid
        have : (s.asked (ofL f.node) f).order = s.order := by unfold NodeL.asked; split <;> rfl
        rw [this]; exact hlen
      clear tk
      go_wp2_with (refine wpList_load_row rfl 43 _ rfl (w.heap.size + 1) rfl 43 _ (0, 0) _ y1 Try.underlying43 rfl Try.infoFrame7 ?_)
      refine (takeAsk_any w.heap.size nv1 s _ f y HAy.out HTK.out.1 (HFB.out.later hyw) HTK.out.2.1).mono ?_
      rintro r z ⟨x, mv, rfl, hat, hfs, hbz⟩
      obtain ⟨s1, hs1⟩ : ∃ s1, s1 = (takeN s who f).1 := ⟨_, rfl⟩
      obtain ⟨f1, hf1⟩ : ∃ f1, f1 = (takeN s who f).2.1 := ⟨_, rfl⟩
      have HS0 : Hid ((takeN s who f).2.2 = 0) := by unfold Hid; rw [reason_take]; exact HT0.out
      have HS1 : Hid (s1 = (takeN s who f).1) := hs1
      have HF1 : Hid (f1 = (takeN s who f).2.1) := hf1
      have hat : NodeAt w.heap.size z mv s1 := by rw [hs1, HTK.out.2.2.2]; exact hat
      have hfs : FramesV y.heap.size z x f1 := by rw [hf1, HTK.out.2.2.2]; exact hfs
      have hlo : s1.order.length * 8 ≤ 140737488355328 := by rw [hs1, HTK.out.2.2.2]; exact HLo.out
      obtain ⟨er, her⟩ : ∃ er, er = rowF 201 mv := ⟨_, rfl⟩
      have hse : (Try.prog.info? 41).map (·.size) = some er.size := by rw [her, rowF_size]; exact Try.infoNode
      have hze : zr.size = er.size := by rw [her, HZR.out, rowF_size, rowF_size]
      have honee : er.all (·.oneCell') = true := by rw [her]; exact rowF_all (NodeC.one (ok := fun _ => True) (w := z) (s := s1) ⟨hat.node.mono (fun _ _ _ => trivial), (IsI.of_owns hat.order hlo).mono (fun _ _ _ => trivial)⟩)
      obtain ⟨tz, z0⟩ := hat.blk
      rw [← her] at z0
      have z2 : z.heap[w.heap.size + 2]? = some (.cells zr 41 (0, 0)) := by rw [hbz.block _ (by omega) (by omega)]; exact y2
      have HF : Hid (NodeC (w.heap.size < ·) (z.setRow (w.heap.size + 2) er) mv s1) := (hat.out hlo er).mono (fun b _ hb => by omega)
      have HFS : Hid (FramesV w.heap.size (z.setRow (w.heap.size + 2) er) x f1) := (hfs.same (fun b _ hb => setRow_other _ _ (by omega))).mono (by omega)
      have hzf : Below w.heap.size w (z.setRow (w.heap.size + 2) er) := setRow_below (hyw.trans hbz.below) (by omega) _
      have HER : Hid (er = rowF 201 mv) := her
      clear hs1 hf1 hat hfs her HAy hyw hbz HTK HLo
      go_wp2_with (first
        | (refine wpList_load_row rfl 41 _ rfl w.heap.size rfl tz er (0, 0) _ z0 Try.underlying41 rfl hse ?_)
        | (refine wpList_store_row rfl 41 _ _ rfl (w.heap.size + 2) er rfl rfl 41 _ z2 hse hze honee ?_))
      refine bodyPost_ret (v := .tuple #[.agg er, x, .int .i64 0]) (results_row2 Try.results23 _ _ (w.heap.size + 2) 41 er (0, 0) _ rfl (heap_setRow z2) Try.underlying41 rfl hse _ _ rfl rfl) rfl ⟨mv, _, by rw [HER.out, HS0.out], by rw [← HS1.out]; exact HF.out, by rw [← HF1.out]; exact HFS.out, hzf⟩
    · have dk : (f.kind == 1) = false := by simpa using tk
      have HTK : Hid (GoodN s ∧ goodL f = 0 ∧ f.node = who ∧ f.kind = 3 ∧ takeN s who f = (s.commit (ofL f.node) f, (s.commit (ofL f.node) f).answers (ofL f.node) f.node f.id, 0)) := take_com HT0.out tk
      have HLo : Hid ((s.commit (ofL f.node) f).order.length * 8 ≤ 140737488355328) := by
        unfold Hid
        have := (good_commit HTK.out.1 (ofL f.node) HTK.out.2.1 HTK.out.2.2.2.1).len
        omega
      clear tk
      go_wp2_with (refine wpList_load_row rfl 43 _ rfl (w.heap.size + 1) rfl 43 _ (0, 0) _ y1 Try.underlying43 rfl Try.infoFrame7 ?_)
      refine (takeCommit_any w.heap.size nv1 s _ f y HAy.out HTK.out.1 (HFB.out.later hyw) HTK.out.2.1 HTK.out.2.2.2.1).mono ?_
      rintro r z ⟨x, mv, rfl, hat, hfs, hbz⟩
      obtain ⟨s1, hs1⟩ : ∃ s1, s1 = (takeN s who f).1 := ⟨_, rfl⟩
      obtain ⟨f1, hf1⟩ : ∃ f1, f1 = (takeN s who f).2.1 := ⟨_, rfl⟩
      have HS0 : Hid ((takeN s who f).2.2 = 0) := by unfold Hid; rw [reason_take]; exact HT0.out
      have HS1 : Hid (s1 = (takeN s who f).1) := hs1
      have HF1 : Hid (f1 = (takeN s who f).2.1) := hf1
      have hat : NodeAt w.heap.size z mv s1 := by rw [hs1, HTK.out.2.2.2.2]; exact hat
      have hfs : FramesV y.heap.size z x f1 := by rw [hf1, HTK.out.2.2.2.2]; exact hfs
      have hlo : s1.order.length * 8 ≤ 140737488355328 := by rw [hs1, HTK.out.2.2.2.2]; exact HLo.out
      obtain ⟨er, her⟩ : ∃ er, er = rowF 201 mv := ⟨_, rfl⟩
      have hse : (Try.prog.info? 41).map (·.size) = some er.size := by rw [her, rowF_size]; exact Try.infoNode
      have hze : zr.size = er.size := by rw [her, HZR.out, rowF_size, rowF_size]
      have honee : er.all (·.oneCell') = true := by rw [her]; exact rowF_all (NodeC.one (ok := fun _ => True) (w := z) (s := s1) ⟨hat.node.mono (fun _ _ _ => trivial), (IsI.of_owns hat.order hlo).mono (fun _ _ _ => trivial)⟩)
      obtain ⟨tz, z0⟩ := hat.blk
      rw [← her] at z0
      have z2 : z.heap[w.heap.size + 2]? = some (.cells zr 41 (0, 0)) := by rw [hbz.block _ (by omega) (by omega)]; exact y2
      have HF : Hid (NodeC (w.heap.size < ·) (z.setRow (w.heap.size + 2) er) mv s1) := (hat.out hlo er).mono (fun b _ hb => by omega)
      have HFS : Hid (FramesV w.heap.size (z.setRow (w.heap.size + 2) er) x f1) := (hfs.same (fun b _ hb => setRow_other _ _ (by omega))).mono (by omega)
      have hzf : Below w.heap.size w (z.setRow (w.heap.size + 2) er) := setRow_below (hyw.trans hbz.below) (by omega) _
      have HER : Hid (er = rowF 201 mv) := her
      clear hs1 hf1 hat hfs her HAy hyw hbz HTK HLo
      go_wp2_with (first
        | (refine wpList_load_row rfl 41 _ rfl w.heap.size rfl tz er (0, 0) _ z0 Try.underlying41 rfl hse ?_)
        | (refine wpList_store_row rfl 41 _ _ rfl (w.heap.size + 2) er rfl rfl 41 _ z2 hse hze honee ?_))
      refine bodyPost_ret (v := .tuple #[.agg er, x, .int .i64 0]) (results_row2 Try.results23 _ _ (w.heap.size + 2) 41 er (0, 0) _ rfl (heap_setRow z2) Try.underlying41 rfl hse _ _ rfl rfl) rfl ⟨mv, _, by rw [HER.out, HS0.out], by rw [← HS1.out]; exact HF.out, by rw [← HF1.out]; exact HFS.out, hzf⟩
  · have d0 : (reasonN s who f != 0) = true := by simpa using t0
    have HT : Hid (takeN s who f = (s, [], reasonN s who f)) := take_not t0
    clear t0
    have HF : Hid (NodeC (w.heap.size < ·) (y.setRow (w.heap.size + 2) fr) nv1 s) := (HAy.out.out hlen fr).mono (fun b _ hb => by omega)
    have hyf : Below w.heap.size w (y.setRow (w.heap.size + 2) fr) := setRow_below hyw (by omega) _
    clear HAy hyw
    go_wp2_with (first
      | (refine wpList_load_row rfl 41 _ rfl w.heap.size rfl 41 fr (0, 0) _ y0 Try.underlying41 rfl hsf ?_)
      | (refine wpList_store_row rfl 41 _ _ rfl (w.heap.size + 2) fr rfl rfl 41 _ y2 hsf hzz hone ?_))
    refine bodyPost_ret (v := .tuple #[.agg fr, .slice none 0 0, .int .i64 (reasonN s who f)]) (results_row2 Try.results23 _ _ (w.heap.size + 2) 41 fr (0, 0) _ rfl (heap_setRow y2) Try.underlying41 rfl hsf _ _ rfl rfl) rfl ⟨nv1, _, by rw [HFR.out, HT.out], by rw [HT.out]; exact HF.out, by rw [HT.out]; exact FramesV.nil _ _, hyf⟩

theorem take_any (nv : Nat → Value) (s : NodeL) (who : Int) (v : Value) (f : FrameL) (w : World) (h : NodeC (· < w.heap.size) w nv s) (hf : FrameV w v f) :
    Calls Try.prog 23 #[.agg (rowF 201 nv), .int .i64 who, v] w fun r w' => ∃ nv' x, r = .returned (.tuple #[.agg (rowF 201 nv'), x, .int .i64 (takeN s who f).2.2]) ∧ NodeC (· < w'.heap.size) w' nv' (takeN s who f).1 ∧
      FramesV w.heap.size w' x (takeN s who f).2.1 ∧ Below w.heap.size w w' := by
  refine (take_new nv s who v f w h hf).mono ?_
  rintro r w' ⟨nv', x, e, h1, h2⟩
  exact ⟨nv', x, e, h1.any, h2⟩

end Go.Proofs.Ytkoefoccbjhoiab

namespace Go.Proofs.Ytkoefoccbjhoiab
open Go.RowKit

end Go.Proofs.Ytkoefoccbjhoiab

namespace Go.Proofs.Ytkoefoccbjhoiab
open Go.RowKit

set_option maxRecDepth 100000 in
set_option maxHeartbeats 400000 in
theorem keep_same_any (a : Option Addr) (cap : Nat) (zs : List Int) (a' : Option Addr) (cap' : Nat) (w : World) (hl : zs.length ≤ maxLen) (hz : IntsAt w.heap.size w a zs) (hy : IntsAt w.heap.size w a' zs) :
    Calls Try.prog 20 #[.slice a zs.length cap, .slice a' zs.length cap'] w fun e w' => e = .returned (.bool true) ∧ Below w.heap.size w w' := by
  unfold maxLen at hl
  have hne : ((zs.length : Int) != (zs.length : Int)) = false := by simp
  rcases hz with rfl | ⟨b, off, rfl, hb, hc⟩
  · go_enter Try.func20, Try.ntmps20
    go_wp2
    refine wp_loop_rounds 1 ?_; rw [rounds_succ]
    go_wp2
    go_ret
    exact ⟨rfl, Below.refl _ _⟩
  rcases hy with rfl | ⟨b', off', rfl, hb', hc'⟩
  · go_enter Try.func20, Try.ntmps20
    go_wp2
    refine wp_loop_rounds 1 ?_; rw [rounds_succ]
    go_wp2
    go_ret
    exact ⟨rfl, Below.refl _ _⟩
  go_enter Try.func20, Try.ntmps20
  go_wp2
  go_loopw [13] (fun i wr => ∃ k : Nat, k ≤ zs.length ∧ i = .int .i64 k ∧ Below w.heap.size w wr) (fun i _ => zs.length - (intOf i).toNat)
  case atStart => exact ⟨0, Nat.zero_le _, rfl, Below.refl _ _⟩
  case round =>
    obtain ⟨k, hk, rfl, hB⟩ := hrel
    by_cases hlt : k < zs.length
    · obtain ⟨q, Hq, e0⟩ := IntsAt.at hc hb hB hlt
      have f0 : wr.cell? ⟨b', off' + k, none⟩ = some (.int .i64 q) := by rw [hB.cell (p := ⟨b', off' + k, none⟩) hb', ← Hq.out]; exact hc' k hlt
      have hi : (k : Int) < (zs.length : Int) := by omega
      clear hc hc'
      go_wp2
      go_quiet (fail)
      go_wp2
      go_roundw
      case rel => exact ⟨k + 1, by omega, by go_num, below_drewN hB _⟩
      case measure => simp [intOf]; omega
    · go_wp2
      go_ret
      exact ⟨rfl, hB⟩

end Go.Proofs.Ytkoefoccbjhoiab

namespace Go.Proofs.Ytkoefoccbjhoiab
open Go.RowKit

end Go.Proofs.Ytkoefoccbjhoiab

namespace Go.Proofs.Ytkoefoccbjhoiab
open Go.RowKit

set_option maxRecDepth 100000 in
set_option maxHeartbeats 400000 in
theorem keep_sameOps_any (a : Option Addr) (cap : Nat) (zs : List OpL) (a' : Option Addr) (cap' : Nat) (w : World) (hl : zs.length ≤ maxLen) (hz : OpsAt w a zs) (hy : OpsAt w a' zs) :
    Calls Try.prog 39 #[.slice a zs.length cap, .slice a' zs.length cap'] w fun e w' => e = .returned (.bool true) ∧ Below w.heap.size w w' := by
  unfold maxLen at hl
  have hne : ((zs.length : Int) != (zs.length : Int)) = false := by simp
  rcases hz with rfl | ⟨b, off, rfl, hb, hc⟩
  · go_enter Try.func39, Try.ntmps39
    go_wp2
    refine wp_loop_rounds 1 ?_; rw [rounds_succ]
    go_wp2
    go_ret
    exact ⟨rfl, Below.refl _ _⟩
  rcases hy with rfl | ⟨b', off', rfl, hb', hc'⟩
  · go_enter Try.func39, Try.ntmps39
    go_wp2
    refine wp_loop_rounds 1 ?_; rw [rounds_succ]
    go_wp2
    go_ret
    exact ⟨rfl, Below.refl _ _⟩
  go_enter Try.func39, Try.ntmps39
  go_wp2
  go_loopw [13] (fun i wr => ∃ k : Nat, k ≤ zs.length ∧ i = .int .i64 k ∧ Below w.heap.size w wr) (fun i _ => zs.length - (intOf i).toNat)
  case atStart => exact ⟨0, Nat.zero_le _, rfl, Below.refl _ _⟩
  case round =>
    obtain ⟨k, hk, rfl, hB⟩ := hrel
    by_cases hlt : k < zs.length
    · obtain ⟨q0, q1, q2, Hq, e0, e1, e2⟩ := OpsAt.at hc hb hB hlt
      obtain ⟨p0, p1, p2, Hp, f0, f1, f2⟩ := OpsAt.at hc' hb' hB hlt
      have hh : (q0, q1, q2) = (p0, p1, p2) := Hq.out.symm.trans Hp.out
      simp at hh
      obtain ⟨rfl, rfl, rfl⟩ := hh
      have hi : (k : Int) < (zs.length : Int) := by omega
      clear hc hc'
      go_wp2
      go_quiet (fail)
      go_wp2
      go_roundw
      case rel => exact ⟨k + 1, by omega, by go_num, below_drewN hB _⟩
      case measure => simp [intOf]; omega
    · go_wp2
      go_ret
      exact ⟨rfl, hB⟩

end Go.Proofs.Ytkoefoccbjhoiab

namespace Go.Proofs.Ytkoefoccbjhoiab
open Go.RowKit

set_option maxRecDepth 100000 in
set_option maxHeartbeats 1000000 in
theorem keep_sameEntry (v v' : Value) (e : EntryL) (w : World) (h : EntV w v e) (h' : EntV w v' e) :
    Calls Try.prog 40 #[v, v'] w fun r w' => r = .returned (.bool true) ∧ Below w.heap.size w w' := by
  obtain ⟨a1, c1, a2, c2, a3, c3, a4, c4, a5, c5, rfl, x1, x2, x3, x4, x5, _⟩ := h
  obtain ⟨a1', c1', a2', c2', a3', c3', a4', c4', a5', c5', rfl, y1, y2, y3, y4, y5, _⟩ := h'
  obtain ⟨W, hW⟩ : ∃ W, W = (w.alloc (.cells #[.int .i64 e.state, .slice a1 e.ops.length c1, .slice a2 e.first.length c2, .slice a3 e.deps.length c3, .slice a4 e.ats.length c4, .slice a5 e.vals.length c5] 37)).alloc (.cells #[.int .i64 e.state, .slice a1' e.ops.length c1', .slice a2' e.first.length c2', .slice a3' e.deps.length c3', .slice a4' e.ats.length c4', .slice a5' e.vals.length c5'] 37) := ⟨_, rfl⟩
  obtain ⟨r0, r1⟩ := two_rows w (.cells #[.int .i64 e.state, .slice a1 e.ops.length c1, .slice a2 e.first.length c2, .slice a3 e.deps.length c3, .slice a4 e.ats.length c4, .slice a5 e.vals.length c5] 37) (.cells #[.int .i64 e.state, .slice a1' e.ops.length c1', .slice a2' e.first.length c2', .slice a3' e.deps.length c3', .slice a4' e.ats.length c4', .slice a5' e.vals.length c5'] 37)
  rw [← hW] at r0 r1
  have hb : Below w.heap.size w W := by rw [hW]; exact ((Below.refl _ _).alloc (Nat.le_refl _) _).alloc (by rw [size_push]; omega) _
  have hzW : W.heap.size = w.heap.size + 2 := by rw [hW, size_push, size_push]
  have es : (e.state == e.state) = true := by simp
  have HW : Hid (W = (w.alloc (.cells #[.int .i64 e.state, .slice a1 e.ops.length c1, .slice a2 e.first.length c2, .slice a3 e.deps.length c3, .slice a4 e.ats.length c4, .slice a5 e.vals.length c5] 37)).alloc (.cells #[.int .i64 e.state, .slice a1' e.ops.length c1', .slice a2' e.first.length c2', .slice a3' e.deps.length c3', .slice a4' e.ats.length c4', .slice a5' e.vals.length c5'] 37)) := hW
  have KC : Hid (∀ wx, Below W.heap.size W wx → (wx.heap[w.heap.size]? = some (.cells #[.int .i64 e.state, .slice a1 e.ops.length c1, .slice a2 e.first.length c2, .slice a3 e.deps.length c3, .slice a4 e.ats.length c4, .slice a5 e.vals.length c5] 37 (0, 0)) ∧ wx.heap[w.heap.size + 1]? = some (.cells #[.int .i64 e.state, .slice a1' e.ops.length c1', .slice a2' e.first.length c2', .slice a3' e.deps.length c3', .slice a4' e.ats.length c4', .slice a5' e.vals.length c5'] 37 (0, 0)))) := fun wx hx => ⟨by rw [hx.block _ (by omega)]; exact r0, by rw [hx.block _ (by omega)]; exact r1⟩
  clear hW r0 r1
  go_enter Try.func40, Try.ntmps40
  go_upto_region 1 with fail
  rw [← HW.out]
  clear HW
  obtain ⟨r0, r1⟩ := KC.out W (Below.refl _ _)
  have p0 : W.cell? ⟨w.heap.size, 0, none⟩ = some (.int .i64 e.state) := by rw [cell_of_row _ _ _ _ _ _ r0]; rfl
  have p1 : W.cell? ⟨w.heap.size + 1, 0, none⟩ = some (.int .i64 e.state) := by rw [cell_of_row _ _ _ _ _ _ r1]; rfl
  have q1 : W.cell? ⟨w.heap.size, 1, none⟩ = some (.slice a1 e.ops.length c1) := by rw [cell_of_row _ _ _ _ _ _ r0]; rfl
  have z1 : W.cell? ⟨w.heap.size + 1, 1, none⟩ = some (.slice a1' e.ops.length c1') := by rw [cell_of_row _ _ _ _ _ _ r1]; rfl
  clear r0 r1
  go_wp2_with fail
  refine (keep_sameOps_any a1 c1 e.ops a1' c1' W x1.2.1 (x1.later hb).1 (y1.later hb).1).mono ?_
  rintro r w1 ⟨rfl, hx1⟩
  have hb1 : Below W.heap.size W w1 := hx1
  have hw1 : Below w.heap.size w w1 := hb.trans (hb1.mono (by omega))
  obtain ⟨r0, r1⟩ := KC.out w1 hb1
  clear hx1 q1 z1
  have q2 : w1.cell? ⟨w.heap.size, 2, none⟩ = some (.slice a2 e.first.length c2) := by rw [cell_of_row _ _ _ _ _ _ r0]; rfl
  have z2 : w1.cell? ⟨w.heap.size + 1, 2, none⟩ = some (.slice a2' e.first.length c2') := by rw [cell_of_row _ _ _ _ _ _ r1]; rfl
  clear r0 r1
  go_wp2_with fail
  refine (keep_same_any a2 c2 e.first a2' c2' w1 x2.2.1 (x2.later hw1).1 (y2.later hw1).1).mono ?_
  rintro r w2 ⟨rfl, hx2⟩
  have hb2 : Below W.heap.size W w2 := hb1.trans (hx2.mono hb1.size)
  have hw2 : Below w.heap.size w w2 := hb.trans (hb2.mono (by omega))
  obtain ⟨r0, r1⟩ := KC.out w2 hb2
  clear hx2 q2 z2
  have q3 : w2.cell? ⟨w.heap.size, 3, none⟩ = some (.slice a3 e.deps.length c3) := by rw [cell_of_row _ _ _ _ _ _ r0]; rfl
  have z3 : w2.cell? ⟨w.heap.size + 1, 3, none⟩ = some (.slice a3' e.deps.length c3') := by rw [cell_of_row _ _ _ _ _ _ r1]; rfl
  clear r0 r1
  go_wp2_with fail
  refine (keep_same_any a3 c3 e.deps a3' c3' w2 x3.2.1 (x3.later hw2).1 (y3.later hw2).1).mono ?_
  rintro r w3 ⟨rfl, hx3⟩
  have hb3 : Below W.heap.size W w3 := hb2.trans (hx3.mono hb2.size)
  have hw3 : Below w.heap.size w w3 := hb.trans (hb3.mono (by omega))
  obtain ⟨r0, r1⟩ := KC.out w3 hb3
  clear hx3 q3 z3
  have q4 : w3.cell? ⟨w.heap.size, 4, none⟩ = some (.slice a4 e.ats.length c4) := by rw [cell_of_row _ _ _ _ _ _ r0]; rfl
  have z4 : w3.cell? ⟨w.heap.size + 1, 4, none⟩ = some (.slice a4' e.ats.length c4') := by rw [cell_of_row _ _ _ _ _ _ r1]; rfl
  clear r0 r1
  go_wp2_with fail
  refine (keep_same_any a4 c4 e.ats a4' c4' w3 x4.2.1 (x4.later hw3).1 (y4.later hw3).1).mono ?_
  rintro r w4 ⟨rfl, hx4⟩
  have hb4 : Below W.heap.size W w4 := hb3.trans (hx4.mono hb3.size)
  have hw4 : Below w.heap.size w w4 := hb.trans (hb4.mono (by omega))
  obtain ⟨r0, r1⟩ := KC.out w4 hb4
  clear hx4 q4 z4
  have q5 : w4.cell? ⟨w.heap.size, 5, none⟩ = some (.slice a5 e.vals.length c5) := by rw [cell_of_row _ _ _ _ _ _ r0]; rfl
  have z5 : w4.cell? ⟨w.heap.size + 1, 5, none⟩ = some (.slice a5' e.vals.length c5') := by rw [cell_of_row _ _ _ _ _ _ r1]; rfl
  clear r0 r1
  go_wp2_with fail
  refine (keep_same_any a5 c5 e.vals a5' c5' w4 x5.2.1 (x5.later hw4).1 (y5.later hw4).1).mono ?_
  rintro r w5 ⟨rfl, hx5⟩
  have hb5 : Below W.heap.size W w5 := hb4.trans (hx5.mono hb4.size)
  have hw5 : Below w.heap.size w w5 := hb.trans (hb5.mono (by omega))
  obtain ⟨r0, r1⟩ := KC.out w5 hb5
  clear hx5 q5 z5
  clear r0 r1
  go_wp2
  go_ret
  exact ⟨rfl, hw5⟩

end Go.Proofs.Ytkoefoccbjhoiab

namespace Go.Proofs.Ytkoefoccbjhoiab
open Go.RowKit

def takesF : FrameL := ⟨3, 3, 4, [(2, 1, 9)], [], [], []⟩
theorem takes_ok : (takeN zeroN 3 takesF).2.2 = 0 := by decide +kernel
theorem takes_len : (takeN zeroN 3 takesF).2.1.length = 2 := by decide +kernel
theorem takes_val : (takeN zeroN 3 takesF).1.vals 1 = 9 := by decide +kernel
theorem takes_ord : (takeN zeroN 3 takesF).1.order.length = 1 := by decide +kernel
theorem Try.zcNode : Try.zeroCells41 = rowF 201 zv := by kernel_rfl

theorem takes_call (W : World) (cs : Array Value) (h : FrameV W (.agg cs) takesF) : ∃ T : NodeL × List FrameL × Int, T.2.2 = 0 ∧ T.2.1.length = 2 ∧ T.1.vals 1 = 9 ∧ T.1.order.length = 1 ∧
    Calls Try.prog 23 #[.agg (rowF 201 zv), .int .i64 3, .agg cs] W fun r w' => ∃ nv' x, r = .returned (.tuple #[.agg (rowF 201 nv'), x, .int .i64 T.2.2]) ∧ NodeC (· < w'.heap.size) w' nv' T.1 ∧ FramesV W.heap.size w' x T.2.1 ∧ Below W.heap.size W w' :=
  ⟨takeN zeroN 3 takesF, takes_ok, takes_len, takes_val, takes_ord, take_any zv zeroN 3 _ takesF W (zero_node _ _) h⟩

end Go.Proofs.Ytkoefoccbjhoiab

namespace Go.Proofs.Ytkoefoccbjhoiab
open Go.RowKit

set_option maxRecDepth 100000 in
set_option maxHeartbeats 1000000 in
theorem keep_takes (w : World) : Calls Try.prog 36 #[] w fun r w' => r = .returned (.bool true) ∧ Below w.heap.size w w' := by
  obtain ⟨zr, hzr⟩ : ∃ zr, zr = rowF 201 zv := ⟨_, rfl⟩
  have hz0 := Try.zeroNode
  rw [← hzr] at hz0
  obtain ⟨W, hW⟩ : ∃ W, W = w.alloc (.cells #[.int .i64 2, .int .i64 1, .int .i64 9] 108) := ⟨_, rfl⟩
  have hb : Below w.heap.size w W := by rw [hW]; exact (Below.refl _ _).alloc (Nat.le_refl _) _
  have r0 : W.heap[w.heap.size]? = some (.cells #[.int .i64 2, .int .i64 1, .int .i64 9] 108 (0, 0)) := by rw [hW]; exact heap_new _ _
  have hzW : W.heap.size = w.heap.size + 1 := by rw [hW]; exact size_push _ _
  have HF : Hid (FrameV W (.agg #[.int .i64 3, .int .i64 3, .int .i64 4, .slice (some ⟨w.heap.size, 0, none⟩) 1 1, .slice none 0 0, .slice none 0 0, .slice none 0 0]) takesF) := by
    refine ⟨some ⟨w.heap.size, 0, none⟩, 1, none, 0, none, 0, none, 0, rfl, ⟨Or.inr ⟨w.heap.size, 0, rfl, by omega, fun i hi => ?_⟩, by decide, Nat.le_refl _, fun h => by cases h⟩, (slI_nil (fun _ => True) _).1, (slI_nil (fun _ => True) _).1, (slI_nil (fun _ => True) _).1⟩
    have : i = 0 := by
      have : i < 1 := hi
      omega
    subst this
    exact ⟨by rw [cell_of_row _ _ _ _ _ _ r0]; rfl, by rw [cell_of_row _ _ _ _ _ _ r0]; rfl, by rw [cell_of_row _ _ _ _ _ _ r0]; rfl⟩
  have HT := takes_call W #[.int .i64 3, .int .i64 3, .int .i64 4, .slice (some ⟨w.heap.size, 0, none⟩) 1 1, .slice none 0 0, .slice none 0 0, .slice none 0 0] HF.out
  rw [← hzr] at HT
  obtain ⟨T, t0, t1, t2, t3, HT⟩ := HT
  have T0 : Hid (T.2.2 = 0) := t0
  have T1 : Hid (T.2.1.length = 2) := t1
  have T2 : Hid (T.1.vals 1 = 9) := t2
  have T3 : Hid (T.1.order.length = 1) := t3
  have HZR : Hid (zr = rowF 201 zv) := hzr
  have HW : Hid (W = w.alloc (.cells #[.int .i64 2, .int .i64 1, .int .i64 9] 108)) := hW
  have HTA : Hid (Calls Try.prog 23 #[.agg zr, .int .i64 3, .agg #[.int .i64 3, .int .i64 3, .int .i64 4, .slice (some ⟨w.heap.size, 0, none⟩) 1 1, .slice none 0 0, .slice none 0 0, .slice none 0 0]] W fun r w' => ∃ nv' x, r = .returned (.tuple #[.agg (rowF 201 nv'), x, .int .i64 T.2.2]) ∧ NodeC (· < w'.heap.size) w' nv' T.1 ∧ FramesV W.heap.size w' x T.2.1 ∧ Below W.heap.size W w') := HT
  clear t0 t1 t2 t3
  clear hzr hW r0 HT HF
  go_enter Try.func36, Try.ntmps36
  go_wp2_with fail
  rw [← HW.out, Try.zcNode, ← HZR.out]
  refine HTA.out.mono ?_
  rintro r w1 ⟨nv1, x, rfl, hnc, hfs, hb1⟩
  rw [T0.out]
  obtain ⟨fr, hfr⟩ : ∃ fr, fr = rowF 201 nv1 := ⟨_, rfl⟩
  rw [← hfr]
  have hsf : (Try.prog.info? 41).map (·.size) = some fr.size := by rw [hfr, rowF_size]; exact Try.infoNode
  have hzz : zr.size = fr.size := by rw [hfr, HZR.out, rowF_size, rowF_size]
  have hone : fr.all (·.oneCell') = true := by rw [hfr]; exact rowF_all hnc.one
  have hres : (w1.alloc (.cells zr 41)).heap[w1.heap.size]? = some (.cells zr 41 (0, 0)) := heap_new _ _
  obtain ⟨css, _, hown, _⟩ := hfs
  obtain ⟨ax, cx, rfl, _⟩ := own_form hown
  rw [T1.out]
  have hlen2 : ((2 : Nat) : Int) = 2 := rfl
  obtain ⟨X, hX⟩ : ∃ X, X = (w1.alloc (.cells zr 41)).setRow w1.heap.size fr := ⟨_, rfl⟩
  have hbX : Below w1.heap.size w1 X := by rw [hX]; exact setRow_below ((Below.refl _ _).alloc (Nat.le_refl _) _) (Nat.le_refl _) _
  have rX : BlkAt 201 X w1.heap.size nv1 := ⟨41, by rw [← hfr, hX]; exact heap_setRow hres⟩
  have q1 : X.cell? ⟨w1.heap.size, 194, none⟩ = some (.int .i64 9) := by
    rw [rX.cell (by omega), hnc.es.vals 1 (by omega), T2.out]
  obtain ⟨ao, co, eo, _⟩ := hnc.order.sl
  have q2 : X.cell? ⟨w1.heap.size, 192, none⟩ = some (.slice ao 1 co) := by
    rw [rX.cell (by omega), eo, T3.out]
  have HX : Hid (X = (w1.alloc (.cells zr 41)).setRow w1.heap.size fr) := hX
  have hbE : Below w.heap.size w X := hb.trans ((hb1.mono (by omega)).trans (hbX.mono (by have := hb1.size; omega)))
  clear hfr hX hnc hown eo rX hbX hb1
  go_upto_region 2 with (first
    | (refine wpList_alloc_as rfl 41 rfl zr hz0 ?_)
    | (refine wpList_store_row rfl 41 _ _ rfl w1.heap.size fr rfl rfl 41 _ hres hsf hzz hone ?_))
  rw [← HX.out]
  clear HX hres
  go_wp2
  go_ret
  exact ⟨rfl, hbE⟩

end Go.Proofs.Ytkoefoccbjhoiab

namespace Go.Proofs.Ytkoefoccbjhoiab
open Go.RowKit

theorem FramesV.form {B : Nat} {w : World} {v : Value} {fs : List FrameL} (h : FramesV B w v fs) : ∃ a cap, v = .slice a fs.length cap := by
  obtain ⟨css, _, h2, _⟩ := h
  obtain ⟨a, cap, e, _⟩ := own_form h2
  exact ⟨a, cap, e⟩
end Go.Proofs.Ytkoefoccbjhoiab

namespace Go.Proofs.Ytkoefoccbjhoiab
open Go.RowKit

theorem nonneg_states {s : NodeL} (h : GoodN s) (h32 : ∀ n, 32 ≤ n → s.ent n = zeroE) : ∀ n, 0 ≤ (s.ent n).state := fun n => by
  by_cases hn : n < 32
  · exact (h.state hn).1
  · rw [h32 n (by omega)]; decide
end Go.Proofs.Ytkoefoccbjhoiab
