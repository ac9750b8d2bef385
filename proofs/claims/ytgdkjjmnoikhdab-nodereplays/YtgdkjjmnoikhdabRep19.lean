/-
  The contract of node's Take.
  One frame that a node that is nothing takes.
  The contracts of package wire's appendWide and Encode.
  The contract of the reader's frame: what it reads, good or not.
-/
import Derived.Test.YtgdkjjmnoikhdabRep18
import Derived.Test.YtgdkjjmnoikhdabRep11
import Derived.Laws.IdiomStrings
import Derived.Test.YtgdkjjmnoikhdabRep9
import Derived.Deep.RegionLaw
import Derived.Deep.DrawnRows
namespace Go.Proofs.Ytgdkjjmnoikhdab
open Go.RowKit

/-- What separate leaves, laid into the box ahead of it. -/
theorem Apart.into {B c : Nat} {w : World} {nv : Nat → Value} {s : NodeL} {old : Array Value} {t : TypeId} (h : Apart B w nv s) (hc : c + 2 < B) (hB : B ≤ w.heap.size) (hr : w.heap[c]? = some (.cells old t (0, 0))) : NodeAt c (w.setRow c (rowF 201 nv)) nv s := by
  have hs : ∀ k, k ≠ c → (w.setRow c (rowF 201 nv)).heap[k]? = w.heap[k]? := fun k hk => setRow_other _ _ hk
  have h2 : Apart B (w.setRow c (rowF 201 nv)) nv s := ⟨h.node.later (fun b _ hb => hs b (by omega)), own_same h.order (fun k hk => hs k (by have := (World.ownsRow.lt h.order k hk).1; omega)), h.hot, h.len⟩
  exact h2.at hc (by rw [size_setRow]; exact hB) ⟨t, heap_setRow hr⟩
/-- And out of it again, into the result's box. -/
theorem NodeAt.out {c : Nat} {w : World} {nv : Nat → Value} {s : NodeL} (h : NodeAt c w nv s) (hl : s.order.length * 8 ≤ 140737488355328) (r : Array Value) : NodeC (c + 2 < ·) (w.setRow (c + 2) r) nv s := by
  have hs : ∀ k, k ≠ c + 2 → (w.setRow (c + 2) r).heap[k]? = w.heap[k]? := fun k hk => setRow_other _ _ hk
  have h1 : NodeC (c + 2 < ·) w nv s := ⟨h.node.mono (fun b _ hb => hb.1), (IsI.of_owns h.order hl).mono (fun b _ hb => by have := hb.1; omega)⟩
  exact h1.later (fun b _ hb => hs b (by omega))

theorem results_row2 {P : Program} {fn : Func} {p q r : Tmp} {ty : TypeId} (h : fn.results = #[.cell p ty, .tmp q, .tmp r]) (tmps : Array Value) (w : World) (g : Nat) (t : TypeId) (cs : Array Value) (fr : Nat × Nat) (d : TypeDesc)
    (hp : tmps.getD p undef = .pointer (some ⟨g, 0, none⟩)) (hg : w.heap[g]? = some (.cells cs t fr)) (hu : P.underlying ty = some d) (hd : (match d with | .struct _ | .array _ _ => true | _ => false) = true) (hi : (P.info? ty).map (·.size) = some cs.size)
    (x y : Value) (hx : tmps.getD q undef = x) (hy : tmps.getD r undef = y) : (results fn tmps).run P w = .ok (.tuple #[.agg cs, x, y]) w := by
  have hp' : tmps[p]?.getD undef = .pointer (some ⟨g, 0, none⟩) := by simpa using hp
  have hx' : tmps[q]?.getD undef = x := by simpa using hx
  have hy' : tmps[r]?.getD undef = y := by simpa using hy
  simp [results, h, hp', hx', hy', asAddr, run_loadVar_row w g t ty cs fr d hg hu hd hi]

/-- A frame that is taken: what then is, by its kind. -/
theorem take_ask {s : NodeL} {who : Int} {f : FrameL} (h : reasonN s who f = 0) (hk : f.kind = 1) : GoodN s ∧ goodL f = 0 ∧ f.node = who ∧ takeN s who f = (s.asked (ofL f.node) f, [⟨2, f.node, f.id, [], ((s.asked (ofL f.node) f).ent f.id.toNat).first, [], []⟩], 0) := by
  rcases take_cases s who f with ⟨h1, _⟩ | ⟨hg, hf, _, hn, _, _, ⟨_, _, e⟩ | ⟨hk3, _⟩⟩
  · rw [reason_take] at h1; exact absurd h h1
  · exact ⟨hg, hf, hn, by rw [e, hn]⟩
  · omega
theorem take_com {s : NodeL} {who : Int} {f : FrameL} (h : reasonN s who f = 0) (hk : f.kind ≠ 1) : GoodN s ∧ goodL f = 0 ∧ f.node = who ∧ f.kind = 3 ∧ takeN s who f = (s.commit (ofL f.node) f, (s.commit (ofL f.node) f).answers (ofL f.node) f.node f.id, 0) := by
  rcases take_cases s who f with ⟨h1, _⟩ | ⟨hg, hf, _, hn, _, _, ⟨hk1, _, _⟩ | ⟨hk3, e⟩⟩
  · rw [reason_take] at h1; exact absurd h h1
  · exact absurd hk1 hk
  · exact ⟨hg, hf, hn, hk3, by rw [e, hn]⟩
theorem take_not {s : NodeL} {who : Int} {f : FrameL} (h : reasonN s who f ≠ 0) : takeN s who f = (s, [], reasonN s who f) := by
  rcases take_cases s who f with ⟨_, h1, h2⟩ | ⟨_, _, h3, _⟩
  · have h4 := reason_take s who f
    generalize takeN s who f = t at h1 h2 h4 ⊢
    obtain ⟨a, b, c⟩ := t
    simp only at h1 h2 h4
    rw [h1, h2, h4]
  · rw [reason_take] at h3; exact absurd h3 h

set_option maxRecDepth 100000 in
set_option maxHeartbeats 2000000 in
theorem take_new (nv : Nat → Value) (s : NodeL) (who : Int) (v : Value) (f : FrameL) (w : World) (h : NodeC (· < w.heap.size) w nv s) (hf : FrameV w v f) :
    Calls Try.prog 20 #[.agg (rowF 201 nv), .int .i64 who, v] w fun r w' => ∃ nv' x, r = .returned (.tuple #[.agg (rowF 201 nv'), x, .int .i64 (takeN s who f).2.2]) ∧ NodeC (w.heap.size < ·) w' nv' (takeN s who f).1 ∧
      FramesV w.heap.size w' x (takeN s who f).2.1 ∧ Below w.heap.size w w' := by
  obtain ⟨gr, hgr⟩ : ∃ gr, gr = rowF 201 nv := ⟨_, rfl⟩
  obtain ⟨zr, hzr⟩ : ∃ zr, zr = rowF 201 zv := ⟨_, rfl⟩
  have hz0 := Try.zeroNode
  rw [← hzr] at hz0
  have hsg : (Try.prog.info? 41).map (·.size) = some gr.size := by rw [hgr, rowF_size]; exact Try.infoNode
  rw [← hgr]
  have HGR : Hid (gr = rowF 201 nv) := hgr
  have HZR : Hid (zr = rowF 201 zv) := hzr
  have HN : Hid (NodeC (· < w.heap.size) w nv s) := h
  have HFB : Hid (FrameB w.heap.size w v f) := hf.b
  have HFV : Hid (∀ x, Below w.heap.size w x → FrameV x v f) := fun x hx => (hf.b.later hx).v
  obtain ⟨a3, c3, a4, c4, a5, c5, a6, c6, rfl, _⟩ := hf
  obtain ⟨W, hW⟩ : ∃ W, W = ((w.alloc (.cells gr 41)).alloc (.cells #[.int .i64 f.kind, .int .i64 f.node, .int .i64 f.id, .slice a3 f.ops.length c3, .slice a4 f.deps.length c4, .slice a5 f.ats.length c5, .slice a6 f.vals.length c6] 43)).alloc (.cells zr 41) := ⟨_, rfl⟩
  obtain ⟨r0, r1, r2⟩ := rows3 w (.cells gr 41) (.cells #[.int .i64 f.kind, .int .i64 f.node, .int .i64 f.id, .slice a3 f.ops.length c3, .slice a4 f.deps.length c4, .slice a5 f.ats.length c5, .slice a6 f.vals.length c6] 43) (.cells zr 41)
  rw [← hW] at r0 r1 r2
  have hb : Below w.heap.size w W := by rw [hW]; exact (((Below.refl _ _).alloc (Nat.le_refl _) _).alloc (by rw [size_push]; omega) _).alloc (by rw [size_push, size_push]; omega) _
  have hzW : W.heap.size = w.heap.size + 3 := by rw [hW, size_push, size_push, size_push]
  have HW : Hid (W = ((w.alloc (.cells gr 41)).alloc (.cells #[.int .i64 f.kind, .int .i64 f.node, .int .i64 f.id, .slice a3 f.ops.length c3, .slice a4 f.deps.length c4, .slice a5 f.ats.length c5, .slice a6 f.vals.length c6] 43)).alloc (.cells zr 41)) := hW
  clear hgr hzr h hW
  go_enter Try.func20, Try.ntmps20
  go_upto_region 1 with (first
    | (refine wpList_alloc_as rfl 41 rfl zr hz0 ?_)
    | fail)
  rw [← HW.out]
  clear HW hz0
  go_wp2_with (refine wpList_load_row rfl 41 _ rfl w.heap.size rfl 41 gr (0, 0) _ r0 Try.underlying41 rfl hsg ?_)
  rw [HGR.out]
  refine (separate_any nv s W (HN.out.below hb)).mono ?_
  rintro r w1 ⟨nv1, rfl, hap, hb1⟩
  obtain ⟨fr, hfr⟩ : ∃ fr, fr = rowF 201 nv1 := ⟨_, rfl⟩
  rw [← hfr]
  have hsf : (Try.prog.info? 41).map (·.size) = some fr.size := by rw [hfr, rowF_size]; exact Try.infoNode
  have p0 : w1.heap[w.heap.size]? = some (.cells gr 41 (0, 0)) := by rw [hb1.block _ (by omega)]; exact r0
  have p1 : w1.heap[w.heap.size + 1]? = some (.cells #[.int .i64 f.kind, .int .i64 f.node, .int .i64 f.id, .slice a3 f.ops.length c3, .slice a4 f.deps.length c4, .slice a5 f.ats.length c5, .slice a6 f.vals.length c6] 43 (0, 0)) := by rw [hb1.block _ (by omega)]; exact r1
  have p2 : w1.heap[w.heap.size + 2]? = some (.cells zr 41 (0, 0)) := by rw [hb1.block _ (by omega)]; exact r2
  have hzs : gr.size = fr.size := by rw [hfr, HGR.out, rowF_size, rowF_size]
  have hzz : zr.size = fr.size := by rw [hfr, HZR.out, rowF_size, rowF_size]
  have hone : fr.all (·.oneCell') = true := by
    rw [hfr]
    exact rowF_all (NodeC.one (ok := fun _ => True) (w := w1) (s := s) ⟨hap.node.mono (fun _ _ _ => trivial), (IsI.of_owns hap.order hap.len).mono (fun _ _ _ => trivial)⟩)
  have hlen := hap.len
  have hz1 := hb1.size
  obtain ⟨X, hX⟩ : ∃ X, X = w1.setRow w.heap.size fr := ⟨_, rfl⟩
  have HA : Hid (NodeAt w.heap.size X nv1 s) := by rw [hX, hfr]; exact hap.into (by omega) (by omega) p0
  have hXw : Below w.heap.size w X := by rw [hX]; exact setRow_below (hb.trans (hb1.mono (by omega))) (Nat.le_refl _) _
  have hzX : w.heap.size + 3 ≤ X.heap.size := by rw [hX, size_setRow]; omega
  have x0 : X.heap[w.heap.size]? = some (.cells fr 41 (0, 0)) := by rw [hX]; exact heap_setRow p0
  have x1 : X.heap[w.heap.size + 1]? = some (.cells #[.int .i64 f.kind, .int .i64 f.node, .int .i64 f.id, .slice a3 f.ops.length c3, .slice a4 f.deps.length c4, .slice a5 f.ats.length c5, .slice a6 f.vals.length c6] 43 (0, 0)) := by rw [hX, setRow_other _ _ (by omega)]; exact p1
  have x2 : X.heap[w.heap.size + 2]? = some (.cells zr 41 (0, 0)) := by rw [hX, setRow_other _ _ (by omega)]; exact p2
  have HFR : Hid (fr = rowF 201 nv1) := hfr
  have HX : Hid (X = w1.setRow w.heap.size fr) := hX
  have HNC : Hid (NodeC (· < X.heap.size) X nv1 s) := by
    have h1 : Apart W.heap.size X nv1 s := by
      rw [hX]
      exact ⟨hap.node.later (fun b _ hb => setRow_other _ _ (by omega)), own_same hap.order (fun k hk => setRow_other _ _ (by have := (World.ownsRow.lt hap.order k hk).1; omega)), hap.hot, hap.len⟩
    exact ⟨h1.node.mono (fun _ hb _ => hb), (IsI.of_owns h1.order h1.len).mono (fun _ hb _ => hb)⟩
  clear hfr hX hap r0 r1 r2 hb1 p1 p2 hb
  go_upto_region 2 with (refine wpList_store_row rfl 41 _ _ rfl w.heap.size fr rfl rfl 41 _ p0 hsf hzs hone ?_)
  rw [← HX.out]
  clear HX p0
  go_wp2_with (first
    | (refine wpList_load_row rfl 41 _ rfl w.heap.size rfl 41 fr (0, 0) _ x0 Try.underlying41 rfl hsf ?_)
    | (refine wpList_load_row rfl 43 _ rfl (w.heap.size + 1) rfl 43 _ (0, 0) _ x1 Try.underlying43 rfl Try.infoFrame7 ?_))
  have hre := refusal_any nv1 s who _ f X HNC.out (HFV.out X hXw)
  rw [← HFR.out] at hre
  refine hre.mono ?_
  clear hre
  rintro r y ⟨rfl, hby⟩
  have HAy : Hid (NodeAt w.heap.size y nv1 s) := HA.out.later hby
  have hyw : Below w.heap.size w y := hXw.trans (hby.mono (by omega))
  have hzy : w.heap.size + 3 ≤ y.heap.size := by have := hby.size; omega
  have y0 : y.heap[w.heap.size]? = some (.cells fr 41 (0, 0)) := by rw [hby.block _ (by omega)]; exact x0
  have y1 : y.heap[w.heap.size + 1]? = some (.cells #[.int .i64 f.kind, .int .i64 f.node, .int .i64 f.id, .slice a3 f.ops.length c3, .slice a4 f.deps.length c4, .slice a5 f.ats.length c5, .slice a6 f.vals.length c6] 43 (0, 0)) := by rw [hby.block _ (by omega)]; exact x1
  have y2 : y.heap[w.heap.size + 2]? = some (.cells zr 41 (0, 0)) := by rw [hby.block _ (by omega)]; exact x2
  have qk : y.cell? ⟨w.heap.size + 1, 0, none⟩ = some (.int .i64 f.kind) := by rw [cell_of_row _ _ _ _ _ _ y1]; rfl
  clear hby HA hXw hzX x0 x1 x2 HNC
  by_cases t0 : reasonN s who f = 0
  · have d0 : (reasonN s who f != 0) = false := by simpa using t0
    have HT0 : Hid (reasonN s who f = 0) := t0
    clear t0
    by_cases tk : f.kind = 1
    · have dk : (f.kind == 1) = true := by simpa using tk
      have HTK : Hid (GoodN s ∧ goodL f = 0 ∧ f.node = who ∧ takeN s who f = (s.asked (ofL f.node) f, [⟨2, f.node, f.id, [], ((s.asked (ofL f.node) f).ent f.id.toNat).first, [], []⟩], 0)) := take_ask HT0.out tk
      have HLo : Hid ((s.asked (ofL f.node) f).order.length * 8 ≤ 140737488355328) := by
        unfold Hid
        have : (s.asked (ofL f.node) f).order = s.order := by unfold NodeL.asked; split <;> rfl
        rw [this]; exact hlen
      clear tk
      go_wp2_with (refine wpList_load_row rfl 43 _ rfl (w.heap.size + 1) rfl 43 _ (0, 0) _ y1 Try.underlying43 rfl Try.infoFrame7 ?_)
      refine (takeAsk_any w.heap.size nv1 s _ f y HAy.out HTK.out.1 (HFB.out.later hyw) HTK.out.2.1).mono ?_
      rintro r z ⟨x, mv, rfl, hat, hfs, hbz⟩
      obtain ⟨s1, hs1⟩ : ∃ s1, s1 = (takeN s who f).1 := ⟨_, rfl⟩
      obtain ⟨f1, hf1⟩ : ∃ f1, f1 = (takeN s who f).2.1 := ⟨_, rfl⟩
      have HS0 : Hid ((takeN s who f).2.2 = 0) := by unfold Hid; rw [reason_take]; exact HT0.out
      have HS1 : Hid (s1 = (takeN s who f).1) := hs1
      have HF1 : Hid (f1 = (takeN s who f).2.1) := hf1
      have hat : NodeAt w.heap.size z mv s1 := by rw [hs1, HTK.out.2.2.2]; exact hat
      have hfs : FramesV y.heap.size z x f1 := by rw [hf1, HTK.out.2.2.2]; exact hfs
      have hlo : s1.order.length * 8 ≤ 140737488355328 := by rw [hs1, HTK.out.2.2.2]; exact HLo.out
      obtain ⟨er, her⟩ : ∃ er, er = rowF 201 mv := ⟨_, rfl⟩
      have hse : (Try.prog.info? 41).map (·.size) = some er.size := by rw [her, rowF_size]; exact Try.infoNode
      have hze : zr.size = er.size := by rw [her, HZR.out, rowF_size, rowF_size]
      have honee : er.all (·.oneCell') = true := by rw [her]; exact rowF_all (NodeC.one (ok := fun _ => True) (w := z) (s := s1) ⟨hat.node.mono (fun _ _ _ => trivial), (IsI.of_owns hat.order hlo).mono (fun _ _ _ => trivial)⟩)
      obtain ⟨tz, z0⟩ := hat.blk
      rw [← her] at z0
      have z2 : z.heap[w.heap.size + 2]? = some (.cells zr 41 (0, 0)) := by rw [hbz.block _ (by omega) (by omega)]; exact y2
      have HF : Hid (NodeC (w.heap.size < ·) (z.setRow (w.heap.size + 2) er) mv s1) := (hat.out hlo er).mono (fun b _ hb => by omega)
      have HFS : Hid (FramesV w.heap.size (z.setRow (w.heap.size + 2) er) x f1) := (hfs.same (fun b _ hb => setRow_other _ _ (by omega))).mono (by omega)
      have hzf : Below w.heap.size w (z.setRow (w.heap.size + 2) er) := setRow_below (hyw.trans hbz.below) (by omega) _
      have HER : Hid (er = rowF 201 mv) := her
      clear hs1 hf1 hat hfs her HAy hyw hbz HTK HLo
      go_wp2_with (first
        | (refine wpList_load_row rfl 41 _ rfl w.heap.size rfl tz er (0, 0) _ z0 Try.underlying41 rfl hse ?_)
        | (refine wpList_store_row rfl 41 _ _ rfl (w.heap.size + 2) er rfl rfl 41 _ z2 hse hze honee ?_))
      refine bodyPost_ret (v := .tuple #[.agg er, x, .int .i64 0]) (results_row2 Try.results20 _ _ (w.heap.size + 2) 41 er (0, 0) _ rfl (heap_setRow z2) Try.underlying41 rfl hse _ _ rfl rfl) rfl ⟨mv, _, by rw [HER.out, HS0.out], by rw [← HS1.out]; exact HF.out, by rw [← HF1.out]; exact HFS.out, hzf⟩
    · have dk : (f.kind == 1) = false := by simpa using tk
      have HTK : Hid (GoodN s ∧ goodL f = 0 ∧ f.node = who ∧ f.kind = 3 ∧ takeN s who f = (s.commit (ofL f.node) f, (s.commit (ofL f.node) f).answers (ofL f.node) f.node f.id, 0)) := take_com HT0.out tk
      have HLo : Hid ((s.commit (ofL f.node) f).order.length * 8 ≤ 140737488355328) := by
        unfold Hid
        have := (good_commit HTK.out.1 (ofL f.node) HTK.out.2.1 HTK.out.2.2.2.1).len
        omega
      clear tk
      go_wp2_with (refine wpList_load_row rfl 43 _ rfl (w.heap.size + 1) rfl 43 _ (0, 0) _ y1 Try.underlying43 rfl Try.infoFrame7 ?_)
      refine (takeCommit_any w.heap.size nv1 s _ f y HAy.out HTK.out.1 (HFB.out.later hyw) HTK.out.2.1 HTK.out.2.2.2.1).mono ?_
      rintro r z ⟨x, mv, rfl, hat, hfs, hbz⟩
      obtain ⟨s1, hs1⟩ : ∃ s1, s1 = (takeN s who f).1 := ⟨_, rfl⟩
      obtain ⟨f1, hf1⟩ : ∃ f1, f1 = (takeN s who f).2.1 := ⟨_, rfl⟩
      have HS0 : Hid ((takeN s who f).2.2 = 0) := by unfold Hid; rw [reason_take]; exact HT0.out
      have HS1 : Hid (s1 = (takeN s who f).1) := hs1
      have HF1 : Hid (f1 = (takeN s who f).2.1) := hf1
      have hat : NodeAt w.heap.size z mv s1 := by rw [hs1, HTK.out.2.2.2.2]; exact hat
      have hfs : FramesV y.heap.size z x f1 := by rw [hf1, HTK.out.2.2.2.2]; exact hfs
      have hlo : s1.order.length * 8 ≤ 140737488355328 := by rw [hs1, HTK.out.2.2.2.2]; exact HLo.out
      obtain ⟨er, her⟩ : ∃ er, er = rowF 201 mv := ⟨_, rfl⟩
      have hse : (Try.prog.info? 41).map (·.size) = some er.size := by rw [her, rowF_size]; exact Try.infoNode
      have hze : zr.size = er.size := by rw [her, HZR.out, rowF_size, rowF_size]
      have honee : er.all (·.oneCell') = true := by rw [her]; exact rowF_all (NodeC.one (ok := fun _ => True) (w := z) (s := s1) ⟨hat.node.mono (fun _ _ _ => trivial), (IsI.of_owns hat.order hlo).mono (fun _ _ _ => trivial)⟩)
      obtain ⟨tz, z0⟩ := hat.blk
      rw [← her] at z0
      have z2 : z.heap[w.heap.size + 2]? = some (.cells zr 41 (0, 0)) := by rw [hbz.block _ (by omega) (by omega)]; exact y2
      have HF : Hid (NodeC (w.heap.size < ·) (z.setRow (w.heap.size + 2) er) mv s1) := (hat.out hlo er).mono (fun b _ hb => by omega)
      have HFS : Hid (FramesV w.heap.size (z.setRow (w.heap.size + 2) er) x f1) := (hfs.same (fun b _ hb => setRow_other _ _ (by omega))).mono (by omega)
      have hzf : Below w.heap.size w (z.setRow (w.heap.size + 2) er) := setRow_below (hyw.trans hbz.below) (by omega) _
      have HER : Hid (er = rowF 201 mv) := her
      clear hs1 hf1 hat hfs her HAy hyw hbz HTK HLo
      go_wp2_with (first
        | (refine wpList_load_row rfl 41 _ rfl w.heap.size rfl tz er (0, 0) _ z0 Try.underlying41 rfl hse ?_)
        | (refine wpList_store_row rfl 41 _ _ rfl (w.heap.size + 2) er rfl rfl 41 _ z2 hse hze honee ?_))
      refine bodyPost_ret (v := .tuple #[.agg er, x, .int .i64 0]) (results_row2 Try.results20 _ _ (w.heap.size + 2) 41 er (0, 0) _ rfl (heap_setRow z2) Try.underlying41 rfl hse _ _ rfl rfl) rfl ⟨mv, _, by rw [HER.out, HS0.out], by rw [← HS1.out]; exact HF.out, by rw [← HF1.out]; exact HFS.out, hzf⟩
  · have d0 : (reasonN s who f != 0) = true := by simpa using t0
    have HT : Hid (takeN s who f = (s, [], reasonN s who f)) := take_not t0
    clear t0
    have HF : Hid (NodeC (w.heap.size < ·) (y.setRow (w.heap.size + 2) fr) nv1 s) := (HAy.out.out hlen fr).mono (fun b _ hb => by omega)
    have hyf : Below w.heap.size w (y.setRow (w.heap.size + 2) fr) := setRow_below hyw (by omega) _
    clear HAy hyw
    go_wp2_with (first
      | (refine wpList_load_row rfl 41 _ rfl w.heap.size rfl 41 fr (0, 0) _ y0 Try.underlying41 rfl hsf ?_)
      | (refine wpList_store_row rfl 41 _ _ rfl (w.heap.size + 2) fr rfl rfl 41 _ y2 hsf hzz hone ?_))
    refine bodyPost_ret (v := .tuple #[.agg fr, .slice none 0 0, .int .i64 (reasonN s who f)]) (results_row2 Try.results20 _ _ (w.heap.size + 2) 41 fr (0, 0) _ rfl (heap_setRow y2) Try.underlying41 rfl hsf _ _ rfl rfl) rfl ⟨nv1, _, by rw [HFR.out, HT.out], by rw [HT.out]; exact HF.out, by rw [HT.out]; exact FramesV.nil _ _, hyf⟩

theorem take_any (nv : Nat → Value) (s : NodeL) (who : Int) (v : Value) (f : FrameL) (w : World) (h : NodeC (· < w.heap.size) w nv s) (hf : FrameV w v f) :
    Calls Try.prog 20 #[.agg (rowF 201 nv), .int .i64 who, v] w fun r w' => ∃ nv' x, r = .returned (.tuple #[.agg (rowF 201 nv'), x, .int .i64 (takeN s who f).2.2]) ∧ NodeC (· < w'.heap.size) w' nv' (takeN s who f).1 ∧
      FramesV w.heap.size w' x (takeN s who f).2.1 ∧ Below w.heap.size w w' := by
  refine (take_new nv s who v f w h hf).mono ?_
  rintro r w' ⟨nv', x, e, h1, h2⟩
  exact ⟨nv', x, e, h1.any, h2⟩

end Go.Proofs.Ytgdkjjmnoikhdab

namespace Go.Proofs.Ytgdkjjmnoikhdab
open Go.RowKit

def takesF : FrameL := ⟨3, 3, 4, [(2, 1, 9)], [], [], []⟩
theorem takes_ok : (takeN zeroN 3 takesF).2.2 = 0 := by decide +kernel
theorem takes_len : (takeN zeroN 3 takesF).2.1.length = 2 := by decide +kernel
theorem takes_val : (takeN zeroN 3 takesF).1.vals 1 = 9 := by decide +kernel
theorem takes_ord : (takeN zeroN 3 takesF).1.order.length = 1 := by decide +kernel
theorem Try.zcNode : Try.zeroCells41 = rowF 201 zv := by kernel_rfl

theorem takes_call (W : World) (cs : Array Value) (h : FrameV W (.agg cs) takesF) : ∃ T : NodeL × List FrameL × Int, T.2.2 = 0 ∧ T.2.1.length = 2 ∧ T.1.vals 1 = 9 ∧ T.1.order.length = 1 ∧
    Calls Try.prog 20 #[.agg (rowF 201 zv), .int .i64 3, .agg cs] W fun r w' => ∃ nv' x, r = .returned (.tuple #[.agg (rowF 201 nv'), x, .int .i64 T.2.2]) ∧ NodeC (· < w'.heap.size) w' nv' T.1 ∧ FramesV W.heap.size w' x T.2.1 ∧ Below W.heap.size W w' :=
  ⟨takeN zeroN 3 takesF, takes_ok, takes_len, takes_val, takes_ord, take_any zv zeroN 3 _ takesF W (zero_node _ _) h⟩

end Go.Proofs.Ytgdkjjmnoikhdab

namespace Go.Proofs.Ytgdkjjmnoikhdab
open Go.RowKit

theorem heap_new2 (w : World) (o p : Obj) : ((w.alloc o).alloc p).heap[w.heap.size + 1]? = some p := by
  have := heap_new (w.alloc o) p
  rwa [alloc_size] at this
end Go.Proofs.Ytgdkjjmnoikhdab

namespace Go.Proofs.Ytgdkjjmnoikhdab
open Go.RowKit
attribute [local go_sem ↓] Go.wp_at_zero Go.wp_at_succ

set_option maxRecDepth 100000 in
set_option maxHeartbeats 1000000 in
theorem frame_any (c : Nat) (r : Rd) (w : World) (hr : RdAt w c r) :
    Calls Try.prog 85 #[.pointer (some ⟨c, 0, none⟩)] w fun e w' => ∃ v, e = .returned v ∧ FrameV w' v r.frame ∧ RdAt w' c r.end_ ∧ w.grownBy w' (some c) ∧ FarV w.heap.size v := by
  have hc := hr.lt
  obtain ⟨io, hio, oz0, oz1, oz2⟩ := info_parts Try.infoOp
  obtain ⟨i0, hi0, iz0, iz1, iz2⟩ := info_parts Try.infoInt
  go_enter Try.func85, Try.ntmps85
  go_wp2_with fail
  refine (small_any c r _ (hr.alloc _)).mono ?_
  rintro e w1 ⟨rfl, hr1, hb1⟩
  go_wp2_with fail
  refine (small_any c r.next _ hr1).mono ?_
  rintro e w2 ⟨rfl, hr2, hb2⟩
  go_wp2_with fail
  refine (small_any c r.next.next _ hr2).mono ?_
  rintro e w3 ⟨rfl, hr3, hb3⟩
  have F0 := Fr.start hr3 ((hb1.trans hb2).trans hb3) hc r.one r.next.one r.next.next.one
  clear hr1 hr2 hr3 hb1 hb2 hb3
  go_wp2_with fail
  generalize hB : w3.heap.size = B3 at *
  refine (small_any c r.r1 _ F0.rd).mono ?_
  rintro e w4 ⟨rfl, hr4, hb4⟩
  have F1 := F0.small hr4 hb4
  have lB : w.heap.size < B3 := F1.l3
  have hcB : c < B3 + 1 := by omega
  clear hr4 hb4 F0 hB
  have n1 : r.r1.one = ((r.r1.one.toNat : Nat) : Int) := by have := r.r1.one_lo; omega
  have n2 : r.r1.one.toNat < 256 := by have := r.r1.one_hi; omega
  have HO : Hid (Rd.ops r.r1.one.toNat r.r1.next = r.o1) := rfl
  rw [n1]
  clear n1
  generalize r.r1.one.toNat = n at *
  go_wp2_with fail
  go_loopw [13] (fun i wr => ∃ (k : Nat) (zs : List OpL) (rk : Rd) (v3 : Value), k ≤ n ∧ i = .int .i64 k ∧ zs.length = k ∧ Hid (r.o1 = (zs ++ (Rd.ops (n - k) rk).1, (Rd.ops (n - k) rk).2)) ∧
      Fr w c w.heap.size B3 r.one r.next.one r.next.next.one wr rk v3 (.slice none 0 0) (.slice none 0 0) (.slice none 0 0) ∧ wr.ownsRow (B3 + 1) 88 3 v3 k (opsCells zs)) (fun i _ => n - (intOf i).toNat)
  case atStart => exact ⟨0, [], r.r1.next, _, Nat.zero_le _, rfl, rfl, by unfold Hid; rw [← HO.out]; rfl, F1, World.ownsRow_nil _ _ _ _⟩
  case round =>
    obtain ⟨k, zs, rk, v3, hk, rfl, hzk, HR, F, hown⟩ := hrel
    have q3 := F.f.cell.2.2.2.1
    have z3 := F.f.frozen 3
    by_cases hlt : k < n
    · go_wp2_with fail
      go_region_law
        ((first
          | (go_simp; go_at_call 101; refine (small_any c rk _ ?_).mono ?_; exact F.drew.rd; rintro e x2 ⟨rfl, hr2, hb2⟩; have F2 := F.drew.small hr2 hb2; have hown2 := own_small hown.drew hb2 hcB; have q2 := F2.f.cell.2.2.2.1)
          | (go_simp; go_at_call 101; refine (small_any c rk.next _ ?_).mono ?_; exact F2.rd; rintro e x3 ⟨rfl, hr3, hb3⟩; have F3 := F2.small hr3 hb3; have hown3 := own_small hown2 hb3 hcB; have q3' := F3.f.cell.2.2.2.1)
          | (go_simp; go_at_call 102; refine (wide_any c rk.next.next _ ?_).mono ?_; exact F3.rd; rintro e x4 ⟨rfl, hr4, hb4⟩; have F4 := F3.small hr4 hb4; have hown4 := own_small hown3 hb4 hcB; have q4 := F4.f.cell.2.2.2.1; have q4a := fun o => (F4.alloc o).f.cell.2.2.2.1)
          | (refine step_append_lies _ (by rfl) _ _ _ (by rfl) (B3 + 1) 88 io _ 3 24 Try.underlying35 hio oz0 oz1 oz2 rfl (by decide) v3 k (opsCells zs) (by rfl) (hown4.alloc _)
              ⟨x4.heap.size, 0, none⟩ 1 1 (opCells (rk.one, rk.next.one, rk.next.next.wide)) (by rfl) (by rfl) (World.news_of_block (cs := #[.int .i64 rk.one, .int .i64 rk.next.one, .int .i64 rk.next.next.wide]) (t := 88) (fr := (0, 0)) (heap_new x4 _)) ?_
              (by decide) ?_ ?_ ?_ (x4.heap.size + 1) ?_ ?_
             exact one_op _
             exact len_ok hlt n2
             exact len24_ok hlt n2
             exact lt_ok F4.f.lt
             exact alloc_size _ _
             intro gg cap x5 hown5 hgrow hat hlt5
             have F5 := F4.after hown4 hgrow
             have q5 := F5.f.cell.2.2.2.1
             have z5 := F5.f.frozen 3)
          ))
      all_goals
        go_wp2
        go_roundw
        case rel =>
          exact ⟨k + 1, zs ++ [(rk.one, rk.next.one, rk.next.next.wide)], rk.next.next.next6, _, by omega, by go_num, by simp [hzk], ops_go hlt HR, F5.put3 _, by rw [opsCells_snoc]; exact ownsRow_setCell_below hown5 (by simp) _⟩
        case measure => simp [intOf]; omega
    · have E1 : Hid (r.o1 = (zs, rk)) := ops_end hlt HR
      have E2 : Hid (r.d1 = Rd.nums rk.one.toNat rk.next) := d1_start E1.out
      have ek : k = n := by omega
      have hlz : zs.length = n := by omega
      subst ek
      clear HR HO hk hlt q3 z3
      obtain ⟨wo, hwo⟩ : ∃ wo, wo = wr := ⟨_, rfl⟩
      subst hwo
      go_wp2_with fail
      refine (small_any c rk _ F.rd).mono ?_
      rintro e w5 ⟨rfl, hr5, hb5⟩
      have G0 := F.small hr5 hb5
      have own3 := own_small hown hb5 hcB
      have m1 : rk.one = ((rk.one.toNat : Nat) : Int) := by have := rk.one_lo; omega
      have m2 : rk.one.toNat < 256 := by have := rk.one_hi; omega
      rw [m1]
      clear m1 hr5 hb5 F hown
      generalize rk.one.toNat = m at *
      have lb : B3 + 1 ≤ w5.heap.size := G0.f.lt
      have lv3 : ∀ k, v3.ownBlock = some k → k < w5.heap.size := fun k h => (own3.lt k h).2
      obtain ⟨b4, hb4⟩ : ∃ b4, b4 = w5.heap.size := ⟨_, rfl⟩
      rw [← hb4] at lb lv3
      have hb4' : b4 ≤ w5.heap.size := by omega
      have hcb : c < b4 := by omega
      clear hb4
      go_wp2_with fail
      go_loopw [30] (fun i wr => ∃ (k : Nat) (ds : List Int) (rk : Rd) (v4 : Value), k ≤ m ∧ i = .int .i64 k ∧ ds.length = k ∧ Hid (r.d1 = (ds ++ (Rd.nums (m - k) rk).1, (Rd.nums (m - k) rk).2)) ∧
          Fr w c w.heap.size B3 r.one r.next.one r.next.next.one wr rk v3 v4 (.slice none 0 0) (.slice none 0 0) ∧ wr.ownsRow b4 3 1 v4 k (intCells ds) ∧ wr.ownsRow (B3 + 1) 88 3 v3 zs.length (opsCells zs) ∧ b4 ≤ wr.heap.size) (fun i _ => m - (intOf i).toNat)
      case atStart => exact ⟨0, [], rk.next, _, Nat.zero_le _, rfl, rfl, by unfold Hid; rw [E2.out]; rfl, G0, World.ownsRow_nil _ _ _ _, by rw [hlz]; exact own3, hb4'⟩
      case round =>
        obtain ⟨k2, ds, rk2, v4, hk, rfl, hzk2, HR, F, hown4, hown3, hbs⟩ := hrel
        have q3 := F.f.cell.2.2.2.2.1
        have z3 := F.f.frozen 4
        by_cases hlt : k2 < m
        · go_wp2_with fail
          go_region_law
            ((first
              | (go_simp; go_at_call 101; refine (small_any c rk2 _ ?_).mono ?_; exact F.drew.rd; rintro e x2 ⟨rfl, hr2, hb2⟩; have F2 := F.drew.small hr2 hb2; have hown2 := own_small hown4.drew hb2 hcb; have hown2' := own_small hown3.drew hb2 hcB; have q2 := F2.f.cell.2.2.2.2.1; have q2a := fun o => (F2.alloc o).f.cell.2.2.2.2.1; have lb2 := le_small hbs hb2)
              | (refine step_append_lies _ (by rfl) _ _ _ (by rfl) b4 3 i0 _ 1 8 Try.underlying23 hi0 iz0 iz1 iz2 rfl (by decide) v4 k2 (intCells ds) (by rfl) (hown2.alloc _)
                  ⟨x2.heap.size, 0, none⟩ 1 1 [.int .i64 rk2.one] (by rfl) (by rfl) (World.news_of_block (cs := #[.int .i64 rk2.one]) (t := 3) (fr := (0, 0)) (heap_new x2 _)) ?_
                  (by decide) ?_ ?_ ?_ (x2.heap.size + 1) ?_ ?_
                 exact one_int _
                 exact len_ok hlt m2
                 exact len8_ok hlt m2
                 exact le_alloc lb2
                 exact alloc_size _ _
                 intro gg cap x5 hown5 hgrow hat hlt5
                 have F5 := F2.after (own_mono hown2 lb) hgrow
                 have hown6 := own_far hown2' lv3 hown2 hgrow
                 have q5 := F5.f.cell.2.2.2.2.1
                 have z5 := F5.f.frozen 4)))
          all_goals
            go_wp2
            go_roundw
            case rel =>
              exact ⟨k2 + 1, ds ++ [rk2.one], rk2.next, _, by omega, by go_num, by simp [hzk2], nums_go hlt HR, F5.put4 _, by rw [intCells_snoc]; exact own_put hown5 (by omega), own_put hown6 (by omega), le_put (le_grown lb2 hgrow)⟩
            case measure => simp [intOf]; omega
        · have E3 : Hid (r.d1 = (ds, rk2)) := nums_end hlt HR
          have E4 : Hid (r.t1 = Rd.told rk2.one.toNat rk2.next) := t1_start E3.out
          have ek : k2 = m := by omega
          have hld : ds.length = m := by omega
          subst ek
          clear HR hk hlt q3 z3
          obtain ⟨wo2, hwo2⟩ : ∃ wo2, wo2 = wr := ⟨_, rfl⟩
          subst hwo2
          go_wp2_with fail
          refine (small_any c rk2 _ F.rd).mono ?_
          rintro e w6 ⟨rfl, hr6, hb6⟩
          have I0 := F.small hr6 hb6
          have own3' := own_small hown3 hb6 hcB
          have own4 := own_small hown4 hb6 hcb
          have m1 : rk2.one = ((rk2.one.toNat : Nat) : Int) := by have := rk2.one_lo; omega
          have p2 : rk2.one.toNat < 256 := by have := rk2.one_hi; omega
          rw [m1]
          have lb5 : b4 ≤ w6.heap.size := by rw [hb6.size]; exact hbs
          clear m1 hr6 hb6 F hown4 hown3 G0
          generalize rk2.one.toNat = p at *
          have lv3' : ∀ k, v3.ownBlock = some k → k < w6.heap.size := fun k h => (own3'.lt k h).2
          have lv4 : ∀ k, v4.ownBlock = some k → k < w6.heap.size := fun k h => (own4.lt k h).2
          obtain ⟨b5, hb5⟩ : ∃ b5, b5 = w6.heap.size := ⟨_, rfl⟩
          rw [← hb5] at lv3' lv4 lb5
          have hb5' : b5 ≤ w6.heap.size := by omega
          have hcb5 : c < b5 := by omega
          have hBb5 : B3 + 1 ≤ b5 := by omega
          clear hb5
          go_wp2_with fail
          go_loopw [42] (fun i wr => ∃ (k : Nat) (xs ys : List Int) (rk : Rd) (v5 v6 : Value), k ≤ p ∧ i = .int .i64 k ∧ xs.length = k ∧ ys.length = k ∧ Hid (r.t1 = (xs ++ (Rd.told (p - k) rk).1, ys ++ (Rd.told (p - k) rk).2.1, (Rd.told (p - k) rk).2.2)) ∧
              Fr w c w.heap.size B3 r.one r.next.one r.next.next.one wr rk v3 v4 v5 v6 ∧ wr.ownsRow b5 3 1 v5 k (intCells xs) ∧ wr.ownsRow b5 3 1 v6 k (intCells ys) ∧ (∀ k, v5.ownBlock = some k → v6.ownBlock ≠ some k) ∧
              wr.ownsRow b4 3 1 v4 ds.length (intCells ds) ∧ wr.ownsRow (B3 + 1) 88 3 v3 zs.length (opsCells zs) ∧ b5 ≤ wr.heap.size) (fun i _ => p - (intOf i).toNat)
          case atStart => exact ⟨0, [], [], rk2.next, _, _, Nat.zero_le _, rfl, rfl, rfl, by unfold Hid; rw [E4.out]; rfl, I0, World.ownsRow_nil _ _ _ _, World.ownsRow_nil _ _ _ _, by simp [Value.ownBlock], by rw [hld]; exact own4, own3', hb5'⟩
          case round =>
            obtain ⟨k3, xs, ys, rk3, v5, v6, hk, rfl, hx3, hy3, HR, F, hown5, hown6, hap, hown4, hown3, hbs5⟩ := hrel
            have q3 := F.f.cell.2.2.2.2.2.1
            have z3 := F.f.frozen 5
            have HQ : Hid (∀ k, v5.ownBlock = some k → v6.ownBlock ≠ some k) := hap
            clear hap
            by_cases hlt : k3 < p
            · go_wp2_with fail
              go_region_law
                ((first
                  | (go_simp; go_at_call 101; refine (small_any c rk3 _ ?_).mono ?_; exact F.drew.rd; rintro e x2 ⟨rfl, hr2, hb2⟩; have F2 := F.drew.small hr2 hb2; have hown2 := own_small hown5.drew hb2 hcb5; have hown2c := own_small hown6.drew hb2 hcb5; have hown2b := own_small hown4.drew hb2 hcb; have hown2a := own_small hown3.drew hb2 hcB; have q2 := F2.f.cell.2.2.2.2.2.1; have q2a := fun o => (F2.alloc o).f.cell.2.2.2.2.2.1; have lb2 := le_small hbs5 hb2)
                  | (refine step_append_lies _ (by rfl) _ _ _ (by rfl) b5 3 i0 _ 1 8 Try.underlying23 hi0 iz0 iz1 iz2 rfl (by decide) v5 k3 (intCells xs) (by rfl) (hown2.alloc _)
                      ⟨x2.heap.size, 0, none⟩ 1 1 [.int .i64 rk3.one] (by rfl) (by rfl) (World.news_of_block (cs := #[.int .i64 rk3.one]) (t := 3) (fr := (0, 0)) (heap_new x2 _)) ?_
                      (by decide) ?_ ?_ ?_ (x2.heap.size + 1) ?_ ?_
                     exact one_int _
                     exact len_ok hlt p2
                     exact len8_ok hlt p2
                     exact le_alloc lb2
                     exact alloc_size _ _
                     intro gg cap x5 hown7 hgrow hat hlt5
                     have F5 := F2.after (own_mono hown2 hBb5) hgrow
                     have hown7a := own_far hown2a lv3' hown2 hgrow
                     have hown7b := own_far hown2b lv4 hown2 hgrow
                     have hown7c := own_apart hown2c HQ.out hgrow
                     have HG : Hid (v6.ownBlock ≠ some gg) := apart_new HQ.out hown2c hat
                     have lb7 := le_grown lb2 hgrow
                     have q5 := F5.f.cell.2.2.2.2.2.1
                     have z5 := F5.f.frozen 5
                     clear hgrow hat HQ)))
              all_goals
                have F6 := F5.put5 (.slice (some ⟨gg, 0, none⟩) (k3 + 1) cap)
                have o7 := own_put (c := B3) (o := 5) (u := .slice (some ⟨gg, 0, none⟩) (k3 + 1) cap) hown7 (by omega)
                have o7a := own_put (c := B3) (o := 5) (u := .slice (some ⟨gg, 0, none⟩) (k3 + 1) cap) hown7a (by omega)
                have o7b := own_put (c := B3) (o := 5) (u := .slice (some ⟨gg, 0, none⟩) (k3 + 1) cap) hown7b (by omega)
                have o7c := own_put (c := B3) (o := 5) (u := .slice (some ⟨gg, 0, none⟩) (k3 + 1) cap) hown7c (by omega)
                have l7 := le_put (a := ⟨B3, 5, none⟩) (v := .slice (some ⟨gg, 0, none⟩) (k3 + 1) cap) lb7
                clear hown7 hown7a hown7b hown7c lb7 hown2 hown2a hown2b hown2c q2 q2a q5 z5 F5 F2 hr2 hb2 hown5 hown6 hown4 hown3 q3 z3 F
                go_wp2_with fail
                generalize x5.setCell ⟨B3, 5, none⟩ (.slice (some ⟨gg, 0, none⟩) (k3 + 1) cap) = x6 at *
                have q3 := F6.f.cell.2.2.2.2.2.2
                have z3 := F6.f.frozen 6
                go_region_law
                  ((first
                    | (go_simp; go_at_call 102; refine (wide_any c rk3.next _ ?_).mono ?_; exact F6.drew.rd; rintro e x7 ⟨rfl, hr2, hb2⟩; have F2 := F6.drew.small hr2 hb2; have hown2 := own_small o7.drew hb2 hcb5; have hown2c := own_small o7c.drew hb2 hcb5; have hown2b := own_small o7b.drew hb2 hcb; have hown2a := own_small o7a.drew hb2 hcB; have q2 := F2.f.cell.2.2.2.2.2.2; have q2a := fun o => (F2.alloc o).f.cell.2.2.2.2.2.2; have lb7 := le_small l7 hb2)
                    | (refine step_append_lies _ (by rfl) _ _ _ (by rfl) b5 3 i0 _ 1 8 Try.underlying23 hi0 iz0 iz1 iz2 rfl (by decide) v6 k3 (intCells ys) (by rfl) (hown2c.alloc _)
                        ⟨x7.heap.size, 0, none⟩ 1 1 [.int .i64 rk3.next.wide] (by rfl) (by rfl) (World.news_of_block (cs := #[.int .i64 rk3.next.wide]) (t := 3) (fr := (0, 0)) (heap_new x7 _)) ?_
                        (by decide) ?_ ?_ ?_ (x7.heap.size + 1) ?_ ?_
                       exact one_int _
                       exact len_ok hlt p2
                       exact len8_ok hlt p2
                       exact le_alloc lb7
                       exact alloc_size _ _
                       intro gh cap2 x8 hown8 hgrow hat hlt8
                       have F8 := F2.after (own_mono hown2c hBb5) hgrow
                       have hown8a := own_far hown2a lv3' hown2c hgrow
                       have hown8b := own_far hown2b lv4 hown2c hgrow
                       have hown8c := own_apart hown2 (apart_flip HG.out) hgrow
                       have HA : Hid (∀ k, (Value.slice (some ⟨gg, 0, none⟩) (k3 + 1) cap).ownBlock = some k → (Value.slice (some ⟨gh, 0, none⟩) (k3 + 1) cap2).ownBlock ≠ some k) := apart_both HG.out hown2 hat
                       have lb8 := le_grown lb7 hgrow
                       have q5 := F8.f.cell.2.2.2.2.2.2
                       have z5 := F8.f.frozen 6
                       clear hgrow hat HG)))
                all_goals
                  go_wp2
                  go_roundw
                  case rel =>
                    exact ⟨k3 + 1, xs ++ [rk3.one], ys ++ [rk3.next.wide], rk3.next.next6, _, _, by omega, by go_num, by simp [hx3], by simp [hy3], told_go hlt HR, F8.put6 _, by rw [intCells_snoc]; exact own_put hown8c (by omega), by rw [intCells_snoc]; exact own_put hown8 (by omega), HA.out, own_put hown8b (by omega), own_put hown8a (by omega), le_put lb8⟩
                  case measure => simp [intOf]; omega
            · have E5 : Hid (r.t1 = (xs, ys, rk3)) := told_end hlt HR
              have hlx : xs.length = p := by omega
              have hly : ys.length = p := by omega
              obtain ⟨a3, c3, f3, n3, o3⟩ := own_form hown3
              obtain ⟨a4, c4, f4, n4, o4⟩ := own_form hown4
              obtain ⟨a5, c5, f5, n5, o5⟩ := own_form hown5
              obtain ⟨a6, c6, f6, n6, o6⟩ := own_form hown6
              subst f3 f4 f5 f6
              obtain ⟨q0, q1, q2, q3, q4, q5, q6⟩ := F.f.cell
              obtain ⟨g0, g1, g2, g3, g4, g5, g6⟩ := F.z.cell
              have y0 := F.z.frozen 0
              have y1 := F.z.frozen 1
              have y2 := F.z.frozen 2
              have y3 := F.z.frozen 3
              have y4 := F.z.frozen 4
              have y5 := F.z.frozen 5
              have y6 := F.z.frozen 6
              have HG : Hid _ := (frame_fin F hown3 hown4 hown5 hown6 (by omega) (by omega) hx3 hy3 E1.out E3.out E5.out (x0 := .int .i64 r.one) (x1 := .int .i64 r.next.one) (x2 := .int .i64 r.next.next.one) (x3 := .slice a3 zs.length c3) (x4 := .slice a4 ds.length c4) (x5 := .slice a5 k3 c5) (x6 := .slice a6 k3 c6))
              go_wp2
              refine bodyPost_ret (v := .agg #[.int .i64 r.one, .int .i64 r.next.one, .int .i64 r.next.next.one, .slice a3 k c3, .slice a4 k2 c4, .slice a5 k3 c5, .slice a6 k3 c6]) (by simp [results, Try.results85, go_sem, *]) rfl ⟨_, rfl, ?_⟩
              have H := HG.out
              rw [hlz, hld] at H
              exact H

end Go.Proofs.Ytgdkjjmnoikhdab
