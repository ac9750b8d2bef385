/-
  The document's own TakeFrame: an Ask.
-/
import Derived.Test.YtkoefoccbjhoiabNtk18
namespace Go.Proofs.Ytkoefoccbjhoiab
open Go.RowKit

set_option maxRecDepth 100000 in
set_option maxHeartbeats 40000000 in
theorem takeFrame_ask (lo : Nat) (nv : Nat → Value) (s : NodeL) (who : Int) (v : Value) (f : FrameL) (w : World) (hlw : lo ≤ w.heap.size) (h : NodeC (fun b => lo ≤ b ∧ b < w.heap.size) w nv s) (hf : FrameV w v f) (hfar : FarV lo v) (hok : ¬ (goodNB s = false ∨ who < 0 ∨ 5 < who ∨ f.node ≠ who)) (hgf : goodL f = 0) (hkd : f.kind = 1) :
    Calls Try.prog 24 #[.agg (rowF 201 nv), .int .i64 who, v] w fun r w' => ∃ nv' x, r = .returned (.tuple #[.agg (rowF 201 nv'), x, .int .i64 (takeN s who f).2.2]) ∧ NodeC (lo ≤ ·) w' nv' (takeN s who f).1 ∧
      FramesV 0 w' x (takeN s who f).2.1 ∧ Below w.heap.size w w' := by
  have hLW := hlw
  have HKD : Hid (f.kind = 1) := hkd
  have HGF0 : Hid (goodL f = 0) := hgf
  clear hkd hgf
  obtain ⟨gr, hgr⟩ : ∃ gr, gr = rowF 201 nv := ⟨_, rfl⟩
  obtain ⟨zr, hzr⟩ : ∃ zr, zr = rowF 201 zv := ⟨_, rfl⟩
  have hz0 := Try.zeroNode
  rw [← hzr] at hz0
  have hsg : (Try.prog.info? 41).map (·.size) = some gr.size := by rw [hgr, rowF_size]; exact Try.infoNode
  have hzg : zr.size = gr.size := by rw [hgr, hzr, rowF_size, rowF_size]
  have hog : gr.all (·.oneCell') = true := by rw [hgr]; exact rowF_all h.one
  rw [← hgr]
  have HGR : Hid (gr = rowF 201 nv) := hgr
  have HZR : Hid (zr = rowF 201 zv) := hzr
  have HN : Hid (NodeC (fun b => lo ≤ b ∧ b < w.heap.size) w nv s) := h
  have HFB : Hid (FrameB w.heap.size w v f) := hf.b
  have HFV : Hid (∀ x, Below w.heap.size w x → FrameV x v f) := fun x hx => (hf.b.later hx).v
  obtain ⟨a3, c3, a4, c4, a5, c5, a6, c6, rfl, H3, H4, _, _⟩ := hf.b
  have HF3 : Hid (SlOps w a3 c3 f.ops ∧ OpsIn (fun b => lo ≤ b ∧ b < w.heap.size) w a3 f.ops) := ⟨H3.1, ops_far H3.2 (fun x e => hfar _ rfl 3 x f.ops.length c3 (by rw [e]; rfl))⟩
  have HF4 : Hid (SlInts w a4 c4 f.deps ∧ IntsIn (fun b => lo ≤ b ∧ b < w.heap.size) w a4 f.deps) := ⟨H4.1, ints_far H4.2 (fun x e => hfar _ rfl 4 x f.deps.length c4 (by rw [e]; rfl))⟩
  obtain ⟨W, hW⟩ : ∃ W, W = ((w.alloc (.cells gr 41)).alloc (.cells #[.int .i64 f.kind, .int .i64 f.node, .int .i64 f.id, .slice a3 f.ops.length c3, .slice a4 f.deps.length c4, .slice a5 f.ats.length c5, .slice a6 f.vals.length c6] 43)).alloc (.cells zr 41) := ⟨_, rfl⟩
  obtain ⟨r0, r1, r2⟩ := rows3 w (.cells gr 41) (.cells #[.int .i64 f.kind, .int .i64 f.node, .int .i64 f.id, .slice a3 f.ops.length c3, .slice a4 f.deps.length c4, .slice a5 f.ats.length c5, .slice a6 f.vals.length c6] 43) (.cells zr 41)
  rw [← hW] at r0 r1 r2
  have hb : Below w.heap.size w W := by rw [hW]; exact (((Below.refl _ _).alloc (Nat.le_refl _) _).alloc (by rw [size_push]; omega) _).alloc (by rw [size_push, size_push]; omega) _
  have hzW : W.heap.size = w.heap.size + 3 := by rw [hW, size_push, size_push, size_push]
  have HW : Hid (W = ((w.alloc (.cells gr 41)).alloc (.cells #[.int .i64 f.kind, .int .i64 f.node, .int .i64 f.id, .slice a3 f.ops.length c3, .slice a4 f.deps.length c4, .slice a5 f.ats.length c5, .slice a6 f.vals.length c6] 43)).alloc (.cells zr 41)) := hW
  clear hgr hzr h hW hf H3 H4 hfar
  go_enter Try.func24, Try.ntmps24
  go_upto_region 1 with (first
    | (refine wpList_alloc_as rfl 41 rfl zr hz0 ?_)
    | fail)
  rw [← HW.out]
  clear HW
  go_wp2_with (refine wpList_load_row rfl 41 _ rfl w.heap.size rfl 41 gr (0, 0) _ r0 Try.underlying41 rfl hsg ?_)
  have hre := isNode_ref nv s W (HN.out.any.below hb)
  rw [← HGR.out] at hre
  refine hre.mono ?_
  clear hre
  rintro r y ⟨rfl, hby⟩
  have hyw : Below w.heap.size w y := hb.trans (hby.mono (by omega))
  have hzy : w.heap.size + 3 ≤ y.heap.size := by have := hby.size; omega
  have y0 : y.heap[w.heap.size]? = some (.cells gr 41 (0, 0)) := by rw [hby.block _ (by omega)]; exact r0
  have y1 : y.heap[w.heap.size + 1]? = some (.cells #[.int .i64 f.kind, .int .i64 f.node, .int .i64 f.id, .slice a3 f.ops.length c3, .slice a4 f.deps.length c4, .slice a5 f.ats.length c5, .slice a6 f.vals.length c6] 43 (0, 0)) := by rw [hby.block _ (by omega)]; exact r1
  have y2 : y.heap[w.heap.size + 2]? = some (.cells zr 41 (0, 0)) := by rw [hby.block _ (by omega)]; exact r2
  have k1 : y.cell? ⟨w.heap.size + 1, 1, none⟩ = some (.int .i64 f.node) := by rw [cell_of_row _ _ _ _ _ _ y1]; rfl
  clear hby hb r0 r1 r2 hzW
  have HOK : Hid (¬ (goodNB s = false ∨ who < 0 ∨ 5 < who ∨ f.node ≠ who)) := hok
  have tg : goodNB s = true := by
    cases e : goodNB s
    · exact absurd (Or.inl e) hok
    · rfl
  have dw : decide (who < 0) = false := decide_eq_false (fun e => hok (Or.inr (Or.inl e)))
  have dv : decide (5 < who) = false := decide_eq_false (fun e => hok (Or.inr (Or.inr (Or.inl e))))
  have tn : f.node = who := by
    by_cases e : f.node = who
    · exact e
    · exact absurd (Or.inr (Or.inr (Or.inr e))) hok
  have dn : (f.node != who) = false := by simpa using tn
  have HG : Hid (GoodN s) := goodNB_iff.1 tg
  have HNW : Hid (f.node = who) := tn
  rw [tg]
  clear tg tn hok
  go_wp2_with (refine wpList_load_row rfl 43 _ rfl (w.heap.size + 1) rfl 43 _ (0, 0) _ y1 Try.underlying43 rfl Try.infoFrame7 ?_)
  refine (isFrame_any _ f y (HFV.out y hyw)).mono ?_
  rintro r z ⟨rfl, hbz⟩
  have hzw : Below w.heap.size w z := hyw.trans (hbz.mono (by omega))
  have hzz : w.heap.size + 3 ≤ z.heap.size := by have := hbz.size; omega
  have z0 : z.heap[w.heap.size]? = some (.cells gr 41 (0, 0)) := by rw [hbz.block _ (by omega)]; exact y0
  have z1 : z.heap[w.heap.size + 1]? = some (.cells #[.int .i64 f.kind, .int .i64 f.node, .int .i64 f.id, .slice a3 f.ops.length c3, .slice a4 f.deps.length c4, .slice a5 f.ats.length c5, .slice a6 f.vals.length c6] 43 (0, 0)) := by rw [hbz.block _ (by omega)]; exact y1
  have z2 : z.heap[w.heap.size + 2]? = some (.cells zr 41 (0, 0)) := by rw [hbz.block _ (by omega)]; exact y2
  have kk : z.cell? ⟨w.heap.size + 1, 0, none⟩ = some (.int .i64 f.kind) := by rw [cell_of_row _ _ _ _ _ _ z1]; rfl
  clear hbz hyw hzy y0 y1 y2 k1 dw dv dn
  have hgf := HGF0.out
  have hkd := HKD.out
  have de : (goodL f != 0) = false := by simpa using hgf
  have HGF : Hid (goodL f = 0) := hgf
  have te := hgf
  have i12 := (good_in te).2.2.1
  have HLO : Hid (f.ops.length ≤ 4294967296) := by have := (good_in te).2.2.2.1.1; unfold Hid; omega
  have HLD : Hid (f.deps.length ≤ 4294967296) := by have := (good_in te).2.2.2.2.1.1; unfold Hid; omega
  obtain ⟨m, hid⟩ := Int.eq_ofNat_of_zero_le i12.1
  have hm : m < 32 := by omega
  have HmN : Hid (f.id.toNat = m) := by unfold Hid; omega
  have HID : Hid (f.id = (m : Int)) := hid
  have n1 : (0 : Int) ≤ (m : Int) ∧ (m : Int) < 32 := by omega
  clear te hid i12
  have dk : (f.kind != 1) = false := by simpa using hkd
  have dk' : (f.kind == 1) = true := by simpa using hkd
  clear hkd hgf
  go_upto_region 10 with (first
    | (go_at_call 69; refine (ofNode_any _ _).mono ?_; rintro e w' ⟨rfl, hw⟩; rw [hw]; clear hw)
    | (refine wpList_alloc_as rfl 41 rfl zr hz0 ?_)
    | (refine wpList_load_row rfl 41 _ rfl w.heap.size rfl 41 gr (0, 0) _ z0 Try.underlying41 rfl hsg ?_)
    | (refine wpList_store_row rfl 41 _ _ rfl z.heap.size gr rfl rfl 41 _ (heap_new z (.cells zr 41)) hsg hzg hog ?_)
    | fail)
  obtain ⟨x, hx⟩ : ∃ x, x = (z.alloc (.cells zr 41)).setRow z.heap.size gr := ⟨_, rfl⟩
  rw [← hx]
  have hbx : Below z.heap.size z x := by rw [hx]; exact setRow_below ((Below.refl _ _).alloc (Nat.le_refl _) _) (Nat.le_refl _) _
  have xD : x.heap[z.heap.size]? = some (.cells gr 41 (0, 0)) := by rw [hx]; exact heap_setRow (heap_new z (.cells zr 41))
  have hzx : x.heap.size = z.heap.size + 1 := by rw [hx, size_setRow]; exact size_push _ _
  have hxw : Below w.heap.size w x := hzw.trans (hbx.mono (by omega))
  have x0 : x.heap[w.heap.size]? = some (.cells gr 41 (0, 0)) := by rw [hbx.block _ (by omega)]; exact z0
  have x1 : x.heap[w.heap.size + 1]? = some (.cells #[.int .i64 f.kind, .int .i64 f.node, .int .i64 f.id, .slice a3 f.ops.length c3, .slice a4 f.deps.length c4, .slice a5 f.ats.length c5, .slice a6 f.vals.length c6] 43 (0, 0)) := by rw [hbx.block _ (by omega)]; exact z1
  have x2 : x.heap[w.heap.size + 2]? = some (.cells zr 41 (0, 0)) := by rw [hbx.block _ (by omega)]; exact z2
  clear hx hbx z0 z1 z2 kk hzw hz0
  go_wp2_with (refine wpList_load_row rfl 41 _ rfl w.heap.size rfl 41 gr (0, 0) _ x0 Try.underlying41 rfl hsg ?_)
  have hcp := copyNode_any nv s x (HN.out.any.below hxw)
  rw [← HGR.out] at hcp
  refine hcp.mono ?_
  clear hcp
  rintro r x' ⟨nv1, rfl, hap, hbx'⟩
  obtain ⟨fr, hfr⟩ : ∃ fr, fr = rowF 201 nv1 := ⟨_, rfl⟩
  rw [← hfr]
  have hsf : (Try.prog.info? 41).map (·.size) = some fr.size := by rw [hfr, rowF_size]; exact Try.infoNode
  have p0 : x'.heap[w.heap.size]? = some (.cells gr 41 (0, 0)) := by rw [hbx'.block _ (by omega)]; exact x0
  have hgf : gr.size = fr.size := by rw [hfr, HGR.out, rowF_size, rowF_size]
  have hof : fr.all (·.oneCell') = true := by rw [hfr]; exact rowF_all (NodeC.one hap.c)
  have hzx' := hbx'.size
  obtain ⟨y, hy⟩ : ∃ y, y = x'.setRow w.heap.size fr := ⟨_, rfl⟩
  have HR : Hid (NodeR lo w.heap.size y nv1 s) := by rw [hy, hfr]; exact hap.into (by omega) (by omega) (by omega) p0
  have hyw : Below w.heap.size w y := by rw [hy]; exact setRow_below (hxw.trans (hbx'.mono (by omega))) (Nat.le_refl _) _
  have hzy : z.heap.size + 1 ≤ y.heap.size := by rw [hy, size_setRow]; omega
  have y1 : y.heap[w.heap.size + 1]? = some (.cells #[.int .i64 f.kind, .int .i64 f.node, .int .i64 f.id, .slice a3 f.ops.length c3, .slice a4 f.deps.length c4, .slice a5 f.ats.length c5, .slice a6 f.vals.length c6] 43 (0, 0)) := by rw [hy, setRow_other _ _ (by omega), hbx'.block _ (by omega)]; exact x1
  have y2 : y.heap[w.heap.size + 2]? = some (.cells zr 41 (0, 0)) := by rw [hy, setRow_other _ _ (by omega), hbx'.block _ (by omega)]; exact x2
  have yD : y.heap[z.heap.size]? = some (.cells gr 41 (0, 0)) := by rw [hy, setRow_other _ _ (by omega), hbx'.block _ (by omega)]; exact xD
  have HFR : Hid (fr = rowF 201 nv1) := hfr
  have HY : Hid (y = x'.setRow w.heap.size fr) := hy
  clear hfr hy hap hbx' x0 x1 x2 xD hxw
  go_upto_region 11 with (refine wpList_store_row rfl 41 _ _ rfl w.heap.size fr rfl rfl 41 _ p0 hsf hgf hof ?_)
  rw [← HY.out]
  clear HY p0 hgf
  obtain ⟨o1, d1, o2, d2, o3, d3, o4, d4, o5, d5, e6, xs1, xs2, xs3, xs4, xs5, _⟩ := (HR.out.node.ent m hm).v
  have E6 : Hid (sixV nv1 (m * 6) = #[.int .i64 (s.ent m).state, .slice o1 (s.ent m).ops.length d1, .slice o2 (s.ent m).first.length d2, .slice o3 (s.ent m).deps.length d3, .slice o4 (s.ent m).ats.length d4, .slice o5 (s.ent m).vals.length d5]) := by
    unfold Hid
    simpa using e6
  unfold sixV at e6
  simp only [Value.agg.injEq, Array.mk.injEq, List.cons.injEq, and_true] at e6
  obtain ⟨s0, s1, s2, s3, s4, s5⟩ := e6
  have q0 : y.cell? ⟨w.heap.size, m * 6, none⟩ = some (.int .i64 (s.ent m).state) := by rw [HR.out.blk.cell (by omega), s0]
  have q1 : y.cell? ⟨w.heap.size, m * 6 + 1, none⟩ = some (.slice o1 (s.ent m).ops.length d1) := by rw [HR.out.blk.cell (by omega), s1]
  have q2 : y.cell? ⟨w.heap.size, m * 6 + 2, none⟩ = some (.slice o2 (s.ent m).first.length d2) := by rw [HR.out.blk.cell (by omega), s2]
  have q3 : y.cell? ⟨w.heap.size, m * 6 + 3, none⟩ = some (.slice o3 (s.ent m).deps.length d3) := by rw [HR.out.blk.cell (by omega), s3]
  have q4 : y.cell? ⟨w.heap.size, m * 6 + 4, none⟩ = some (.slice o4 (s.ent m).ats.length d4) := by rw [HR.out.blk.cell (by omega), s4]
  have q5 : y.cell? ⟨w.heap.size, m * 6 + 5, none⟩ = some (.slice o5 (s.ent m).vals.length d5) := by rw [HR.out.blk.cell (by omega), s5]
  have ki : y.cell? ⟨w.heap.size + 1, 2, none⟩ = some (.int .i64 m) := by rw [cell_of_row _ _ _ _ _ _ y1, ← HID.out]; rfl
  have HE : Hid (EntC (fun b => (lo ≤ b ∧ (b < w.heap.size ∨ w.heap.size + 2 < b)) ∧ (nv1 192).ownBlock ≠ some b) y nv1 (m * 6) (s.ent m)) := HR.out.node.ent m hm
  have S1 : Hid (nv1 (m * 6 + 1) = .slice o1 (s.ent m).ops.length d1 ∧ nv1 (m * 6 + 2) = .slice o2 (s.ent m).first.length d2 ∧ nv1 (m * 6 + 3) = .slice o3 (s.ent m).deps.length d3 ∧ nv1 (m * 6 + 4) = .slice o4 (s.ent m).ats.length d4 ∧ nv1 (m * 6 + 5) = .slice o5 (s.ent m).vals.length d5) := ⟨s1, s2, s3, s4, s5⟩
  clear s0 s1 s2 s3 s4 s5 xs1 xs2 xs3 xs4 xs5
  go_upto_region 12 with fail
  obtain ⟨x, hx⟩ : ∃ x, x = y.alloc (.cells #[.int .i64 (s.ent m).state, .slice o1 (s.ent m).ops.length d1, .slice o2 (s.ent m).first.length d2, .slice o3 (s.ent m).deps.length d3, .slice o4 (s.ent m).ats.length d4, .slice o5 (s.ent m).vals.length d5] 37) := ⟨_, rfl⟩
  rw [← hx]
  have hbx : Below y.heap.size y x := by rw [hx]; exact (Below.refl _ _).alloc (Nat.le_refl _) _
  have xE : x.heap[y.heap.size]? = some (.cells #[.int .i64 (s.ent m).state, .slice o1 (s.ent m).ops.length d1, .slice o2 (s.ent m).first.length d2, .slice o3 (s.ent m).deps.length d3, .slice o4 (s.ent m).ats.length d4, .slice o5 (s.ent m).vals.length d5] 37 (0, 0)) := by rw [hx]; exact heap_new _ _
  have hzx : y.heap.size + 1 ≤ x.heap.size ∧ x.heap.size ≤ y.heap.size + 1 := by rw [hx, size_push]; omega
  have hxw : Below w.heap.size w x := hyw.trans (hbx.mono (by omega))
  have HRx : Hid (NodeR lo w.heap.size x nv1 s) := HR.out.later hbx
  have x1 : x.heap[w.heap.size + 1]? = some (.cells #[.int .i64 f.kind, .int .i64 f.node, .int .i64 f.id, .slice a3 f.ops.length c3, .slice a4 f.deps.length c4, .slice a5 f.ats.length c5, .slice a6 f.vals.length c6] 43 (0, 0)) := by rw [hbx.block _ (by omega)]; exact y1
  have x2 : x.heap[w.heap.size + 2]? = some (.cells zr 41 (0, 0)) := by rw [hbx.block _ (by omega)]; exact y2
  have xD : x.heap[z.heap.size]? = some (.cells gr 41 (0, 0)) := by rw [hbx.block _ (by omega)]; exact yD
  have kk : x.cell? ⟨w.heap.size + 1, 0, none⟩ = some (.int .i64 f.kind) := by rw [cell_of_row _ _ _ _ _ _ x1]; rfl
  have e0 : x.cell? ⟨y.heap.size, 0, none⟩ = some (.int .i64 (s.ent m).state) := by rw [cell_of_row _ _ _ _ _ _ xE]; rfl
  have hYx : Below y.heap.size y x := hbx
  clear hx q0 q1 q2 q3 q4 q5 ki y1 y2 yD hyw hbx
  have k3 : x.cell? ⟨w.heap.size + 1, 3, none⟩ = some (.slice a3 f.ops.length c3) := by rw [cell_of_row _ _ _ _ _ _ x1]; rfl
  have HO3 : Hid (SlOps x a3 c3 f.ops) := (slO_same HF3.out (fun b _ hb => hxw.block b hb.2)).1
  go_wp2_with fail
  refine (touchesShard_any a3 c3 f.ops (ofL who) x HO3.out.2.1 HO3.out.1).mono ?_
  rintro r t ⟨rfl, hbt⟩
  have htw : Below w.heap.size w t := hxw.trans (hbt.mono (by omega))
  have hzt : y.heap.size + 1 ≤ t.heap.size := by have := hbt.size; omega
  have hYt : Below y.heap.size y t := hYx.trans (hbt.mono (by omega))
  have HRt : Hid (NodeR lo w.heap.size t nv1 s) := HRx.out.later hbt
  have t1 : t.heap[w.heap.size + 1]? = some (.cells #[.int .i64 f.kind, .int .i64 f.node, .int .i64 f.id, .slice a3 f.ops.length c3, .slice a4 f.deps.length c4, .slice a5 f.ats.length c5, .slice a6 f.vals.length c6] 43 (0, 0)) := by rw [hbt.block _ (by omega)]; exact x1
  have t2 : t.heap[w.heap.size + 2]? = some (.cells zr 41 (0, 0)) := by rw [hbt.block _ (by omega)]; exact x2
  have tD : t.heap[z.heap.size]? = some (.cells gr 41 (0, 0)) := by rw [hbt.block _ (by omega)]; exact xD
  have tE : t.heap[y.heap.size]? = some (.cells #[.int .i64 (s.ent m).state, .slice o1 (s.ent m).ops.length d1, .slice o2 (s.ent m).first.length d2, .slice o3 (s.ent m).deps.length d3, .slice o4 (s.ent m).ats.length d4, .slice o5 (s.ent m).vals.length d5] 37 (0, 0)) := by rw [hbt.block _ (by omega)]; exact xE
  have e0' : t.cell? ⟨y.heap.size, 0, none⟩ = some (.int .i64 (s.ent m).state) := by rw [cell_of_row _ _ _ _ _ _ tE]; rfl
  clear k3 HO3 x1 x2 xD xE kk e0 HRx hxw hbt hzx
  cases tt : touchesL f.ops (ofL who)
  · have HT : Hid (takeN s who f = (s, [], 4)) := takeN_none HOK.out HGF.out HKD.out tt
    have hyf : Below w.heap.size w (t.setRow (w.heap.size + 2) gr) := setRow_below htw (by omega) _
    have HFin : Hid (NodeC (lo ≤ ·) (t.setRow (w.heap.size + 2) gr) nv s) := (HN.out.later (fun b _ hb => hyf.block b hb.2)).mono (fun _ _ hb => hb.1)
    go_wp2_with (first
      | (refine wpList_load_row rfl 41 _ rfl z.heap.size rfl 41 gr (0, 0) _ tD Try.underlying41 rfl hsg ?_)
      | (refine wpList_store_row rfl 41 _ _ rfl (w.heap.size + 2) gr rfl rfl 41 _ t2 hsg hzg hog ?_))
    refine bodyPost_ret (v := .tuple #[.agg gr, .slice none 0 0, .int .i64 4]) (results_row2 Try.results24 _ _ (w.heap.size + 2) 41 gr (0, 0) _ rfl (heap_setRow t2) Try.underlying41 rfl hsg _ _ rfl rfl) rfl ⟨nv, _, by rw [HGR.out, HT.out], by rw [HT.out]; exact HFin.out, by rw [HT.out]; exact FramesV.nil _ _, hyf⟩
  have HTo : Hid (touchesL f.ops (ofL who) = true) := tt
  clear tt
  by_cases t0 : (s.ent m).state = 0
  · have t0' : ((s.ent m).state == 0) = true := by simpa using t0
    have HT0 : Hid ((s.ent m).state = 0) := t0
    have HL : Hid ((s.ahead m f.ops (ofL who)).length ≤ 32) := unionTo_len _ _
    clear t0
    have hsfl : (Try.prog.info? 41).map (·.size) = some fr.toList.length := by rw [Array.length_toList]; exact hsf
    obtain ⟨tn, b0⟩ := HRt.out.blk
    rw [← HFR.out] at b0
    have KS : Hid (∀ wx : World, wx.heap[w.heap.size + 1]? = some (.cells #[.int .i64 f.kind, .int .i64 f.node, .int .i64 f.id, .slice a3 f.ops.length c3, .slice a4 f.deps.length c4, .slice a5 f.ats.length c5, .slice a6 f.vals.length c6] 43 (0, 0)) → wx.cell? ⟨w.heap.size + 1, 2, none⟩ = some (.int .i64 m) ∧ wx.cell? ⟨w.heap.size + 1, 3, none⟩ = some (.slice a3 f.ops.length c3)) := fun wx hx => ⟨by rw [cell_of_row _ _ _ _ _ _ hx, ← HID.out]; rfl, by rw [cell_of_row _ _ _ _ _ _ hx]; rfl⟩
    go_upto_region 16 with fail
    refine wp_region_held_drew (S := fun w' => w'.heap[w.heap.size]? = some (.cells fr tn (0, 0)) ∧ w'.heap[w.heap.size + 1]? = some (.cells #[.int .i64 f.kind, .int .i64 f.node, .int .i64 f.id, .slice a3 f.ops.length c3, .slice a4 f.deps.length c4, .slice a5 f.ats.length c5, .slice a6 f.vals.length c6] 43 (0, 0))) (by kernel_rfl) (by exact ⟨b0, t1⟩) ?_
    intro hH
    have gd : Below t.heap.size t t.drew := (Below.refl _ _).drew
    have HRd : Hid (NodeR lo w.heap.size t.drew nv1 s) := HRt.out.later gd
    have hdw : Below w.heap.size w t.drew := htw.drew
    have hYd : Below y.heap.size y t.drew := hYt.drew
    have d1' : t.drew.heap[w.heap.size + 1]? = some (.cells #[.int .i64 f.kind, .int .i64 f.node, .int .i64 f.id, .slice a3 f.ops.length c3, .slice a4 f.deps.length c4, .slice a5 f.ats.length c5, .slice a6 f.vals.length c6] 43 (0, 0)) := t1
    have d2' : t.drew.heap[w.heap.size + 2]? = some (.cells zr 41 (0, 0)) := t2
    have dE : t.drew.heap[y.heap.size]? = some (.cells #[.int .i64 (s.ent m).state, .slice o1 (s.ent m).ops.length d1, .slice o2 (s.ent m).first.length d2, .slice o3 (s.ent m).deps.length d3, .slice o4 (s.ent m).ats.length d4, .slice o5 (s.ent m).vals.length d5] 37 (0, 0)) := tE
    have hzd : y.heap.size < t.drew.heap.size := by show y.heap.size < t.heap.size; omega
    clear gd HRt htw t1 t2 tE tD b0 e0'
    generalize t.drew = Z0 at *
    refine wpAnyH_takeD (i := 0) (d := some 74) (v := .pointer (some ⟨w.heap.size + 1, 3, none⟩)) rfl rfl (by kernel_rfl) (by kernel_rfl) (by kernel_rfl) (fun _ _ _ h => h) (Or.inl ⟨by rfl, fun _ _ => by go_simp⟩) hH ?_
    simp only [Act.put, List.setIfInBounds_toArray, List.set_cons_zero, List.set_cons_succ]
    refine wpAnyH_takeD (i := 1) (d := some 75) (v := .slice a3 f.ops.length c3) rfl rfl (by kernel_rfl) (by kernel_rfl) (by kernel_rfl) (fun _ _ _ h => h) (Or.inl ⟨by rfl, fun wx hx => by have cx := (KS.out wx hx.2).2; go_simp⟩) hH ?_
    simp only [Act.put, List.setIfInBounds_toArray, List.set_cons_zero, List.set_cons_succ]
    refine wpAnyH_takeD (i := 2) (d := some 76) (v := .agg fr.toList.toArray) rfl rfl (by kernel_rfl) (by kernel_rfl) (by kernel_rfl) (fun _ _ _ h => h) (yieldsIf_load_mid (by rfl) _ _ rfl _ _ rfl fr.toList _ (fun wx hx => rowR_range hx.1) Try.underlying41 rfl hsfl) hH ?_
    simp only [Act.put, List.setIfInBounds_toArray, List.set_cons_zero, List.set_cons_succ]
    refine wpAnyH_takeD (i := 3) (d := some 77) (v := .pointer (some ⟨w.heap.size + 1, 2, none⟩)) rfl rfl (by kernel_rfl) (by kernel_rfl) (by kernel_rfl) (fun _ _ _ h => h) (Or.inl ⟨by rfl, fun _ _ => by go_simp⟩) hH ?_
    simp only [Act.put, List.setIfInBounds_toArray, List.set_cons_zero, List.set_cons_succ]
    refine wpAnyH_takeD (i := 4) (d := some 78) (v := .int .i64 m) rfl rfl (by kernel_rfl) (by kernel_rfl) (by kernel_rfl) (fun _ _ _ h => h) (Or.inl ⟨by rfl, fun wx hx => by have cx := (KS.out wx hx.2).1; go_simp⟩) hH ?_
    simp only [Act.put, List.setIfInBounds_toArray, List.set_cons_zero, List.set_cons_succ]
    refine wpAnyH_takeD (i := 5) (d := some 79) (v := .pointer (some ⟨w.heap.size + 1, 3, none⟩)) rfl rfl (by kernel_rfl) (by kernel_rfl) (by kernel_rfl) (fun _ _ _ h => h) (Or.inl ⟨by rfl, fun _ _ => by go_simp⟩) hH ?_
    simp only [Act.put, List.setIfInBounds_toArray, List.set_cons_zero, List.set_cons_succ]
    refine wpAnyH_takeD (i := 6) (d := some 80) (v := .slice a3 f.ops.length c3) rfl rfl (by kernel_rfl) (by kernel_rfl) (by kernel_rfl) (fun _ _ _ h => h) (Or.inl ⟨by rfl, fun wx hx => by have cx := (KS.out wx hx.2).2; go_simp⟩) hH ?_
    simp only [Act.put, List.setIfInBounds_toArray, List.set_cons_zero, List.set_cons_succ]
    refine wpAnyH_takeD (i := 7) (d := some 81) (v := .int .i64 (ofL who)) rfl rfl (by kernel_rfl) (by kernel_rfl) (by kernel_rfl) (fun _ _ _ h => h) (Or.inl ⟨by rfl, fun _ _ => by go_simp⟩) hH ?_
    simp only [Act.put, List.setIfInBounds_toArray, List.set_cons_zero, List.set_cons_succ]
    rw [show fr.toList.toArray = fr by simp]
    refine wpAnyH_ready (rs := [8]) (by kernel_rfl) (by simp) ?_
    refine AllReadyH.cons rfl (fun K hK => ?_) AllReadyH.nil
    go_simp
    have hbf := ref_before_any nv1 s m a3 c3 f.ops (ofL who) Z0 (HRd.out.c (by have := HG.out.len; omega)) (slO_same HF3.out (fun b _ hb => hdw.block b hb.2)).1
    rw [← HFR.out] at hbf
    refine hbf.mono ?_
    clear hbf
    rintro r Z1 ⟨v1, rfl, own1, hb1⟩
    go_wp2_with fail
    obtain ⟨b1, e1, rfl, _⟩ := own_form own1
    obtain ⟨L, hL⟩ : ∃ L, L = s.ahead m f.ops (ofL who) := ⟨_, rfl⟩
    rw [← hL] at own1 HL ⊢
    have HLE : Hid (L = s.ahead m f.ops (ofL who)) := hL
    clear hL
    have hz1 := hb1.size
    refine hK.out _ _ (by exact ⟨by rw [hb1.block _ (by omega)]; exact hH.1, by rw [hb1.block _ (by omega)]; exact hH.2⟩) (fun hH2 => ?_)
    clear hK K hH
    have hH := hH2
    clear hH2
    have HRe : Hid (NodeR lo w.heap.size Z1 nv1 s) := HRd.out.later hb1
    have hew : Below w.heap.size w Z1 := hdw.trans (hb1.mono (by omega))
    have hYe : Below y.heap.size y Z1 := hYd.trans (hb1.mono (by omega))
    have g1 : Z1.heap[w.heap.size + 1]? = some (.cells #[.int .i64 f.kind, .int .i64 f.node, .int .i64 f.id, .slice a3 f.ops.length c3, .slice a4 f.deps.length c4, .slice a5 f.ats.length c5, .slice a6 f.vals.length c6] 43 (0, 0)) := by rw [hb1.block _ (by omega)]; exact d1'
    have g2 : Z1.heap[w.heap.size + 2]? = some (.cells zr 41 (0, 0)) := by rw [hb1.block _ (by omega)]; exact d2'
    have gE : Z1.heap[y.heap.size]? = some (.cells #[.int .i64 (s.ent m).state, .slice o1 (s.ent m).ops.length d1, .slice o2 (s.ent m).first.length d2, .slice o3 (s.ent m).deps.length d3, .slice o4 (s.ent m).ats.length d4, .slice o5 (s.ent m).vals.length d5] 37 (0, 0)) := by rw [hb1.block _ (by omega)]; exact dE
    have HOwn : Hid (Z1.ownsRow Z0.heap.size 3 1 (.slice b1 L.length e1) L.length (intCells L)) := own1
    have HNo : Hid (∀ b, Z0.heap.size ≤ b → (nv1 192).ownBlock ≠ some b) := fun b hb e => by have := (World.ownsRow.lt HRd.out.order b e).2; omega
    clear HRd hdw d1' d2' dE own1 hb1
    refine wpAnyH_takeD (i := 9) (d := some 83) (v := .agg #[.int .i64 1, .slice a3 f.ops.length c3, .slice b1 L.length e1, .slice none 0 0, .slice none 0 0, .slice none 0 0]) rfl rfl (by kernel_rfl) (by kernel_rfl) (by kernel_rfl) (fun _ _ _ h => h) (Or.inl ⟨by rfl, fun _ _ => by go_simp⟩) hH ?_
    try simp only [Act.put]
    try simp only [List.setIfInBounds_toArray]
    try simp only [List.set_cons_zero, List.set_cons_succ]
    refine wpAnyH_ready (rs := [10]) (by kernel_rfl) (by simp) ?_
    refine AllReadyH.cons rfl (fun K hK => ?_) AllReadyH.nil
    refine step_store_row (by rfl) 37 _ _ (by rfl) y.heap.size #[.int .i64 1, .slice a3 f.ops.length c3, .slice b1 L.length e1, .slice none 0 0, .slice none 0 0, .slice none 0 0] (by rfl) (by rfl) 37 _ gE Try.infoEntry rfl (by simp [Value.oneCell']) ?_
    refine hK.out _ _ (by exact ⟨by rw [setRow_other _ _ (by omega)]; exact hH.1, by rw [setRow_other _ _ (by omega)]; exact hH.2⟩) (fun hH2 => ?_)
    clear hK K hH hH2
    refine wpAnyH_done (by kernel_rfl) ?_ _
    obtain ⟨q, hq⟩ : ∃ q, q = Z1.setRow y.heap.size #[.int .i64 1, .slice a3 f.ops.length c3, .slice b1 L.length e1, .slice none 0 0, .slice none 0 0, .slice none 0 0] := ⟨_, rfl⟩
    rw [← hq]
    have hYq : Below y.heap.size y q := by rw [hq]; exact setRow_below hYe (Nat.le_refl _) _
    have hbq : SameOn (fun b => b ≠ y.heap.size) Z1 q := fun b _ hb => by rw [hq]; exact setRow_other _ _ hb
    have hzq : q.heap.size = Z1.heap.size := by rw [hq, size_setRow]
    have q1 : q.heap[w.heap.size + 1]? = some (.cells #[.int .i64 f.kind, .int .i64 f.node, .int .i64 f.id, .slice a3 f.ops.length c3, .slice a4 f.deps.length c4, .slice a5 f.ats.length c5, .slice a6 f.vals.length c6] 43 (0, 0)) := by rw [hbq _ (by omega) (by omega)]; exact g1
    have q2 : q.heap[w.heap.size + 2]? = some (.cells zr 41 (0, 0)) := by rw [hbq _ (by omega) (by omega)]; exact g2
    have qE : q.heap[y.heap.size]? = some (.cells #[.int .i64 1, .slice a3 f.ops.length c3, .slice b1 L.length e1, .slice none 0 0, .slice none 0 0, .slice none 0 0] 37 (0, 0)) := by rw [hq]; exact heap_setRow gE
    have hqw : Below w.heap.size w q := by rw [hq]; exact setRow_below hew (by omega) _
    have HOq : Hid (q.ownsRow Z0.heap.size 3 1 (.slice b1 L.length e1) L.length (intCells L)) := own_same HOwn.out (fun k hk => hbq k (World.ownsRow.lt HOwn.out k hk).2 (by have := (World.ownsRow.lt HOwn.out k hk).1; omega))
    have HRq : Hid (NodeR lo w.heap.size q nv1 s) := HR.out.later hYq
    clear hq g1 g2 gE HRe hew HOwn
    have HLEN : Hid ((⟨upd s.ent m ⟨1, f.ops, L, [], [], []⟩, s.order, s.vals⟩ : NodeL).order.length * 8 ≤ 140737488355328) := by have := HG.out.len; show s.order.length * 8 ≤ _; omega
    obtain ⟨ev, hev⟩ : ∃ ev : Nat → Value, ev = fun i => (#[.int .i64 1, .slice a3 f.ops.length c3, .slice b1 L.length e1, .slice none 0 0, .slice none 0 0, .slice none 0 0].toList).getD i (.bool false) := ⟨_, rfl⟩
    have hrow : rowF 6 ev = #[.int .i64 1, .slice a3 f.ops.length c3, .slice b1 L.length e1, .slice none 0 0, .slice none 0 0, .slice none 0 0] := by rw [hev]; rfl
    have ki : q.cell? ⟨w.heap.size + 1, 2, none⟩ = some (.int .i64 m) := by rw [cell_of_row _ _ _ _ _ _ q1, ← HID.out]; rfl
    obtain ⟨V, hV⟩ : ∃ V, V = q.setCells w.heap.size (m * 6) #[.int .i64 1, .slice a3 f.ops.length c3, .slice b1 L.length e1, .slice none 0 0, .slice none 0 0, .slice none 0 0].toList := ⟨_, rfl⟩
    obtain ⟨mv, hmv⟩ : ∃ mv : Nat → Value, mv = fun i => if m * 6 ≤ i ∧ i < m * 6 + 6 then ev (i - m * 6) else nv1 i := ⟨_, rfl⟩
    have HRV : Hid (NodeR lo w.heap.size V mv ⟨upd s.ent m ⟨1, f.ops, L, [], [], []⟩, s.order, s.vals⟩) := by
      have h1 := HRq.out.putEnt (ev := ev) (e' := ⟨1, f.ops, L, [], [], []⟩) hm (fun g hg => by
        rw [hev]
        match g, hg with
        | 0, _ => exact rfl
        | 1, _ => exact ⟨a3, c3, rfl, ((slO_same HF3.out (fun b _ hb => hqw.block b hb.2)).2).mono (fun b _ hb => ⟨⟨hb.1, Or.inl hb.2⟩, fun e => by have := (World.ownsRow.lt HRq.out.order b e).1; omega⟩), by show f.ops.length * 24 ≤ _; have := HLO.out; omega, HF3.out.1.2.2.1, HF3.out.1.2.2.2⟩
        | 2, _ => exact (IsI.of_owns HOq.out (by have := HL.out; omega)).mono (fun b _ hb => ⟨⟨by omega, Or.inr (by omega)⟩, HNo.out b hb.1⟩)
        | 3, _ => exact IsI.nil _ _
        | 4, _ => exact IsI.nil _ _
        | 5, _ => exact IsI.nil _ _)
      rw [hrow] at h1
      rw [hV, hmv]
      exact h1
    have e192 : Hid (mv 192 = nv1 192) := by unfold Hid; rw [hmv]; exact if_neg (by omega)
    have hthere : q.there w.heap.size (m * 6) 6 := HRq.out.blk.there (by omega)
    have hVw : Below w.heap.size w V := by rw [hV]; exact setCells_below (Nat.le_refl _) _ _ hqw
    have hzV : V.heap.size = q.heap.size := by rw [hV, setCells_size]
    have V1 : V.heap[w.heap.size + 1]? = some (.cells #[.int .i64 f.kind, .int .i64 f.node, .int .i64 f.id, .slice a3 f.ops.length c3, .slice a4 f.deps.length c4, .slice a5 f.ats.length c5, .slice a6 f.vals.length c6] 43 (0, 0)) := by rw [hV, setCells_other (by omega)]; exact q1
    have V2 : V.heap[w.heap.size + 2]? = some (.cells zr 41 (0, 0)) := by rw [hV, setCells_other (by omega)]; exact q2
    have VE : V.heap[y.heap.size]? = some (.cells #[.int .i64 1, .slice a3 f.ops.length c3, .slice b1 L.length e1, .slice none 0 0, .slice none 0 0, .slice none 0 0] 37 (0, 0)) := by rw [hV, setCells_other (by omega)]; exact qE
    have HV : Hid (V = q.setCells w.heap.size (m * 6) #[.int .i64 1, .slice a3 f.ops.length c3, .slice b1 L.length e1, .slice none 0 0, .slice none 0 0, .slice none 0 0].toList) := hV
    have hVb : SameOn (fun b => b ≠ w.heap.size) q V := fun b _ hb => by rw [hV]; exact setCells_other hb _ _ _
    clear hev hrow hV hmv
    go_upto_region 18 with (first
      | (refine wpList_load_row rfl 37 _ rfl y.heap.size rfl 37 _ (0, 0) _ qE Try.underlying37 rfl Try.infoEntry ?_)
      | (refine wpList_store_mid rfl 37 _ _ rfl w.heap.size (m * 6) #[.int .i64 1, .slice a3 f.ops.length c3, .slice b1 L.length e1, .slice none 0 0, .slice none 0 0, .slice none 0 0] ?h1 ?h2 ?h3 ?h4 ?h5 ?_)
      | fail)
    case h4 => first | exact Try.infoEntry | simpa using Try.infoEntry
    case h5 => simp [Value.oneCell']
    rw [← HV.out]
    obtain ⟨er, her⟩ : ∃ er, er = rowF 201 mv := ⟨_, rfl⟩
    have hser : (Try.prog.info? 41).map (·.size) = some er.size := by rw [her, rowF_size]; exact Try.infoNode
    have hoer : er.all (·.oneCell') = true := by rw [her]; exact rowF_all (NodeC.one (HRV.out.c HLEN.out))
    have Her : Hid (er = rowF 201 mv) := her
    clear her HV hthere ki HRq q1 q2 qE hqw
    have HTK : Hid (takeN s who f = (⟨upd s.ent m ⟨1, f.ops, L, [], [], []⟩, s.order, s.vals⟩, [⟨2, who, (m : Int), [], L, [], []⟩], 0)) := by
      unfold Hid
      rw [takeN_ask HOK.out HGF.out HKD.out HTo.out]
      have ea : s.asked (ofL who) f = ⟨upd s.ent m ⟨1, f.ops, L, [], [], []⟩, s.order, s.vals⟩ := by
        unfold NodeL.asked
        rw [HmN.out, if_pos HT0.out]
        unfold NodeL.heard
        rw [HmN.out, HLE.out]
      rw [ea, HmN.out, HID.out]
      simp only [upd_same]
    have HFst : Hid (SlInts V b1 e1 L ∧ IntsIn (fun b => b < w.heap.size ∨ w.heap.size + 2 < b) V b1 L) := by
      have h1 := ((IsI.of_owns HOq.out (by have := HL.out; omega)).mono (ok' := fun b => w.heap.size + 2 < b) (fun b _ hb => by omega)).later (w' := V) (fun b hb hk => hVb b hb (by omega))
      have h2 := h1.sl1
      exact ⟨h2.1, h2.2.mono (fun _ _ hb => Or.inr hb)⟩
    have e2 : V.cell? ⟨y.heap.size, 2, none⟩ = some (.slice b1 L.length e1) := by rw [cell_of_row _ _ _ _ _ _ VE]; rfl
    clear HOq hVb VE HTo HKD
    obtain ⟨tn, x0⟩ := HRV.out.blk
    rw [← Her.out] at x0
    have hsl : (Try.prog.info? 41).map (·.size) = some er.toList.length := by rw [Array.length_toList]; exact hser
    have hzer : zr.size = er.size := by rw [Her.out, HZR.out, rowF_size, rowF_size]
    have KS : Hid (∀ wx : World, wx.heap[w.heap.size + 1]? = some (.cells #[.int .i64 f.kind, .int .i64 f.node, .int .i64 f.id, .slice a3 f.ops.length c3, .slice a4 f.deps.length c4, .slice a5 f.ats.length c5, .slice a6 f.vals.length c6] 43 (0, 0)) → wx.cell? ⟨w.heap.size + 1, 2, none⟩ = some (.int .i64 m)) := fun wx hx => by rw [cell_of_row _ _ _ _ _ _ hx, ← HID.out]; rfl
    go_upto_region 18 with fail
    refine wp_region_held_drew (S := fun w' => (w'.heap[w.heap.size]? = some (.cells er tn (0, 0)) ∧ w'.heap[w.heap.size + 1]? = some (.cells #[.int .i64 f.kind, .int .i64 f.node, .int .i64 f.id, .slice a3 f.ops.length c3, .slice a4 f.deps.length c4, .slice a5 f.ats.length c5, .slice a6 f.vals.length c6] 43 (0, 0))) ∧ w'.cell? ⟨y.heap.size, 2, none⟩ = some (.slice b1 L.length e1)) (by kernel_rfl) (by exact ⟨⟨x0, V1⟩, e2⟩) ?_
    intro hH
    have HRd : Hid (NodeR lo w.heap.size V.drew mv ⟨upd s.ent m ⟨1, f.ops, L, [], [], []⟩, s.order, s.vals⟩) := HRV.out.later (Below.refl _ _).drew
    have hdw : Below w.heap.size w V.drew := hVw.drew
    have d2' : V.drew.heap[w.heap.size + 2]? = some (.cells zr 41 (0, 0)) := V2
    have HFd : Hid (SlInts V.drew b1 e1 L ∧ IntsIn (fun b => b < w.heap.size ∨ w.heap.size + 2 < b) V.drew b1 L) := slI_same HFst.out (SameOn.of_size (Below.refl _ _).drew)
    have hEd : y.heap.size < V.drew.heap.size := by show y.heap.size < V.heap.size; omega
    have hCd : w.heap.size + 2 < y.heap.size := by omega
    clear HRV hVw V2 V1 x0 e2 HFst
    generalize V.drew = Z0 at *
    refine wpAnyH_takeD (i := 0) (d := some 89) (v := .agg er.toList.toArray) rfl rfl (by kernel_rfl) (by kernel_rfl) (by kernel_rfl) (fun _ _ _ h => h) (yieldsIf_load_mid (by rfl) _ _ rfl _ _ rfl er.toList _ (fun wx hx => rowR_range hx.1.1) Try.underlying41 rfl hsl) hH ?_
    simp only [Act.put, List.setIfInBounds_toArray, List.set_cons_zero, List.set_cons_succ]
    refine wpAnyH_takeD (i := 1) (d := some 90) (v := .int .i64 who) rfl rfl (by kernel_rfl) (by kernel_rfl) (by kernel_rfl) (fun _ _ _ h => h) (Or.inl ⟨by rfl, fun _ _ => by go_simp⟩) hH ?_
    simp only [Act.put, List.setIfInBounds_toArray, List.set_cons_zero, List.set_cons_succ]
    refine wpAnyH_takeD (i := 2) (d := some 91) (v := .pointer (some ⟨w.heap.size + 1, 2, none⟩)) rfl rfl (by kernel_rfl) (by kernel_rfl) (by kernel_rfl) (fun _ _ _ h => h) (Or.inl ⟨by rfl, fun _ _ => by go_simp⟩) hH ?_
    simp only [Act.put, List.setIfInBounds_toArray, List.set_cons_zero, List.set_cons_succ]
    refine wpAnyH_takeD (i := 3) (d := some 92) (v := .int .i64 m) rfl rfl (by kernel_rfl) (by kernel_rfl) (by kernel_rfl) (fun _ _ _ h => h) (Or.inl ⟨by rfl, fun wx hx => by have cx := KS.out wx hx.1.2; go_simp⟩) hH ?_
    simp only [Act.put, List.setIfInBounds_toArray, List.set_cons_zero, List.set_cons_succ]
    refine wpAnyH_takeD (i := 4) (d := some 93) (v := .pointer (some ⟨y.heap.size, 2, none⟩)) rfl rfl (by kernel_rfl) (by kernel_rfl) (by kernel_rfl) (fun _ _ _ h => h) (Or.inl ⟨by rfl, fun _ _ => by go_simp⟩) hH ?_
    simp only [Act.put, List.setIfInBounds_toArray, List.set_cons_zero, List.set_cons_succ]
    refine wpAnyH_takeD (i := 5) (d := some 94) (v := .slice b1 L.length e1) rfl rfl (by kernel_rfl) (by kernel_rfl) (by kernel_rfl) (fun _ _ _ h => h) (Or.inl ⟨by rfl, fun wx hx => by have cx := hx.2; go_simp⟩) hH ?_
    simp only [Act.put, List.setIfInBounds_toArray, List.set_cons_zero, List.set_cons_succ]
    refine wpAnyH_takeD (i := 6) (d := some 95) (v := .agg #[.int .i64 2, .int .i64 who, .int .i64 m, .slice none 0 0, .slice b1 L.length e1, .slice none 0 0, .slice none 0 0]) rfl rfl (by kernel_rfl) (by kernel_rfl) (by kernel_rfl) (fun _ _ _ h => h) (Or.inl ⟨by rfl, fun _ _ => by go_simp⟩) hH ?_
    simp only [Act.put, List.setIfInBounds_toArray, List.set_cons_zero, List.set_cons_succ]
    rw [show er.toList.toArray = er by simp]
    refine wpAnyH_ready (rs := [7, 8]) (by kernel_rfl) (by simp) ?_
    refine AllReadyH.cons rfl (fun K hK => ?_) (AllReadyH.cons rfl (fun K hK => ?_) AllReadyH.nil)
    · go_simp
      have gA := (Below.refl Z0.heap.size Z0).alloc (Nat.le_refl _) (.cells #[.int .i64 2, .int .i64 who, .int .i64 m, .slice none 0 0, .slice b1 L.length e1, .slice none 0 0, .slice none 0 0] 43)
      have hzA : (Z0.alloc (.cells #[.int .i64 2, .int .i64 who, .int .i64 m, .slice none 0 0, .slice b1 L.length e1, .slice none 0 0, .slice none 0 0] 43)).heap.size = Z0.heap.size + 1 := size_push _ _
      refine hK.out _ _ (by exact ⟨⟨by rw [gA.block _ (by omega)]; exact hH.1.1, by rw [gA.block _ (by omega)]; exact hH.1.2⟩, by rw [gA.cell (p := ⟨y.heap.size, 2, none⟩) (by show y.heap.size < _; omega)]; exact hH.2⟩) (fun hH2 => ?_)
      clear hK K hH
      have hH := hH2
      clear hH2
      have aK : (Z0.alloc (.cells #[.int .i64 2, .int .i64 who, .int .i64 m, .slice none 0 0, .slice b1 L.length e1, .slice none 0 0, .slice none 0 0] 43)).heap[Z0.heap.size]? = some (.cells #[.int .i64 2, .int .i64 who, .int .i64 m, .slice none 0 0, .slice b1 L.length e1, .slice none 0 0, .slice none 0 0] 43 (0, 0)) := heap_new _ _
      have a2 : (Z0.alloc (.cells #[.int .i64 2, .int .i64 who, .int .i64 m, .slice none 0 0, .slice b1 L.length e1, .slice none 0 0, .slice none 0 0] 43)).heap[w.heap.size + 2]? = some (.cells zr 41 (0, 0)) := by rw [gA.block _ (by omega)]; exact d2'
      have HRA : Hid (NodeR lo w.heap.size (Z0.alloc (.cells #[.int .i64 2, .int .i64 who, .int .i64 m, .slice none 0 0, .slice b1 L.length e1, .slice none 0 0, .slice none 0 0] 43)) mv ⟨upd s.ent m ⟨1, f.ops, L, [], [], []⟩, s.order, s.vals⟩) := HRd.out.later gA
      have HFA : Hid (SlInts (Z0.alloc (.cells #[.int .i64 2, .int .i64 who, .int .i64 m, .slice none 0 0, .slice b1 L.length e1, .slice none 0 0, .slice none 0 0] 43)) b1 e1 L ∧ IntsIn (fun b => b < w.heap.size ∨ w.heap.size + 2 < b) (Z0.alloc (.cells #[.int .i64 2, .int .i64 who, .int .i64 m, .slice none 0 0, .slice b1 L.length e1, .slice none 0 0, .slice none 0 0] 43)) b1 L) := slI_same HFd.out (SameOn.of_size gA)
      have hAw : Below w.heap.size w (Z0.alloc (.cells #[.int .i64 2, .int .i64 who, .int .i64 m, .slice none 0 0, .slice b1 L.length e1, .slice none 0 0, .slice none 0 0] 43)) := hdw.trans (gA.mono (by omega))
      clear HRd HFd hdw d2' gA
      generalize Z0.alloc (.cells #[.int .i64 2, .int .i64 who, .int .i64 m, .slice none 0 0, .slice b1 L.length e1, .slice none 0 0, .slice none 0 0] 43) = Z1 at *
      try simp only [Act.put]
      try simp only [List.setIfInBounds_toArray]
      try simp only [List.set_cons_zero, List.set_cons_succ]
      refine wpAnyH_ready (rs := [8]) (by kernel_rfl) (by simp) ?_
      refine AllReadyH.cons rfl (fun K hK => ?_) AllReadyH.nil
      refine step_store_row (by rfl) 41 _ _ (by rfl) (w.heap.size + 2) er (by rfl) (by rfl) 41 zr a2 hser hzer hoer ?_
      refine hK.out _ _ (by exact ⟨⟨by rw [setRow_other _ _ (by omega)]; exact hH.1.1, by rw [setRow_other _ _ (by omega)]; exact hH.1.2⟩, by rw [World.cell?_of_block (w := Z1) (setRow_other _ _ (by show y.heap.size ≠ _; omega))]; exact hH.2⟩) (fun hH2 => ?_)
      clear hK K hH
      have hH := hH2
      clear hH2
      have hV2 : (Z1.setRow (w.heap.size + 2) er).heap[w.heap.size + 2]? = some (.cells er 41 (0, 0)) := heap_setRow a2
      have HNV : Hid (NodeC (lo ≤ ·) (Z1.setRow (w.heap.size + 2) er) mv ⟨upd s.ent m ⟨1, f.ops, L, [], [], []⟩, s.order, s.vals⟩) := HRA.out.out HLEN.out er
      have HFrs : Hid (FramesV 0 (Z1.setRow (w.heap.size + 2) er) (.slice (some ⟨Z0.heap.size, 0, none⟩) 1 1) [⟨2, who, m, [], L, [], []⟩]) := by
        refine framesR_one (by rw [setRow_other _ _ (by omega)]; exact aK) ?_
        have hh := slI_same HFA.out (w' := Z1.setRow (w.heap.size + 2) er) (fun b _ hb => setRow_other _ _ (by omega))
        exact ⟨hh.1, hh.2.mono (fun _ _ _ => Nat.zero_le _)⟩
      have hVw : Below w.heap.size w (Z1.setRow (w.heap.size + 2) er) := setRow_below hAw (by omega) _
      clear HRA HFA hAw a2 aK
      generalize Z1.setRow (w.heap.size + 2) er = V at *
      refine wpAnyH_takeD (i := 9) (d := some 7) (v := .slice (some ⟨Z0.heap.size, 0, none⟩) 1 1) rfl rfl (by kernel_rfl) (by kernel_rfl) (by kernel_rfl) (fun _ _ _ h => h) (Or.inl ⟨by rfl, fun _ _ => by go_simp⟩) hH ?_
      try simp only [Act.put]
      try simp only [List.setIfInBounds_toArray]
      try simp only [List.set_cons_zero, List.set_cons_succ]
      refine wpAnyH_takeD (i := 10) (d := some 8) (v := .int .i64 0) rfl rfl (by kernel_rfl) (by kernel_rfl) (by kernel_rfl) (fun _ _ _ h => h) (Or.inl ⟨by rfl, fun _ _ => by go_simp⟩) hH ?_
      try simp only [Act.put]
      try simp only [List.setIfInBounds_toArray]
      try simp only [List.set_cons_zero, List.set_cons_succ]
      refine wpAnyH_done (by kernel_rfl) ?_ _
      clear hH
      go_wp2_with fail
      refine bodyPost_ret (v := .tuple #[.agg er, .slice (some ⟨Z0.heap.size, 0, none⟩) 1 1, .int .i64 0]) (results_row2 Try.results24 _ _ (w.heap.size + 2) 41 er (0, 0) _ rfl hV2 Try.underlying41 rfl hser _ _ rfl rfl) rfl ⟨mv, _, by rw [Her.out, HTK.out], by rw [HTK.out]; exact HNV.out, by rw [HTK.out]; exact HFrs.out, hVw⟩
    · refine step_store_row (by rfl) 41 _ _ (by rfl) (w.heap.size + 2) er (by rfl) (by rfl) 41 zr d2' hser hzer hoer ?_
      refine hK.out _ _ (by exact ⟨⟨by rw [setRow_other _ _ (by omega)]; exact hH.1.1, by rw [setRow_other _ _ (by omega)]; exact hH.1.2⟩, by rw [World.cell?_of_block (w := Z0) (setRow_other _ _ (by show y.heap.size ≠ _; omega))]; exact hH.2⟩) (fun hH2 => ?_)
      clear hK K hH
      have hH := hH2
      clear hH2
      have b2 : (Z0.setRow (w.heap.size + 2) er).heap[w.heap.size + 2]? = some (.cells er 41 (0, 0)) := heap_setRow d2'
      have HNB : Hid (NodeC (lo ≤ ·) (Z0.setRow (w.heap.size + 2) er) mv ⟨upd s.ent m ⟨1, f.ops, L, [], [], []⟩, s.order, s.vals⟩) := HRd.out.out HLEN.out er
      have HFB2 : Hid (SlInts (Z0.setRow (w.heap.size + 2) er) b1 e1 L ∧ IntsIn (fun b => b < w.heap.size ∨ w.heap.size + 2 < b) (Z0.setRow (w.heap.size + 2) er) b1 L) := slI_same HFd.out (fun b _ hb => setRow_other _ _ (by omega))
      have hBw : Below w.heap.size w (Z0.setRow (w.heap.size + 2) er) := setRow_below hdw (by omega) _
      have hEB : y.heap.size < (Z0.setRow (w.heap.size + 2) er).heap.size := by rw [size_setRow]; exact hEd
      clear HRd HFd hdw d2'
      generalize Z0.setRow (w.heap.size + 2) er = Z1 at *
      try simp only [Act.put]
      try simp only [List.setIfInBounds_toArray]
      try simp only [List.set_cons_zero, List.set_cons_succ]
      refine wpAnyH_ready (rs := [7]) (by kernel_rfl) (by simp) ?_
      refine AllReadyH.cons rfl (fun K hK => ?_) AllReadyH.nil
      go_simp
      have gA := (Below.refl Z1.heap.size Z1).alloc (Nat.le_refl _) (.cells #[.int .i64 2, .int .i64 who, .int .i64 m, .slice none 0 0, .slice b1 L.length e1, .slice none 0 0, .slice none 0 0] 43)
      have hzA : (Z1.alloc (.cells #[.int .i64 2, .int .i64 who, .int .i64 m, .slice none 0 0, .slice b1 L.length e1, .slice none 0 0, .slice none 0 0] 43)).heap.size = Z1.heap.size + 1 := size_push _ _
      refine hK.out _ _ (by exact ⟨⟨by rw [gA.block _ (by omega)]; exact hH.1.1, by rw [gA.block _ (by omega)]; exact hH.1.2⟩, by rw [gA.cell (p := ⟨y.heap.size, 2, none⟩) (by show y.heap.size < _; omega)]; exact hH.2⟩) (fun hH2 => ?_)
      clear hK K hH
      have hH := hH2
      clear hH2
      have aK : (Z1.alloc (.cells #[.int .i64 2, .int .i64 who, .int .i64 m, .slice none 0 0, .slice b1 L.length e1, .slice none 0 0, .slice none 0 0] 43)).heap[Z1.heap.size]? = some (.cells #[.int .i64 2, .int .i64 who, .int .i64 m, .slice none 0 0, .slice b1 L.length e1, .slice none 0 0, .slice none 0 0] 43 (0, 0)) := heap_new _ _
      have hV2 : (Z1.alloc (.cells #[.int .i64 2, .int .i64 who, .int .i64 m, .slice none 0 0, .slice b1 L.length e1, .slice none 0 0, .slice none 0 0] 43)).heap[w.heap.size + 2]? = some (.cells er 41 (0, 0)) := by rw [gA.block _ (by omega)]; exact b2
      have HNV : Hid (NodeC (lo ≤ ·) (Z1.alloc (.cells #[.int .i64 2, .int .i64 who, .int .i64 m, .slice none 0 0, .slice b1 L.length e1, .slice none 0 0, .slice none 0 0] 43)) mv ⟨upd s.ent m ⟨1, f.ops, L, [], [], []⟩, s.order, s.vals⟩) := HNB.out.later (SameOn.of_size gA)
      have HFrs : Hid (FramesV 0 (Z1.alloc (.cells #[.int .i64 2, .int .i64 who, .int .i64 m, .slice none 0 0, .slice b1 L.length e1, .slice none 0 0, .slice none 0 0] 43)) (.slice (some ⟨Z1.heap.size, 0, none⟩) 1 1) [⟨2, who, m, [], L, [], []⟩]) := by
        refine framesR_one aK ?_
        have hh := slI_same HFB2.out (w' := Z1.alloc (.cells #[.int .i64 2, .int .i64 who, .int .i64 m, .slice none 0 0, .slice b1 L.length e1, .slice none 0 0, .slice none 0 0] 43)) (SameOn.of_size gA)
        exact ⟨hh.1, hh.2.mono (fun _ _ _ => Nat.zero_le _)⟩
      have hVw : Below w.heap.size w (Z1.alloc (.cells #[.int .i64 2, .int .i64 who, .int .i64 m, .slice none 0 0, .slice b1 L.length e1, .slice none 0 0, .slice none 0 0] 43)) := hBw.trans (gA.mono (by omega))
      clear HNB HFB2 hBw b2 aK gA
      generalize Z1.alloc (.cells #[.int .i64 2, .int .i64 who, .int .i64 m, .slice none 0 0, .slice b1 L.length e1, .slice none 0 0, .slice none 0 0] 43) = V at *
      refine wpAnyH_takeD (i := 9) (d := some 7) (v := .slice (some ⟨Z1.heap.size, 0, none⟩) 1 1) rfl rfl (by kernel_rfl) (by kernel_rfl) (by kernel_rfl) (fun _ _ _ h => h) (Or.inl ⟨by rfl, fun _ _ => by go_simp⟩) hH ?_
      try simp only [Act.put]
      try simp only [List.setIfInBounds_toArray]
      try simp only [List.set_cons_zero, List.set_cons_succ]
      refine wpAnyH_takeD (i := 10) (d := some 8) (v := .int .i64 0) rfl rfl (by kernel_rfl) (by kernel_rfl) (by kernel_rfl) (fun _ _ _ h => h) (Or.inl ⟨by rfl, fun _ _ => by go_simp⟩) hH ?_
      try simp only [Act.put]
      try simp only [List.setIfInBounds_toArray]
      try simp only [List.set_cons_zero, List.set_cons_succ]
      refine wpAnyH_done (by kernel_rfl) ?_ _
      clear hH
      go_wp2_with fail
      refine bodyPost_ret (v := .tuple #[.agg er, .slice (some ⟨Z1.heap.size, 0, none⟩) 1 1, .int .i64 0]) (results_row2 Try.results24 _ _ (w.heap.size + 2) 41 er (0, 0) _ rfl hV2 Try.underlying41 rfl hser _ _ rfl rfl) rfl ⟨mv, _, by rw [Her.out, HTK.out], by rw [HTK.out]; exact HNV.out, by rw [HTK.out]; exact HFrs.out, hVw⟩
  · have t0' : ((s.ent m).state == 0) = false := by simpa using t0
    have HTK : Hid (takeN s who f = (s, [⟨2, who, (m : Int), [], (s.ent m).first, [], []⟩], 0)) := by
      unfold Hid
      rw [takeN_ask HOK.out HGF.out HKD.out HTo.out]
      have ea : s.asked (ofL who) f = s := by
        unfold NodeL.asked
        rw [HmN.out, if_neg t0]
      rw [ea, HmN.out, HID.out]
    have HLEN : Hid (s.order.length * 8 ≤ 140737488355328) := by have := HG.out.len; unfold Hid; omega
    have Hfr : Hid (fr = rowF 201 nv1) := HFR
    have hsfr := hsf
    have hofr := hof
    have HFst : Hid (SlInts t o2 d2 (s.ent m).first ∧ IntsIn (fun b => b < w.heap.size ∨ w.heap.size + 2 < b) t o2 (s.ent m).first) := by
      have h1 := (HRt.out.node.ent m hm).first
      rw [S1.out.2.1] at h1
      have h2 := h1.sl1
      exact ⟨h2.1, h2.2.mono (fun _ _ hb => hb.1.2)⟩
    have e2 : t.cell? ⟨y.heap.size, 2, none⟩ = some (.slice o2 (s.ent m).first.length d2) := by rw [cell_of_row _ _ _ _ _ _ tE]; rfl
    clear t0 HTo HKD tE tD
    obtain ⟨tn, x0⟩ := HRt.out.blk
    rw [← Hfr.out] at x0
    have hsl : (Try.prog.info? 41).map (·.size) = some fr.toList.length := by rw [Array.length_toList]; exact hsfr
    have hzfr : zr.size = fr.size := by rw [Hfr.out, HZR.out, rowF_size, rowF_size]
    have KS : Hid (∀ wx : World, wx.heap[w.heap.size + 1]? = some (.cells #[.int .i64 f.kind, .int .i64 f.node, .int .i64 f.id, .slice a3 f.ops.length c3, .slice a4 f.deps.length c4, .slice a5 f.ats.length c5, .slice a6 f.vals.length c6] 43 (0, 0)) → wx.cell? ⟨w.heap.size + 1, 2, none⟩ = some (.int .i64 m)) := fun wx hx => by rw [cell_of_row _ _ _ _ _ _ hx, ← HID.out]; rfl
    go_upto_region 18 with fail
    refine wp_region_held_drew (S := fun w' => (w'.heap[w.heap.size]? = some (.cells fr tn (0, 0)) ∧ w'.heap[w.heap.size + 1]? = some (.cells #[.int .i64 f.kind, .int .i64 f.node, .int .i64 f.id, .slice a3 f.ops.length c3, .slice a4 f.deps.length c4, .slice a5 f.ats.length c5, .slice a6 f.vals.length c6] 43 (0, 0))) ∧ w'.cell? ⟨y.heap.size, 2, none⟩ = some (.slice o2 (s.ent m).first.length d2)) (by kernel_rfl) (by exact ⟨⟨x0, t1⟩, e2⟩) ?_
    intro hH
    have HRd : Hid (NodeR lo w.heap.size t.drew nv1 s) := HRt.out.later (Below.refl _ _).drew
    have hdw : Below w.heap.size w t.drew := htw.drew
    have d2' : t.drew.heap[w.heap.size + 2]? = some (.cells zr 41 (0, 0)) := t2
    have HFd : Hid (SlInts t.drew o2 d2 (s.ent m).first ∧ IntsIn (fun b => b < w.heap.size ∨ w.heap.size + 2 < b) t.drew o2 (s.ent m).first) := slI_same HFst.out (SameOn.of_size (Below.refl _ _).drew)
    have hEd : y.heap.size < t.drew.heap.size := by show y.heap.size < t.heap.size; omega
    have hCd : w.heap.size + 2 < y.heap.size := by omega
    clear HRt htw t2 t1 x0 e2 HFst
    generalize t.drew = Z0 at *
    refine wpAnyH_takeD (i := 0) (d := some 89) (v := .agg fr.toList.toArray) rfl rfl (by kernel_rfl) (by kernel_rfl) (by kernel_rfl) (fun _ _ _ h => h) (yieldsIf_load_mid (by rfl) _ _ rfl _ _ rfl fr.toList _ (fun wx hx => rowR_range hx.1.1) Try.underlying41 rfl hsl) hH ?_
    simp only [Act.put, List.setIfInBounds_toArray, List.set_cons_zero, List.set_cons_succ]
    refine wpAnyH_takeD (i := 1) (d := some 90) (v := .int .i64 who) rfl rfl (by kernel_rfl) (by kernel_rfl) (by kernel_rfl) (fun _ _ _ h => h) (Or.inl ⟨by rfl, fun _ _ => by go_simp⟩) hH ?_
    simp only [Act.put, List.setIfInBounds_toArray, List.set_cons_zero, List.set_cons_succ]
    refine wpAnyH_takeD (i := 2) (d := some 91) (v := .pointer (some ⟨w.heap.size + 1, 2, none⟩)) rfl rfl (by kernel_rfl) (by kernel_rfl) (by kernel_rfl) (fun _ _ _ h => h) (Or.inl ⟨by rfl, fun _ _ => by go_simp⟩) hH ?_
    simp only [Act.put, List.setIfInBounds_toArray, List.set_cons_zero, List.set_cons_succ]
    refine wpAnyH_takeD (i := 3) (d := some 92) (v := .int .i64 m) rfl rfl (by kernel_rfl) (by kernel_rfl) (by kernel_rfl) (fun _ _ _ h => h) (Or.inl ⟨by rfl, fun wx hx => by have cx := KS.out wx hx.1.2; go_simp⟩) hH ?_
    simp only [Act.put, List.setIfInBounds_toArray, List.set_cons_zero, List.set_cons_succ]
    refine wpAnyH_takeD (i := 4) (d := some 93) (v := .pointer (some ⟨y.heap.size, 2, none⟩)) rfl rfl (by kernel_rfl) (by kernel_rfl) (by kernel_rfl) (fun _ _ _ h => h) (Or.inl ⟨by rfl, fun _ _ => by go_simp⟩) hH ?_
    simp only [Act.put, List.setIfInBounds_toArray, List.set_cons_zero, List.set_cons_succ]
    refine wpAnyH_takeD (i := 5) (d := some 94) (v := .slice o2 (s.ent m).first.length d2) rfl rfl (by kernel_rfl) (by kernel_rfl) (by kernel_rfl) (fun _ _ _ h => h) (Or.inl ⟨by rfl, fun wx hx => by have cx := hx.2; go_simp⟩) hH ?_
    simp only [Act.put, List.setIfInBounds_toArray, List.set_cons_zero, List.set_cons_succ]
    refine wpAnyH_takeD (i := 6) (d := some 95) (v := .agg #[.int .i64 2, .int .i64 who, .int .i64 m, .slice none 0 0, .slice o2 (s.ent m).first.length d2, .slice none 0 0, .slice none 0 0]) rfl rfl (by kernel_rfl) (by kernel_rfl) (by kernel_rfl) (fun _ _ _ h => h) (Or.inl ⟨by rfl, fun _ _ => by go_simp⟩) hH ?_
    simp only [Act.put, List.setIfInBounds_toArray, List.set_cons_zero, List.set_cons_succ]
    rw [show fr.toList.toArray = fr by simp]
    refine wpAnyH_ready (rs := [7, 8]) (by kernel_rfl) (by simp) ?_
    refine AllReadyH.cons rfl (fun K hK => ?_) (AllReadyH.cons rfl (fun K hK => ?_) AllReadyH.nil)
    · go_simp
      have gA := (Below.refl Z0.heap.size Z0).alloc (Nat.le_refl _) (.cells #[.int .i64 2, .int .i64 who, .int .i64 m, .slice none 0 0, .slice o2 (s.ent m).first.length d2, .slice none 0 0, .slice none 0 0] 43)
      have hzA : (Z0.alloc (.cells #[.int .i64 2, .int .i64 who, .int .i64 m, .slice none 0 0, .slice o2 (s.ent m).first.length d2, .slice none 0 0, .slice none 0 0] 43)).heap.size = Z0.heap.size + 1 := size_push _ _
      refine hK.out _ _ (by exact ⟨⟨by rw [gA.block _ (by omega)]; exact hH.1.1, by rw [gA.block _ (by omega)]; exact hH.1.2⟩, by rw [gA.cell (p := ⟨y.heap.size, 2, none⟩) (by show y.heap.size < _; omega)]; exact hH.2⟩) (fun hH2 => ?_)
      clear hK K hH
      have hH := hH2
      clear hH2
      have aK : (Z0.alloc (.cells #[.int .i64 2, .int .i64 who, .int .i64 m, .slice none 0 0, .slice o2 (s.ent m).first.length d2, .slice none 0 0, .slice none 0 0] 43)).heap[Z0.heap.size]? = some (.cells #[.int .i64 2, .int .i64 who, .int .i64 m, .slice none 0 0, .slice o2 (s.ent m).first.length d2, .slice none 0 0, .slice none 0 0] 43 (0, 0)) := heap_new _ _
      have a2 : (Z0.alloc (.cells #[.int .i64 2, .int .i64 who, .int .i64 m, .slice none 0 0, .slice o2 (s.ent m).first.length d2, .slice none 0 0, .slice none 0 0] 43)).heap[w.heap.size + 2]? = some (.cells zr 41 (0, 0)) := by rw [gA.block _ (by omega)]; exact d2'
      have HRA : Hid (NodeR lo w.heap.size (Z0.alloc (.cells #[.int .i64 2, .int .i64 who, .int .i64 m, .slice none 0 0, .slice o2 (s.ent m).first.length d2, .slice none 0 0, .slice none 0 0] 43)) nv1 s) := HRd.out.later gA
      have HFA : Hid (SlInts (Z0.alloc (.cells #[.int .i64 2, .int .i64 who, .int .i64 m, .slice none 0 0, .slice o2 (s.ent m).first.length d2, .slice none 0 0, .slice none 0 0] 43)) o2 d2 (s.ent m).first ∧ IntsIn (fun b => b < w.heap.size ∨ w.heap.size + 2 < b) (Z0.alloc (.cells #[.int .i64 2, .int .i64 who, .int .i64 m, .slice none 0 0, .slice o2 (s.ent m).first.length d2, .slice none 0 0, .slice none 0 0] 43)) o2 (s.ent m).first) := slI_same HFd.out (SameOn.of_size gA)
      have hAw : Below w.heap.size w (Z0.alloc (.cells #[.int .i64 2, .int .i64 who, .int .i64 m, .slice none 0 0, .slice o2 (s.ent m).first.length d2, .slice none 0 0, .slice none 0 0] 43)) := hdw.trans (gA.mono (by omega))
      clear HRd HFd hdw d2' gA
      generalize Z0.alloc (.cells #[.int .i64 2, .int .i64 who, .int .i64 m, .slice none 0 0, .slice o2 (s.ent m).first.length d2, .slice none 0 0, .slice none 0 0] 43) = Z1 at *
      try simp only [Act.put]
      try simp only [List.setIfInBounds_toArray]
      try simp only [List.set_cons_zero, List.set_cons_succ]
      refine wpAnyH_ready (rs := [8]) (by kernel_rfl) (by simp) ?_
      refine AllReadyH.cons rfl (fun K hK => ?_) AllReadyH.nil
      refine step_store_row (by rfl) 41 _ _ (by rfl) (w.heap.size + 2) fr (by rfl) (by rfl) 41 zr a2 hsfr hzfr hofr ?_
      refine hK.out _ _ (by exact ⟨⟨by rw [setRow_other _ _ (by omega)]; exact hH.1.1, by rw [setRow_other _ _ (by omega)]; exact hH.1.2⟩, by rw [World.cell?_of_block (w := Z1) (setRow_other _ _ (by show y.heap.size ≠ _; omega))]; exact hH.2⟩) (fun hH2 => ?_)
      clear hK K hH
      have hH := hH2
      clear hH2
      have hV2 : (Z1.setRow (w.heap.size + 2) fr).heap[w.heap.size + 2]? = some (.cells fr 41 (0, 0)) := heap_setRow a2
      have HNV : Hid (NodeC (lo ≤ ·) (Z1.setRow (w.heap.size + 2) fr) nv1 s) := HRA.out.out HLEN.out fr
      have HFrs : Hid (FramesV 0 (Z1.setRow (w.heap.size + 2) fr) (.slice (some ⟨Z0.heap.size, 0, none⟩) 1 1) [⟨2, who, m, [], (s.ent m).first, [], []⟩]) := by
        refine framesR_one (by rw [setRow_other _ _ (by omega)]; exact aK) ?_
        have hh := slI_same HFA.out (w' := Z1.setRow (w.heap.size + 2) fr) (fun b _ hb => setRow_other _ _ (by omega))
        exact ⟨hh.1, hh.2.mono (fun _ _ _ => Nat.zero_le _)⟩
      have hVw : Below w.heap.size w (Z1.setRow (w.heap.size + 2) fr) := setRow_below hAw (by omega) _
      clear HRA HFA hAw a2 aK
      generalize Z1.setRow (w.heap.size + 2) fr = V at *
      refine wpAnyH_takeD (i := 9) (d := some 7) (v := .slice (some ⟨Z0.heap.size, 0, none⟩) 1 1) rfl rfl (by kernel_rfl) (by kernel_rfl) (by kernel_rfl) (fun _ _ _ h => h) (Or.inl ⟨by rfl, fun _ _ => by go_simp⟩) hH ?_
      try simp only [Act.put]
      try simp only [List.setIfInBounds_toArray]
      try simp only [List.set_cons_zero, List.set_cons_succ]
      refine wpAnyH_takeD (i := 10) (d := some 8) (v := .int .i64 0) rfl rfl (by kernel_rfl) (by kernel_rfl) (by kernel_rfl) (fun _ _ _ h => h) (Or.inl ⟨by rfl, fun _ _ => by go_simp⟩) hH ?_
      try simp only [Act.put]
      try simp only [List.setIfInBounds_toArray]
      try simp only [List.set_cons_zero, List.set_cons_succ]
      refine wpAnyH_done (by kernel_rfl) ?_ _
      clear hH
      go_wp2_with fail
      refine bodyPost_ret (v := .tuple #[.agg fr, .slice (some ⟨Z0.heap.size, 0, none⟩) 1 1, .int .i64 0]) (results_row2 Try.results24 _ _ (w.heap.size + 2) 41 fr (0, 0) _ rfl hV2 Try.underlying41 rfl hsfr _ _ rfl rfl) rfl ⟨nv1, _, by rw [Hfr.out, HTK.out], by rw [HTK.out]; exact HNV.out, by rw [HTK.out]; exact HFrs.out, hVw⟩
    · refine step_store_row (by rfl) 41 _ _ (by rfl) (w.heap.size + 2) fr (by rfl) (by rfl) 41 zr d2' hsfr hzfr hofr ?_
      refine hK.out _ _ (by exact ⟨⟨by rw [setRow_other _ _ (by omega)]; exact hH.1.1, by rw [setRow_other _ _ (by omega)]; exact hH.1.2⟩, by rw [World.cell?_of_block (w := Z0) (setRow_other _ _ (by show y.heap.size ≠ _; omega))]; exact hH.2⟩) (fun hH2 => ?_)
      clear hK K hH
      have hH := hH2
      clear hH2
      have b2 : (Z0.setRow (w.heap.size + 2) fr).heap[w.heap.size + 2]? = some (.cells fr 41 (0, 0)) := heap_setRow d2'
      have HNB : Hid (NodeC (lo ≤ ·) (Z0.setRow (w.heap.size + 2) fr) nv1 s) := HRd.out.out HLEN.out fr
      have HFB2 : Hid (SlInts (Z0.setRow (w.heap.size + 2) fr) o2 d2 (s.ent m).first ∧ IntsIn (fun b => b < w.heap.size ∨ w.heap.size + 2 < b) (Z0.setRow (w.heap.size + 2) fr) o2 (s.ent m).first) := slI_same HFd.out (fun b _ hb => setRow_other _ _ (by omega))
      have hBw : Below w.heap.size w (Z0.setRow (w.heap.size + 2) fr) := setRow_below hdw (by omega) _
      have hEB : y.heap.size < (Z0.setRow (w.heap.size + 2) fr).heap.size := by rw [size_setRow]; exact hEd
      clear HRd HFd hdw d2'
      generalize Z0.setRow (w.heap.size + 2) fr = Z1 at *
      try simp only [Act.put]
      try simp only [List.setIfInBounds_toArray]
      try simp only [List.set_cons_zero, List.set_cons_succ]
      refine wpAnyH_ready (rs := [7]) (by kernel_rfl) (by simp) ?_
      refine AllReadyH.cons rfl (fun K hK => ?_) AllReadyH.nil
      go_simp
      have gA := (Below.refl Z1.heap.size Z1).alloc (Nat.le_refl _) (.cells #[.int .i64 2, .int .i64 who, .int .i64 m, .slice none 0 0, .slice o2 (s.ent m).first.length d2, .slice none 0 0, .slice none 0 0] 43)
      have hzA : (Z1.alloc (.cells #[.int .i64 2, .int .i64 who, .int .i64 m, .slice none 0 0, .slice o2 (s.ent m).first.length d2, .slice none 0 0, .slice none 0 0] 43)).heap.size = Z1.heap.size + 1 := size_push _ _
      refine hK.out _ _ (by exact ⟨⟨by rw [gA.block _ (by omega)]; exact hH.1.1, by rw [gA.block _ (by omega)]; exact hH.1.2⟩, by rw [gA.cell (p := ⟨y.heap.size, 2, none⟩) (by show y.heap.size < _; omega)]; exact hH.2⟩) (fun hH2 => ?_)
      clear hK K hH
      have hH := hH2
      clear hH2
      have aK : (Z1.alloc (.cells #[.int .i64 2, .int .i64 who, .int .i64 m, .slice none 0 0, .slice o2 (s.ent m).first.length d2, .slice none 0 0, .slice none 0 0] 43)).heap[Z1.heap.size]? = some (.cells #[.int .i64 2, .int .i64 who, .int .i64 m, .slice none 0 0, .slice o2 (s.ent m).first.length d2, .slice none 0 0, .slice none 0 0] 43 (0, 0)) := heap_new _ _
      have hV2 : (Z1.alloc (.cells #[.int .i64 2, .int .i64 who, .int .i64 m, .slice none 0 0, .slice o2 (s.ent m).first.length d2, .slice none 0 0, .slice none 0 0] 43)).heap[w.heap.size + 2]? = some (.cells fr 41 (0, 0)) := by rw [gA.block _ (by omega)]; exact b2
      have HNV : Hid (NodeC (lo ≤ ·) (Z1.alloc (.cells #[.int .i64 2, .int .i64 who, .int .i64 m, .slice none 0 0, .slice o2 (s.ent m).first.length d2, .slice none 0 0, .slice none 0 0] 43)) nv1 s) := HNB.out.later (SameOn.of_size gA)
      have HFrs : Hid (FramesV 0 (Z1.alloc (.cells #[.int .i64 2, .int .i64 who, .int .i64 m, .slice none 0 0, .slice o2 (s.ent m).first.length d2, .slice none 0 0, .slice none 0 0] 43)) (.slice (some ⟨Z1.heap.size, 0, none⟩) 1 1) [⟨2, who, m, [], (s.ent m).first, [], []⟩]) := by
        refine framesR_one aK ?_
        have hh := slI_same HFB2.out (w' := Z1.alloc (.cells #[.int .i64 2, .int .i64 who, .int .i64 m, .slice none 0 0, .slice o2 (s.ent m).first.length d2, .slice none 0 0, .slice none 0 0] 43)) (SameOn.of_size gA)
        exact ⟨hh.1, hh.2.mono (fun _ _ _ => Nat.zero_le _)⟩
      have hVw : Below w.heap.size w (Z1.alloc (.cells #[.int .i64 2, .int .i64 who, .int .i64 m, .slice none 0 0, .slice o2 (s.ent m).first.length d2, .slice none 0 0, .slice none 0 0] 43)) := hBw.trans (gA.mono (by omega))
      clear HNB HFB2 hBw b2 aK gA
      generalize Z1.alloc (.cells #[.int .i64 2, .int .i64 who, .int .i64 m, .slice none 0 0, .slice o2 (s.ent m).first.length d2, .slice none 0 0, .slice none 0 0] 43) = V at *
      refine wpAnyH_takeD (i := 9) (d := some 7) (v := .slice (some ⟨Z1.heap.size, 0, none⟩) 1 1) rfl rfl (by kernel_rfl) (by kernel_rfl) (by kernel_rfl) (fun _ _ _ h => h) (Or.inl ⟨by rfl, fun _ _ => by go_simp⟩) hH ?_
      try simp only [Act.put]
      try simp only [List.setIfInBounds_toArray]
      try simp only [List.set_cons_zero, List.set_cons_succ]
      refine wpAnyH_takeD (i := 10) (d := some 8) (v := .int .i64 0) rfl rfl (by kernel_rfl) (by kernel_rfl) (by kernel_rfl) (fun _ _ _ h => h) (Or.inl ⟨by rfl, fun _ _ => by go_simp⟩) hH ?_
      try simp only [Act.put]
      try simp only [List.setIfInBounds_toArray]
      try simp only [List.set_cons_zero, List.set_cons_succ]
      refine wpAnyH_done (by kernel_rfl) ?_ _
      clear hH
      go_wp2_with fail
      refine bodyPost_ret (v := .tuple #[.agg fr, .slice (some ⟨Z1.heap.size, 0, none⟩) 1 1, .int .i64 0]) (results_row2 Try.results24 _ _ (w.heap.size + 2) 41 fr (0, 0) _ rfl hV2 Try.underlying41 rfl hsfr _ _ rfl rfl) rfl ⟨nv1, _, by rw [Hfr.out, HTK.out], by rw [HTK.out]; exact HNV.out, by rw [HTK.out]; exact HFrs.out, hVw⟩

end Go.Proofs.Ytkoefoccbjhoiab
