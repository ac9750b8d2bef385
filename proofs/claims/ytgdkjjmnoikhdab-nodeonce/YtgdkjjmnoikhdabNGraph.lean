/-
  The contract of node's Graph.
-/
import Derived.Test.YtgdkjjmnoikhdabNAsk
import Derived.Test.YtgdkjjmnoikhdabGTwo
namespace Go.Proofs.Ytgdkjjmnoikhdab
open Go.RowKit

/-- The 64 cells of a graph, its lists in blocks of which 'ok' holds. -/
structure GraphIn (ok : Nat → Prop) (w : World) (gv : Nat → Value) (g : GraphL) : Prop where
  known : ∀ i, i < 32 → gv i = .bool (g.known i)
  deps : ∀ i, i < 32 → IsI ok w (gv (32 + i)) (g.deps i)
theorem GraphIn.later {ok : Nat → Prop} {w w' : World} {gv : Nat → Value} {g : GraphL} (h : GraphIn ok w gv g) (hB : SameOn ok w w') : GraphIn ok w' gv g := ⟨h.known, fun i hi => (h.deps i hi).later hB⟩
theorem GraphIn.c {ok : Nat → Prop} {w : World} {gv : Nat → Value} {g : GraphL} (h : GraphIn ok w gv g) : GraphC w.heap.size w gv g :=
  ⟨h.known, fun i hi => by
    obtain ⟨a, cap, e, hs⟩ := (h.deps i hi).sl
    exact ⟨a, cap, e, hs.1, hs.2.1⟩⟩
theorem GraphIn.one {ok : Nat → Prop} {w : World} {gv : Nat → Value} {g : GraphL} (h : GraphIn ok w gv g) : ∀ i, i < 64 → (gv i).oneCell' = true := by
  intro i hi
  by_cases h1 : i < 32
  · rw [h.known i h1]; rfl
  · have := (h.deps (i - 32) (by omega)).one
    rw [show 32 + (i - 32) = i by omega] at this
    exact this
def zg (i : Nat) : Value := if i < 32 then .bool false else .slice none 0 0
theorem Try.zeroGraph : (Try.prog.info? 26).map (·.zero) = some (some (.agg (rowF 64 zg))) := by kernel_rfl

/-- In the midst of it: the first k are done. -/
structure GrInv (w0 : World) (s : NodeL) (zr : Array Value) (gv : Nat → Value) (k : Nat) (w : World) : Prop where
  blk : BlkAt 64 w (w0.heap.size + 2) gv
  known : ∀ i, i < k → gv i = .bool (decide (2 ≤ (s.ent i).state))
  deps : ∀ i, i < k → IsI (fun b => w0.heap.size + 2 < b) w (gv (32 + i)) (s.ent i).deps
  below : Below w0.heap.size w0 w
  res : w.heap[w0.heap.size + 1]? = some (.cells zr 26 (0, 0))
theorem GrInv.lt {w0 : World} {s : NodeL} {zr : Array Value} {gv : Nat → Value} {k : Nat} {w : World} (h : GrInv w0 s zr gv k w) : w0.heap.size + 2 < w.heap.size := h.blk.lt
/-- A new block. -/
theorem GrInv.later {w0 : World} {s : NodeL} {zr : Array Value} {gv : Nat → Value} {k : Nat} {w w1 : World} (h : GrInv w0 s zr gv k w) (hb : Below w.heap.size w w1) : GrInv w0 s zr gv k w1 := by
  have := h.lt
  exact ⟨h.blk.later hb this, h.known, fun i hi => (h.deps i hi).later (SameOn.of_size hb), h.below.trans (hb.mono (by omega)), by rw [hb.block _ (by omega)]; exact h.res⟩
theorem GrInv.step {w0 : World} {s : NodeL} {zr : Array Value} {gv : Nat → Value} {k : Nat} {w w1 : World} {v : Value} (h : GrInv w0 s zr gv k w) (hk : k < 32) (hb : Below w.heap.size (w.setCell ⟨w0.heap.size + 2, k, none⟩ (.bool (decide (2 ≤ (s.ent k).state)))) w1)
    (hv : IsI (fun b => w0.heap.size + 2 < b) w1 v (s.ent k).deps) :
    GrInv w0 s zr (fun i => if i = 32 + k then v else if i = k then .bool (decide (2 ≤ (s.ent k).state)) else gv i) (k + 1) (w1.setCell ⟨w0.heap.size + 2, 32 + k, none⟩ v) := by
  have hl := h.lt
  have h1 : BlkAt 64 (w.setCell ⟨w0.heap.size + 2, k, none⟩ (.bool (decide (2 ≤ (s.ent k).state)))) (w0.heap.size + 2) (fun i => if i = k then .bool (decide (2 ≤ (s.ent k).state)) else gv i) := h.blk.put k _
  have h2 := (h1.later hb hl).put (32 + k) v
  refine ⟨h2, fun i hi => ?_, fun i hi => ?_, ?_, ?_⟩
  · show (if i = 32 + k then v else if i = k then _ else gv i) = _
    rw [if_neg (by omega)]
    by_cases e : i = k
    · subst e; rw [if_pos rfl]
    · rw [if_neg e]; exact h.known i (by omega)
  · show IsI _ _ (if 32 + i = 32 + k then v else if 32 + i = k then _ else gv (32 + i)) _
    have sm : SameOn (fun b => w0.heap.size + 2 < b) w1 (w1.setCell ⟨w0.heap.size + 2, 32 + k, none⟩ v) := fun b _ hb => Below.heap_setCell _ _ _ _ (show b ≠ w0.heap.size + 2 by omega)
    by_cases e : i = k
    · subst e; rw [if_pos rfl]; exact hv.later sm
    · rw [if_neg (by omega), if_neg (by omega)]
      refine ((h.deps i (by omega)).later fun b hb' hb2 => ?_).later sm
      rw [hb.block b hb']
      exact Below.heap_setCell _ _ _ _ (show b ≠ w0.heap.size + 2 by omega)
  · exact ((h.below.setCell (show w0.heap.size ≤ w0.heap.size + 2 by omega) _).trans (hb.mono (by omega))).setCell (show w0.heap.size ≤ w0.heap.size + 2 by omega) _
  · rw [Below.heap_setCell _ _ _ _ (by simp), hb.block _ (by omega), Below.heap_setCell _ _ _ _ (by simp)]
    exact h.res

set_option maxRecDepth 100000 in
set_option maxHeartbeats 1000000 in
theorem graph_any (nv : Nat → Value) (s : NodeL) (w : World) (h : NodeC (· < w.heap.size) w nv s) :
    Calls Try.prog 30 #[.agg (rowF 201 nv)] w fun r w' => ∃ gv, r = .returned (.agg (rowF 64 gv)) ∧ GraphIn (fun b => w.heap.size ≤ b) w' gv s.graph ∧ Below w.heap.size w w' := by
  obtain ⟨gr, hgr⟩ : ∃ gr, gr = rowF 201 nv := ⟨_, rfl⟩
  obtain ⟨zr, hzr⟩ : ∃ zr, zr = rowF 64 zg := ⟨_, rfl⟩
  have hz0 := Try.zeroGraph
  rw [← hgr]
  rw [← hzr] at hz0
  have HG : Hid (gr = rowF 201 nv) := hgr
  have HZ : Hid (zr = rowF 64 zg) := hzr
  have HN : Hid (NodeC (· < w.heap.size) w nv s) := h
  clear hgr hzr h
  obtain ⟨W, hW⟩ : ∃ W, W = ((w.alloc (.cells gr 41)).alloc (.cells zr 26)).alloc (.cells zr 26) := ⟨_, rfl⟩
  obtain ⟨r0, r1, r2⟩ := rows3 w (.cells gr 41) (.cells zr 26) (.cells zr 26)
  rw [← hW] at r0 r1 r2
  have hb : Below w.heap.size w W := by rw [hW]; exact (((Below.refl _ _).alloc (Nat.le_refl _) _).alloc (by rw [size_push]; omega) _).alloc (by rw [size_push, size_push]; omega) _
  have H0 : Hid (GrInv w s zr zg 0 W) := ⟨⟨26, by rw [← HZ.out]; exact r2⟩, fun i hi => by omega, fun i hi => by omega, hb, r1⟩
  have HBlk : BlkAt 201 W w.heap.size nv := ⟨41, by rw [← HG.out]; exact r0⟩
  have HR : W.rangeAt w.heap.size 0 (rowF 192 nv).toList := by
    have := BlkAt.range HBlk (o := 0) (n := 192) (by omega)
    simpa [rowF] using this
  obtain ⟨er, her⟩ : ∃ er, er = (rowF 192 nv).toList := ⟨_, rfl⟩
  have hsizeE : (Try.prog.info? 38).map (·.size) = some er.length := by rw [her, rowF_toList]; exact Try.infoEnts
  rw [← her] at HR
  have HER : Hid (er.toArray = rowF 192 nv) := by unfold Hid; rw [her]
  have HW : Hid (W = ((w.alloc (.cells gr 41)).alloc (.cells zr 26)).alloc (.cells zr 26)) := hW
  clear her hW r0 r1 r2 HBlk
  go_enter Try.func30, Try.ntmps30
  go_upto_region 2 with (first
    | (refine wpList_alloc_as rfl 26 rfl zr hz0 ?_)
    | fail)
  rw [← HW.out]
  clear HW hz0
  go_wp2_with (refine wpList_load_mid rfl 38 _ rfl w.heap.size 0 rfl er _ HR Try.underlying38 rfl hsizeE ?_)
  generalize er.toArray = ea at *
  go_loopw [8] (fun i wr => ∃ (k : Nat) (gv : Nat → Value), k ≤ 32 ∧ i = .int .i64 k ∧ Hid (GrInv w s zr gv k wr)) (fun i _ => 32 - (intOf i).toNat)
  case atStart => exact ⟨0, zg, Nat.zero_le _, rfl, H0⟩
  case round =>
    obtain ⟨k, gv, hk, rfl, H⟩ := hrel
    clear H0
    have hlt0 := H.out.lt
    by_cases hlt : k < 32
    · have hi := fun wx => run_index_ents nv hlt wx
      obtain ⟨a1, c1, a2, c2, a3, c3, a4, c4, a5, c5, ev, _, _, h3, _⟩ := (HN.out.es.ent k hlt).v
      have hl3 : (s.ent k).deps.length * 8 ≤ 140737488355328 := by
        obtain ⟨_, _, _, _, hl, _⟩ := (HN.out.es.ent k hlt).deps
        exact hl
      rw [← HER.out, ev] at hi
      have H3 : Hid (SlInts w a3 c3 (s.ent k).deps) := h3
      have n1 : (0 : Int) ≤ (k : Int) ∧ (k : Int) < 32 := by omega
      have f0 := H.out.blk.cell (i := k) (by omega)
      have f1 := H.out.blk.frozen k
      clear ev h3
      go_wp2_with fail
      obtain ⟨X, hX⟩ : ∃ X, X = (wr.setCell ⟨w.heap.size + 1 + 1, k, none⟩ (.bool (decide (2 ≤ (s.ent k).state)))).alloc (.cells #[.int .i64 (s.ent k).state, .slice a1 (s.ent k).ops.length c1, .slice a2 (s.ent k).first.length c2, .slice a3 (s.ent k).deps.length c3, .slice a4 (s.ent k).ats.length c4, .slice a5 (s.ent k).vals.length c5] 37) := ⟨_, rfl⟩
      have hz1 : (wr.setCell ⟨w.heap.size + 2, k, none⟩ (.bool (decide (2 ≤ (s.ent k).state)))).heap.size = wr.heap.size := by simp [World.setCell]
      have hbX : Below wr.heap.size (wr.setCell ⟨w.heap.size + 2, k, none⟩ (.bool (decide (2 ≤ (s.ent k).state)))) X := by rw [hX]; exact (Below.refl _ _).alloc (by omega) _
      have hbwX : Below w.heap.size w X := (H.out.below.setCell (show w.heap.size ≤ w.heap.size + 2 by omega) _).trans (hbX.mono (by omega))
      have hzX := hbX.size
      have B1 : BlkAt 64 X (w.heap.size + 2) _ := (H.out.blk.put k (.bool (decide (2 ≤ (s.ent k).state)))).later hbX (by omega)
      have HX : Hid (X = (wr.setCell ⟨w.heap.size + 1 + 1, k, none⟩ (.bool (decide (2 ≤ (s.ent k).state)))).alloc (.cells #[.int .i64 (s.ent k).state, .slice a1 (s.ent k).ops.length c1, .slice a2 (s.ent k).first.length c2, .slice a3 (s.ent k).deps.length c3, .slice a4 (s.ent k).ats.length c4, .slice a5 (s.ent k).vals.length c5] 37)) := hX
      clear hX
      rw [← HX.out]
      refine (cloneI_any a3 c3 (s.ent k).deps X (H3.out.later hbwX) hl3).mono ?_
      rintro r x1 ⟨v1, rfl, hc1⟩
      obtain ⟨b1, d1, rfl, _⟩ := own_form hc1.1
      have hb1 : Below wr.heap.size (wr.setCell ⟨w.heap.size + 2, k, none⟩ (.bool (decide (2 ≤ (s.ent k).state)))) x1 := hbX.trans (hc1.2.2.mono (by omega))
      have HN1 : Hid (GrInv w s zr _ (k + 1) (x1.setCell ⟨w.heap.size + 2, 32 + k, none⟩ (.slice b1 (s.ent k).deps.length d1))) := H.out.step hlt hb1 (hc1.is hl3 _ (fun b hb => by omega))
      have B2 := B1.later hc1.2.2 (by omega)
      have f2 := B2.cell (i := 32 + k) (by omega)
      have f3 := B2.frozen (32 + k)
      rw [if_neg (by omega)] at f2
      clear f0 f1 hi H B1 B2 hc1 hb1 hbX hbwX HX hz1
      go_wp2
      go_roundw
      case rel => exact ⟨k + 1, _, by omega, by go_num, HN1⟩
      case measure => simp [intOf]; omega
    · obtain rfl : k = 32 := by omega
      obtain ⟨t, hblk⟩ := H.out.blk
      have hres := H.out.res
      obtain ⟨fr, hfr⟩ : ∃ fr, fr = rowF 64 gv := ⟨_, rfl⟩
      have hsize : (Try.prog.info? 26).map (·.size) = some fr.size := by rw [hfr, rowF_size]; exact Try.infoGraph
      have hzs : zr.size = fr.size := by rw [hfr, HZ.out, rowF_size, rowF_size]
      have GI : GraphIn (fun b => w.heap.size + 2 < b) wr gv s.graph := ⟨fun i hi => H.out.known i hi, fun i hi => H.out.deps i hi⟩
      have hone : fr.all (·.oneCell') = true := by rw [hfr]; exact rowF_all GI.one
      rw [← hfr] at hblk
      have HFR : Hid (fr = rowF 64 gv) := hfr
      have HF : Hid (GraphIn (fun b => w.heap.size ≤ b) (wr.setRow (w.heap.size + 1) fr) gv s.graph ∧ Below w.heap.size w (wr.setRow (w.heap.size + 1) fr)) := by
        refine ⟨⟨GI.known, fun i hi => ((GI.deps i hi).later fun b _ hb => setRow_other _ _ (show b ≠ w.heap.size + 1 by omega)).mono (fun b _ hb => by omega)⟩, setRow_below H.out.below (by omega) _⟩
      clear hfr GI H
      go_wp2_with (first
        | (refine wpList_load_row rfl 26 _ rfl (w.heap.size + 2) rfl t fr (0, 0) _ hblk Try.underlying26 rfl hsize ?_)
        | (refine wpList_store_row rfl 26 _ _ rfl (w.heap.size + 1) fr rfl rfl 26 _ hres hsize hzs hone ?_))
      refine bodyPost_ret (v := .agg fr) (results_cell_row Try.results30 _ _ (w.heap.size + 1) 26 _ (0, 0) _ rfl (heap_setRow hres) Try.underlying26 rfl hsize) rfl ⟨gv, by rw [HFR.out], HF.out⟩

end Go.Proofs.Ytgdkjjmnoikhdab
