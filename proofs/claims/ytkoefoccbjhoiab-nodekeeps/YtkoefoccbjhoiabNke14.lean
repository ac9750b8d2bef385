/-
  The walk of the statement NodeKeeps.
-/
import Derived.Test.YtkoefoccbjhoiabNke13
namespace Go.Proofs.Ytkoefoccbjhoiab
open Go.RowKit

theorem IntsAt.take {B : Nat} {w : World} {a : Option Addr} {zs l : List Int} (h : IntsAt B w a (zs ++ l)) : IntsAt B w a zs := by
  rcases h with h | ⟨b, off, ha, hb, hc⟩
  · simp at h
    exact Or.inl h.1
  · refine Or.inr ⟨b, off, ha, hb, fun i hi => ?_⟩
    rw [hc i (by simp; omega)]
    congr 2
    simp only [List.getD]
    rw [List.getElem?_append_left hi]
def ezL : Array Value := #[.int .i64 0, .slice none 0 0, .slice none 0 0, .slice none 0 0, .slice none 0 0, .slice none 0 0]
theorem Try.zeroEntry : (Try.prog.info? 37).map (·.zero) = some (some (.agg ezL)) := by kernel_rfl
theorem Try.sizeEz : ezL.size = 6 := rfl
theorem wp_alloc_as {P : Program} {w : World} {o : Oper} {a : Act} {K : Act → World → Prop} {Q : Exit → Act → World → Prop} (ty : TypeId) (ho : o.op = .alloc ty) (cs : Array Value) (hz : (P.info? ty).map (·.zero) = some (some (.agg cs)))
    (h : K (a.put o.dst (.pointer (some ⟨w.heap.size, 0, none⟩))) (w.alloc (.cells cs ty))) : o.wp P a w K Q := by
  cases hq : P.info? ty with
  | none => simp [hq] at hz
  | some i =>
    have hzz : i.zero = some (.agg cs) := by simpa [hq] using hz
    unfold Oper.wp execOp
    simp [ho, Instr.alloc, zeroValue, typeInfo, hq, hzz, newVar, newRow, Value.cells, go_sem]
    exact h
theorem take_keep {s : NodeL} {who : Int} {f : FrameL} (h : (takeN s who f).2.2 = 0) (h32 : ∀ n, 32 ≤ n → s.ent n = zeroE) : Keeps s (takeN s who f).1 ∧ GoodN s := by
  rcases take_cases s who f with ⟨h1, _⟩ | ⟨hg, _⟩
  · exact absurd h h1
  · exact ⟨take_keeps s who f (nonneg_states hg h32), hg⟩

set_option maxRecDepth 100000 in
set_option maxHeartbeats 2000000 in
theorem keeps_walk (nv : Nat → Value) (s : NodeL) (who : Int) (v : Value) (f : FrameL) (w : World) (h : NodeC (· < w.heap.size) w nv s) (h32 : ∀ n, 32 ≤ n → s.ent n = zeroE) (hf : FrameV w v f) :
    Calls Try.prog 9 #[.agg (rowF 201 nv), .int .i64 who, v] w fun r w' => r = .returned (.bool true) ∧ Below w.heap.size w w' := by
  obtain ⟨gr, hgr⟩ : ∃ gr, gr = rowF 201 nv := ⟨_, rfl⟩
  obtain ⟨zr, hzr⟩ : ∃ zr, zr = rowF 201 zv := ⟨_, rfl⟩
  have hz0 := Try.zeroNode
  rw [← hzr] at hz0
  have hsg : (Try.prog.info? 41).map (·.size) = some gr.size := by rw [hgr, rowF_size]; exact Try.infoNode
  rw [← hgr]
  have HGR : Hid (gr = rowF 201 nv) := hgr
  have HZR : Hid (zr = rowF 201 zv) := hzr
  have HN : Hid (NodeC (· < w.heap.size) w nv s) := h
  have H32 : Hid (∀ n, 32 ≤ n → s.ent n = zeroE) := h32
  have HFV : Hid (∀ x, Below w.heap.size w x → FrameV x v f) := fun x hx => hf.later hx
  obtain ⟨a3, c3, a4, c4, a5, c5, a6, c6, rfl, _⟩ := hf
  obtain ⟨W, hW⟩ : ∃ W, W = (w.alloc (.cells gr 41)).alloc (.cells #[.int .i64 f.kind, .int .i64 f.node, .int .i64 f.id, .slice a3 f.ops.length c3, .slice a4 f.deps.length c4, .slice a5 f.ats.length c5, .slice a6 f.vals.length c6] 43) := ⟨_, rfl⟩
  obtain ⟨r0, r1⟩ := two_rows w (.cells gr 41) (.cells #[.int .i64 f.kind, .int .i64 f.node, .int .i64 f.id, .slice a3 f.ops.length c3, .slice a4 f.deps.length c4, .slice a5 f.ats.length c5, .slice a6 f.vals.length c6] 43)
  rw [← hW] at r0 r1
  have hb : Below w.heap.size w W := by rw [hW]; exact ((Below.refl _ _).alloc (Nat.le_refl _) _).alloc (by rw [size_push]; omega) _
  have hzW : W.heap.size = w.heap.size + 2 := by rw [hW, size_push, size_push]
  have HW : Hid (W = (w.alloc (.cells gr 41)).alloc (.cells #[.int .i64 f.kind, .int .i64 f.node, .int .i64 f.id, .slice a3 f.ops.length c3, .slice a4 f.deps.length c4, .slice a5 f.ats.length c5, .slice a6 f.vals.length c6] 43)) := hW
  obtain ⟨T, hT⟩ : ∃ T, T = takeN s who f := ⟨_, rfl⟩
  have HT : Hid (T = takeN s who f) := hT
  have hTA := take_any nv s who _ f W (HN.out.below hb) (HFV.out W hb)
  rw [← hT, ← hgr] at hTA
  have HTA : Hid (Calls Try.prog 23 #[.agg gr, .int .i64 who, .agg #[.int .i64 f.kind, .int .i64 f.node, .int .i64 f.id, .slice a3 f.ops.length c3, .slice a4 f.deps.length c4, .slice a5 f.ats.length c5, .slice a6 f.vals.length c6]] W fun r w' => ∃ nv' x, r = .returned (.tuple #[.agg (rowF 201 nv'), x, .int .i64 T.2.2]) ∧ NodeC (· < w'.heap.size) w' nv' T.1 ∧ FramesV W.heap.size w' x T.2.1 ∧ Below W.heap.size W w') := hTA
  clear hgr hzr h hW h32 hT hTA
  go_enter Try.func9, Try.ntmps9
  go_upto_region 1 with fail
  rw [← HW.out]
  clear HW
  go_wp2_with (first | (refine wpList_load_row rfl 41 _ rfl (w.heap.size) rfl 41 gr (0, 0) _ r0 Try.underlying41 rfl hsg ?_) | (refine wpList_load_row rfl 43 _ rfl (w.heap.size + 1) rfl 43 _ (0, 0) _ r1 Try.underlying43 rfl Try.infoFrame7 ?_))
  refine HTA.out.mono ?_
  rintro r w1 ⟨nv1, x, rfl, hnc, hfs, hb1⟩
  have p0 : w1.heap[w.heap.size]? = some (.cells gr 41 (0, 0)) := by rw [hb1.block _ (by omega)]; exact r0
  have p1 : w1.heap[w.heap.size + 1]? = some (.cells #[.int .i64 f.kind, .int .i64 f.node, .int .i64 f.id, .slice a3 f.ops.length c3, .slice a4 f.deps.length c4, .slice a5 f.ats.length c5, .slice a6 f.vals.length c6] 43 (0, 0)) := by rw [hb1.block _ (by omega)]; exact r1
  have hz1 := hb1.size
  have hbw1 : Below w.heap.size w w1 := hb.trans (hb1.mono (by omega))
  obtain ⟨fa, hfa⟩ : ∃ fa, fa = rowF 201 nv1 := ⟨_, rfl⟩
  rw [← hfa]
  have hsfa : (Try.prog.info? 41).map (·.size) = some fa.size := by rw [hfa, rowF_size]; exact Try.infoNode
  have hzfa : zr.size = fa.size := by rw [hfa, HZR.out, rowF_size, rowF_size]
  have hofa : fa.all (·.oneCell') = true := by rw [hfa]; exact rowF_all hnc.one
  have hrfa : (w1.alloc (.cells zr 41)).heap[w1.heap.size]? = some (.cells zr 41 (0, 0)) := heap_new _ _
  obtain ⟨X, hX⟩ : ∃ X, X = (w1.alloc (.cells zr 41)).setRow w1.heap.size fa := ⟨_, rfl⟩
  have hbX : Below w1.heap.size w1 X := by rw [hX]; exact setRow_below ((Below.refl _ _).alloc (Nat.le_refl _) _) (Nat.le_refl _) _
  have rX : X.heap[w1.heap.size]? = some (.cells fa 41 (0, 0)) := by rw [hX]; exact heap_setRow hrfa
  have hzX : X.heap.size = w1.heap.size + 1 := by rw [hX, size_setRow]; exact size_push _ _
  have Hfa : Hid (fa = rowF 201 nv1) := hfa
  have HX : Hid (X = (w1.alloc (.cells zr 41)).setRow w1.heap.size fa) := hX
  clear hfa hX
  have HNX : Hid (NodeC (· < X.heap.size) X nv1 T.1) := hnc.below hbX
  have HFX : Hid (FramesV W.heap.size X x T.2.1) := hfs.later hbX
  have hbwX : Below w.heap.size w X := hbw1.trans (hbX.mono (by omega))
  have x0 : X.heap[w.heap.size]? = some (.cells gr 41 (0, 0)) := by rw [hbX.block _ (by omega)]; exact p0
  have x1 : X.heap[w.heap.size + 1]? = some (.cells #[.int .i64 f.kind, .int .i64 f.node, .int .i64 f.id, .slice a3 f.ops.length c3, .slice a4 f.deps.length c4, .slice a5 f.ats.length c5, .slice a6 f.vals.length c6] 43 (0, 0)) := by rw [hbX.block _ (by omega)]; exact p1
  clear hnc hfs hb1 p0 p1 r0 r1 hbw1 hbX HTA hb
  go_upto_region 2 with (first | (refine wpList_alloc_as rfl 41 rfl zr hz0 ?_) | (refine wpList_store_row rfl 41 _ _ rfl w1.heap.size fa rfl rfl 41 _ hrfa hsfa hzfa hofa ?_))
  rw [← HX.out]
  clear HX hrfa
  obtain ⟨ax, cx, ex⟩ := HFX.out.form
  subst ex
  by_cases t0 : T.2.2 = 0
  · have d0 : (T.2.2 != 0) = false := by simpa using t0
    have HKP : Hid (Keeps s T.1 ∧ GoodN s) := by
      unfold Hid
      rw [HT.out] at t0 ⊢
      exact take_keep t0 H32.out
    clear t0
    go_wp2_with fail
    refine (keep_takes X).mono ?_
    rintro r x2 ⟨rfl, hb2⟩
    have HN2 : Hid (NodeC (· < x2.heap.size) x2 nv1 T.1) := HNX.out.below hb2
    have hbw2 : Below w.heap.size w x2 := hbwX.trans (hb2.mono (by omega))
    have hz2 := hb2.size
    have ra : x2.heap[w1.heap.size]? = some (.cells fa 41 (0, 0)) := by rw [hb2.block _ (by omega)]; exact rX
    have rs : x2.heap[w.heap.size]? = some (.cells gr 41 (0, 0)) := by rw [hb2.block _ (by omega)]; exact x0
    have HBa : Hid (BlkAt 201 x2 w1.heap.size nv1) := ⟨_, by rw [← Hfa.out]; exact ra⟩
    have HBs : Hid (BlkAt 201 x2 w.heap.size nv) := ⟨_, by rw [← HGR.out]; exact rs⟩
    have HN0 : Hid (NodeC (· < x2.heap.size) x2 nv s) := HN.out.below hbw2
    have hzz : w1.heap.size < x2.heap.size := by omega
    have hzy : w.heap.size < x2.heap.size := by omega
    clear hb2 HNX HFX x0 x1 rX hbwX ra rs
    go_wp2_with fail
    go_loopw [28] (fun i wr => ∃ k : Nat, k ≤ 32 ∧ i = .int .i64 k ∧ Below x2.heap.size x2 wr) (fun i _ => 32 - (intOf i).toNat)
    case atStart => exact ⟨0, Nat.zero_le _, rfl, Below.refl _ _⟩
    case round =>
      obtain ⟨k, hk, rfl, hB⟩ := hrel
      have hbwr : Below w.heap.size w wr := hbw2.trans (hB.mono (by omega))
      have hszr := hB.size
      have HBar : Hid (BlkAt 201 wr w1.heap.size nv1) := HBa.out.later hB (by omega)
      have HBsr : Hid (BlkAt 201 wr w.heap.size nv) := HBs.out.later hB (by omega)
      by_cases hlt : k < 32
      · have n1 : (0 : Int) ≤ (k : Int) ∧ (k : Int) < 32 := by omega
        obtain ⟨a1, c1, a2, c2, b3, e3, b4, e4, b5, e5, ex, X1, X2, X3, X4, X5, XL⟩ := ((HN0.out.below hB).es.ent k hlt).v
        obtain ⟨a1', c1', a2', c2', b3', e3', b4', e4', b5', e5', ey, Y1, Y2, Y3, Y4, Y5, YL⟩ := ((HN2.out.below hB).es.ent k hlt).v
        have kst := HKP.out.1.state k
        have kfi := HKP.out.1.first k
        have kfx := HKP.out.1.fixed k
        have kdn := HKP.out.1.done k
        have kgs := HKP.out.2.state hlt
        obtain ⟨ca, hca⟩ : ∃ ca, ca = (sixV nv (k * 6)).toList := ⟨_, rfl⟩
        obtain ⟨cb, hcb⟩ : ∃ cb, cb = (sixV nv1 (k * 6)).toList := ⟨_, rfl⟩
        have ra : wr.rangeAt w.heap.size (k * 6) ca := by
          rw [hca]
          exact BlkAt.range HBsr.out (o := k * 6) (n := 6) (by omega)
        have rb : wr.rangeAt w1.heap.size (k * 6) cb := by
          rw [hcb]
          exact BlkAt.range HBar.out (o := k * 6) (n := 6) (by omega)
        have hsa : (Try.prog.info? 37).map (·.size) = some ca.length := by rw [hca]; exact Try.infoEntry
        have hsb : (Try.prog.info? 37).map (·.size) = some cb.length := by rw [hcb]; exact Try.infoEntry
        have hca' : Value.agg ca.toArray = .agg (sixV nv (k * 6)) := by rw [hca]
        have hcb' : Value.agg cb.toArray = .agg (sixV nv1 (k * 6)) := by rw [hcb]
        rw [← hca'] at ex
        rw [← hcb'] at ey
        clear hca hcb hca' hcb'
        generalize s.ent k = xe at *
        generalize T.1.ent k = ye at *
        obtain ⟨xst, xops, xfi, xde, xat, xva⟩ := xe
        obtain ⟨yst, yops, yfi, yde, yat, yva⟩ := ye
        simp only at ex ey X1 X2 X3 X4 X5 XL Y1 Y2 Y3 Y4 Y5 YL kst kfi kfx kdn kgs
        have HEX : Hid (Value.agg ca.toArray = .agg #[.int .i64 xst, .slice a1 xops.length c1, .slice a2 xfi.length c2, .slice b3 xde.length e3, .slice b4 xat.length e4, .slice b5 xva.length e5]) := ex
        have HEY : Hid (Value.agg cb.toArray = .agg #[.int .i64 yst, .slice a1' yops.length c1', .slice a2' yfi.length c2', .slice b3' yde.length e3', .slice b4' yat.length e4', .slice b5' yva.length e5']) := ey
        have HVX : Hid (EntV wr (.agg #[.int .i64 xst, .slice a1 xops.length c1, .slice a2 xfi.length c2, .slice b3 xde.length e3, .slice b4 xat.length e4, .slice b5 xva.length e5]) ⟨xst, xops, xfi, xde, xat, xva⟩) := ⟨a1, c1, a2, c2, b3, e3, b4, e4, b5, e5, rfl, X1, X2, X3, X4, X5, XL⟩
        have HVY : Hid (EntV wr (.agg #[.int .i64 yst, .slice a1' yops.length c1', .slice a2' yfi.length c2', .slice b3' yde.length e3', .slice b4' yat.length e4', .slice b5' yva.length e5']) ⟨yst, yops, yfi, yde, yat, yva⟩) := ⟨a1', c1', a2', c2', b3', e3', b4', e4', b5', e5', rfl, Y1, Y2, Y3, Y4, Y5, YL⟩
        have KST : Hid (xst ≤ yst) := kst
        have KFI : Hid (xst ≠ 0 → yfi = xfi) := kfi
        have KFX : Hid (2 ≤ xst → yde = xde ∧ yops = xops) := kfx
        have KDN : Hid (xst = 3 → EntryL.mk yst yops yfi yde yat yva = EntryL.mk xst xops xfi xde xat xva) := kdn
        have HXE : Hid (ca.toArray = #[.int .i64 xst, .slice a1 xops.length c1, .slice a2 xfi.length c2, .slice b3 xde.length e3, .slice b4 xat.length e4, .slice b5 xva.length e5]) := by unfold Hid; simpa using ex
        have HYE : Hid (cb.toArray = #[.int .i64 yst, .slice a1' yops.length c1', .slice a2' yfi.length c2', .slice b3' yde.length e3', .slice b4' yat.length e4', .slice b5' yva.length e5']) := by unfold Hid; simpa using ey
        obtain ⟨ez, hez0⟩ : ∃ ez, ez = ezL := ⟨_, rfl⟩
        have hez := Try.zeroEntry
        rw [← hez0] at hez
        have hsa2 : (Try.prog.info? 37).map (·.size) = some ca.toArray.size := by rw [HXE.out]; exact Try.infoEntry
        have hsb2 : (Try.prog.info? 37).map (·.size) = some cb.toArray.size := by rw [HYE.out]; exact Try.infoEntry
        have hza : ez.size = ca.toArray.size := by rw [HXE.out, hez0]; exact Try.sizeEz
        have hzb : ez.size = cb.toArray.size := by rw [HYE.out, hez0]; exact Try.sizeEz
        have hca1 : ca.toArray.all (·.oneCell') = true := by rw [HXE.out]; simp [Value.oneCell']
        have hcb1 : cb.toArray.all (·.oneCell') = true := by rw [HYE.out]; simp [Value.oneCell']
        clear hez0 ex ey kst kfi kfx kdn X1 X2 X3 X4 X5 XL Y1 Y2 Y3 Y4 Y5 YL
        go_wp2_with fail
        have HRa : Hid (∀ wx, Below wr.heap.size wr wx → wx.rangeAt w.heap.size (k * 6) ca) := fun wx hx => range_later ra hx (by omega)
        have HRb : Hid (∀ wx, Below wr.heap.size wr wx → wx.rangeAt w1.heap.size (k * 6) cb) := fun wx hx => range_later rb hx (by omega)
        clear ra rb
        refine wp_region_held_drew (S := fun w' => Below wr.heap.size wr w') (by kernel_rfl) ((Below.refl _ _).drew) ?_
        intro hH
        have hle : wr.heap.size ≤ wr.drew.heap.size := Nat.le_refl _
        generalize wr.drew = V0 at *
        refine wpAnyH_takeD (i := 0) (d := some 31) (v := .int .i64 k) rfl rfl (by kernel_rfl) (by kernel_rfl) (by kernel_rfl) (fun _ _ _ h => h) (Or.inl ⟨by rfl, fun _ _ => by go_simp⟩) hH ?_
        simp only [Act.put, List.setIfInBounds_toArray, List.set_cons_zero, List.set_cons_succ]
        refine wpAnyH_takeD (i := 1) (d := some 32) (v := .pointer (some ⟨w.heap.size, 0, none⟩)) rfl rfl (by kernel_rfl) (by kernel_rfl) (by kernel_rfl) (fun _ _ _ h => h) (Or.inl ⟨by rfl, fun _ _ => by go_simp⟩) hH ?_
        simp only [Act.put, List.setIfInBounds_toArray, List.set_cons_zero, List.set_cons_succ]
        refine wpAnyH_takeD (i := 2) (d := some 33) (v := .pointer (some ⟨w.heap.size, k * 6, none⟩)) rfl rfl (by kernel_rfl) (by kernel_rfl) (by kernel_rfl) (fun _ _ _ h => h) (Or.inl ⟨by rfl, fun _ _ => by go_simp⟩) hH ?_
        simp only [Act.put, List.setIfInBounds_toArray, List.set_cons_zero, List.set_cons_succ]
        refine wpAnyH_takeD (i := 3) (d := some 34) (v := .agg ca.toArray) rfl rfl (by kernel_rfl) (by kernel_rfl) (by kernel_rfl) (fun _ _ _ h => h) (yieldsIf_load_mid (by rfl) _ _ rfl _ _ rfl ca _ (HRa.out) Try.underlying37 rfl hsa) hH ?_
        simp only [Act.put, List.setIfInBounds_toArray, List.set_cons_zero, List.set_cons_succ]
        refine wpAnyH_takeD (i := 4) (d := some 35) (v := .int .i64 k) rfl rfl (by kernel_rfl) (by kernel_rfl) (by kernel_rfl) (fun _ _ _ h => h) (Or.inl ⟨by rfl, fun _ _ => by go_simp⟩) hH ?_
        simp only [Act.put, List.setIfInBounds_toArray, List.set_cons_zero, List.set_cons_succ]
        refine wpAnyH_takeD (i := 5) (d := some 36) (v := .pointer (some ⟨w1.heap.size, 0, none⟩)) rfl rfl (by kernel_rfl) (by kernel_rfl) (by kernel_rfl) (fun _ _ _ h => h) (Or.inl ⟨by rfl, fun _ _ => by go_simp⟩) hH ?_
        simp only [Act.put, List.setIfInBounds_toArray, List.set_cons_zero, List.set_cons_succ]
        refine wpAnyH_takeD (i := 6) (d := some 37) (v := .pointer (some ⟨w1.heap.size, k * 6, none⟩)) rfl rfl (by kernel_rfl) (by kernel_rfl) (by kernel_rfl) (fun _ _ _ h => h) (Or.inl ⟨by rfl, fun _ _ => by go_simp⟩) hH ?_
        simp only [Act.put, List.setIfInBounds_toArray, List.set_cons_zero, List.set_cons_succ]
        refine wpAnyH_takeD (i := 7) (d := some 38) (v := .agg cb.toArray) rfl rfl (by kernel_rfl) (by kernel_rfl) (by kernel_rfl) (fun _ _ _ h => h) (yieldsIf_load_mid (by rfl) _ _ rfl _ _ rfl cb _ (HRb.out) Try.underlying37 rfl hsb) hH ?_
        simp only [Act.put, List.setIfInBounds_toArray, List.set_cons_zero, List.set_cons_succ]
        refine wpAnyH_ready (rs := [8, 9]) (by kernel_rfl) (by simp) ?_
        refine AllReadyH.cons rfl (fun K hK => ?_) (AllReadyH.cons rfl (fun K hK => ?_) AllReadyH.nil)
        · rw [if_pos (by rfl)]
          refine wp_alloc_as 37 rfl ez hez ?_
          refine hK.out _ _ (hH.alloc (by have := hH.size; omega) _) (fun hH2 => ?_)
          clear hK K hH
          have hH := hH2
          clear hH2
          try simp only [Act.put]
          try simp only [List.setIfInBounds_toArray]
          try simp only [List.set_cons_zero, List.set_cons_succ]
          refine wpAnyH_ready (rs := [9]) (by kernel_rfl) (by simp) ?_
          refine AllReadyH.cons rfl (fun K hK => ?_) AllReadyH.nil
          rw [if_pos (by rfl)]
          refine wp_alloc_as 37 rfl ez hez ?_
          refine hK.out _ _ (hH.alloc (by have := hH.size; omega) _) (fun hH2 => ?_)
          clear hK K hH
          have hH := hH2
          clear hH2
          try simp only [Act.put]
          try simp only [List.setIfInBounds_toArray]
          try simp only [List.set_cons_zero, List.set_cons_succ]
          have hz1 : (V0.alloc (.cells ez 37)).heap.size = V0.heap.size + 1 := size_push _ _
          obtain ⟨q0, q1⟩ := two_rows V0 (.cells ez 37) (.cells ez 37)
          obtain ⟨V2, hV2⟩ : ∃ V2, V2 = (V0.alloc (.cells ez 37)).alloc (.cells ez 37) := ⟨_, rfl⟩
          rw [hz1, ← hV2]
          rw [← hV2] at q0 q1 hH
          have hz2 : V2.heap.size = V0.heap.size + 2 := by rw [hV2, size_push, size_push]
          clear hV2 hz1
          refine wpAnyH_ready (rs := [10]) (by kernel_rfl) (by simp) ?_
          refine AllReadyH.cons rfl (fun K hK => ?_) AllReadyH.nil
          rw [if_pos (by rfl)]
          refine wp_store_row 37 _ _ rfl (V0.heap.size) ca.toArray rfl rfl 37 ez q0 hsa2 hza hca1 ?_
          refine hK.out _ _ (setRow_below hH (by omega) _) (fun hH2 => ?_)
          clear hK K hH
          have hH := hH2
          clear hH2
          have q2 : (V2.setRow (V0.heap.size) ca.toArray).heap[V0.heap.size + 1]? = some (.cells ez 37 (0, 0)) := by rw [setRow_other _ _ (by omega)]; exact q1
          refine wpAnyH_ready (rs := [11]) (by kernel_rfl) (by simp) ?_
          refine AllReadyH.cons rfl (fun K hK => ?_) AllReadyH.nil
          rw [if_pos (by rfl)]
          refine wp_store_row 37 _ _ rfl (V0.heap.size + 1) cb.toArray rfl rfl 37 ez q2 hsb2 hzb hcb1 ?_
          refine hK.out _ _ (setRow_below hH (by omega) _) (fun hH2 => ?_)
          clear hK K hH
          have hH := hH2
          clear hH2
          refine wpAnyH_done (by kernel_rfl) ?_ _
          have rP : ((V2.setRow (V0.heap.size) ca.toArray).setRow (V0.heap.size + 1) cb.toArray).heap[V0.heap.size]? = some (.cells #[.int .i64 xst, .slice a1 xops.length c1, .slice a2 xfi.length c2, .slice b3 xde.length e3, .slice b4 xat.length e4, .slice b5 xva.length e5] 37 (0, 0)) := by rw [setRow_other _ _ (by omega), heap_setRow q0, HXE.out]
          have rQ : ((V2.setRow (V0.heap.size) ca.toArray).setRow (V0.heap.size + 1) cb.toArray).heap[V0.heap.size + 1]? = some (.cells #[.int .i64 yst, .slice a1' yops.length c1', .slice a2' yfi.length c2', .slice b3' yde.length e3', .slice b4' yat.length e4', .slice b5' yva.length e5'] 37 (0, 0)) := by rw [heap_setRow q2, HYE.out]
          have hzZ : ((V2.setRow (V0.heap.size) ca.toArray).setRow (V0.heap.size + 1) cb.toArray).heap.size = V0.heap.size + 2 := by rw [size_setRow, size_setRow]; exact hz2
          have hHZ := hH
          generalize (V2.setRow (V0.heap.size) ca.toArray).setRow (V0.heap.size + 1) cb.toArray = Z at *
          clear q0 q1 q2 hH
          have hBZ : Below x2.heap.size x2 Z := hB.trans (hHZ.mono (by omega))
          have HVX' : Hid (∀ wx, Below Z.heap.size Z wx → EntV wx (.agg #[.int .i64 xst, .slice a1 xops.length c1, .slice a2 xfi.length c2, .slice b3 xde.length e3, .slice b4 xat.length e4, .slice b5 xva.length e5]) ⟨xst, xops, xfi, xde, xat, xva⟩) := fun wx hx => (HVX.out.later hHZ).later hx
          have HVY' : Hid (∀ wx, Below Z.heap.size Z wx → EntV wx (.agg #[.int .i64 yst, .slice a1' yops.length c1', .slice a2' yfi.length c2', .slice b3' yde.length e3', .slice b4' yat.length e4', .slice b5' yva.length e5']) ⟨yst, yops, yfi, yde, yat, yva⟩) := fun wx hx => (HVY.out.later hHZ).later hx
          have KC : Hid (∀ wx, Below Z.heap.size Z wx → (wx.heap[V0.heap.size]? = some (.cells #[.int .i64 xst, .slice a1 xops.length c1, .slice a2 xfi.length c2, .slice b3 xde.length e3, .slice b4 xat.length e4, .slice b5 xva.length e5] 37 (0, 0)) ∧ wx.heap[V0.heap.size + 1]? = some (.cells #[.int .i64 yst, .slice a1' yops.length c1', .slice a2' yfi.length c2', .slice b3' yde.length e3', .slice b4' yat.length e4', .slice b5' yva.length e5'] 37 (0, 0)))) := fun wx hx => ⟨by rw [hx.block _ (by omega)]; exact rP, by rw [hx.block _ (by omega)]; exact rQ⟩
          have SX : Hid (∀ wx, Below Z.heap.size Z wx → SlOps wx a1 c1 xops ∧ SlInts wx a2 c2 xfi ∧ SlInts wx b3 e3 xde) := fun wx hx => by
            obtain ⟨_, _, _, _, _, _, _, _, _, _, ev, h1, h2, h3, _⟩ := HVX'.out wx hx
            simp only [Value.agg.injEq, Array.mk.injEq, List.cons.injEq, Value.slice.injEq] at ev
            obtain ⟨_, ⟨rfl, _, rfl⟩, ⟨rfl, _, rfl⟩, ⟨rfl, _, rfl⟩, _⟩ := ev
            exact ⟨h1, h2, h3⟩
          have SY : Hid (∀ wx, Below Z.heap.size Z wx → SlOps wx a1' c1' yops ∧ SlInts wx a2' c2' yfi ∧ SlInts wx b3' e3' yde) := fun wx hx => by
            obtain ⟨_, _, _, _, _, _, _, _, _, _, ev, h1, h2, h3, _⟩ := HVY'.out wx hx
            simp only [Value.agg.injEq, Array.mk.injEq, List.cons.injEq, Value.slice.injEq] at ev
            obtain ⟨_, ⟨rfl, _, rfl⟩, ⟨rfl, _, rfl⟩, ⟨rfl, _, rfl⟩, _⟩ := ev
            exact ⟨h1, h2, h3⟩
          have kc := KC.out Z (Below.refl _ _)
          have dlt : decide (yst < xst) = false := decide_eq_false (by have := KST.out; omega)
          have hbz0 : Below Z.heap.size Z Z := Below.refl _ _
          clear rP rQ HVX HVY hHZ
          have xx0 : Z.cell? ⟨V0.heap.size, 0, none⟩ = some (.int .i64 xst) := by rw [cell_of_row _ _ _ _ _ _ kc.1]; rfl
          have yy0 : Z.cell? ⟨V0.heap.size + 1, 0, none⟩ = some (.int .i64 yst) := by rw [cell_of_row _ _ _ _ _ _ kc.2]; rfl
          have xx1 : Z.cell? ⟨V0.heap.size, 1, none⟩ = some (.slice a1 xops.length c1) := by rw [cell_of_row _ _ _ _ _ _ kc.1]; rfl
          have yy1 : Z.cell? ⟨V0.heap.size + 1, 1, none⟩ = some (.slice a1' yops.length c1') := by rw [cell_of_row _ _ _ _ _ _ kc.2]; rfl
          have xx2 : Z.cell? ⟨V0.heap.size, 2, none⟩ = some (.slice a2 xfi.length c2) := by rw [cell_of_row _ _ _ _ _ _ kc.1]; rfl
          have yy2 : Z.cell? ⟨V0.heap.size + 1, 2, none⟩ = some (.slice a2' yfi.length c2') := by rw [cell_of_row _ _ _ _ _ _ kc.2]; rfl
          have xx3 : Z.cell? ⟨V0.heap.size, 3, none⟩ = some (.slice b3 xde.length e3) := by rw [cell_of_row _ _ _ _ _ _ kc.1]; rfl
          have yy3 : Z.cell? ⟨V0.heap.size + 1, 3, none⟩ = some (.slice b3' yde.length e3') := by rw [cell_of_row _ _ _ _ _ _ kc.2]; rfl
          have xx4 : Z.cell? ⟨V0.heap.size, 4, none⟩ = some (.slice b4 xat.length e4) := by rw [cell_of_row _ _ _ _ _ _ kc.1]; rfl
          have yy4 : Z.cell? ⟨V0.heap.size + 1, 4, none⟩ = some (.slice b4' yat.length e4') := by rw [cell_of_row _ _ _ _ _ _ kc.2]; rfl
          have xx5 : Z.cell? ⟨V0.heap.size, 5, none⟩ = some (.slice b5 xva.length e5) := by rw [cell_of_row _ _ _ _ _ _ kc.1]; rfl
          have yy5 : Z.cell? ⟨V0.heap.size + 1, 5, none⟩ = some (.slice b5' yva.length e5') := by rw [cell_of_row _ _ _ _ _ _ kc.2]; rfl
          by_cases x0 : xst = 0
          · have d1 : (xst != 0) = false := by simpa using x0
            have d2 : decide (2 ≤ xst) = false := decide_eq_false (by omega)
            have d3 : (xst == 3) = false := by simp; omega
            clear x0
            go_wp2
            go_roundw
            case rel => exact ⟨k + 1, by omega, by go_num, hBZ⟩
            case measure => simp [intOf]; omega
          have d1 : (xst != 0) = true := by simpa using x0
          obtain rfl : yfi = xfi := KFI.out x0
          go_wp2_with fail
          refine (keep_same_any a2 c2 yfi a2' c2' Z (SX.out Z hbz0).2.1.2.1 (SX.out Z hbz0).2.1.1 (SY.out Z hbz0).2.1.1).mono ?_
          rintro r z1 ⟨rfl, hx1⟩
          have hbz1 : Below Z.heap.size Z z1 := hbz0.trans (hx1.mono hbz0.size)
          clear hx1
          clear kc xx0 yy0 xx1 yy1 xx2 yy2 xx3 yy3 xx4 yy4 xx5 yy5
          have kc := KC.out z1 hbz1
          have xx0 : z1.cell? ⟨V0.heap.size, 0, none⟩ = some (.int .i64 xst) := by rw [cell_of_row _ _ _ _ _ _ kc.1]; rfl
          have yy0 : z1.cell? ⟨V0.heap.size + 1, 0, none⟩ = some (.int .i64 yst) := by rw [cell_of_row _ _ _ _ _ _ kc.2]; rfl
          have xx1 : z1.cell? ⟨V0.heap.size, 1, none⟩ = some (.slice a1 xops.length c1) := by rw [cell_of_row _ _ _ _ _ _ kc.1]; rfl
          have yy1 : z1.cell? ⟨V0.heap.size + 1, 1, none⟩ = some (.slice a1' yops.length c1') := by rw [cell_of_row _ _ _ _ _ _ kc.2]; rfl
          have xx2 : z1.cell? ⟨V0.heap.size, 2, none⟩ = some (.slice a2 yfi.length c2) := by rw [cell_of_row _ _ _ _ _ _ kc.1]; rfl
          have yy2 : z1.cell? ⟨V0.heap.size + 1, 2, none⟩ = some (.slice a2' yfi.length c2') := by rw [cell_of_row _ _ _ _ _ _ kc.2]; rfl
          have xx3 : z1.cell? ⟨V0.heap.size, 3, none⟩ = some (.slice b3 xde.length e3) := by rw [cell_of_row _ _ _ _ _ _ kc.1]; rfl
          have yy3 : z1.cell? ⟨V0.heap.size + 1, 3, none⟩ = some (.slice b3' yde.length e3') := by rw [cell_of_row _ _ _ _ _ _ kc.2]; rfl
          have xx4 : z1.cell? ⟨V0.heap.size, 4, none⟩ = some (.slice b4 xat.length e4) := by rw [cell_of_row _ _ _ _ _ _ kc.1]; rfl
          have yy4 : z1.cell? ⟨V0.heap.size + 1, 4, none⟩ = some (.slice b4' yat.length e4') := by rw [cell_of_row _ _ _ _ _ _ kc.2]; rfl
          have xx5 : z1.cell? ⟨V0.heap.size, 5, none⟩ = some (.slice b5 xva.length e5) := by rw [cell_of_row _ _ _ _ _ _ kc.1]; rfl
          have yy5 : z1.cell? ⟨V0.heap.size + 1, 5, none⟩ = some (.slice b5' yva.length e5') := by rw [cell_of_row _ _ _ _ _ _ kc.2]; rfl
          by_cases x1 : xst = 1
          · have d2 : decide (2 ≤ xst) = false := decide_eq_false (by omega)
            have d3 : (xst == 3) = false := by simp; omega
            have hBE : Below x2.heap.size x2 z1 := hBZ.trans (hbz1.mono hBZ.size)
            clear x0 x1
            go_wp2
            go_roundw
            case rel => exact ⟨k + 1, by omega, by go_num, hBE⟩
            case measure => simp [intOf]; omega
          have d2 : decide (2 ≤ xst) = true := decide_eq_true (by omega)
          obtain ⟨rfl, rfl⟩ : yde = xde ∧ yops = xops := KFX.out (by omega)
          go_wp2_with fail
          refine (keep_same_any b3 e3 yde b3' e3' z1 (SX.out z1 hbz1).2.2.2.1 (SX.out z1 hbz1).2.2.1 (SY.out z1 hbz1).2.2.1).mono ?_
          rintro r z2 ⟨rfl, hx2⟩
          have hbz2 : Below Z.heap.size Z z2 := hbz1.trans (hx2.mono hbz1.size)
          clear hx2
          clear kc xx0 yy0 xx1 yy1 xx2 yy2 xx3 yy3 xx4 yy4 xx5 yy5
          have kc := KC.out z2 hbz2
          have xx0 : z2.cell? ⟨V0.heap.size, 0, none⟩ = some (.int .i64 xst) := by rw [cell_of_row _ _ _ _ _ _ kc.1]; rfl
          have yy0 : z2.cell? ⟨V0.heap.size + 1, 0, none⟩ = some (.int .i64 yst) := by rw [cell_of_row _ _ _ _ _ _ kc.2]; rfl
          have xx1 : z2.cell? ⟨V0.heap.size, 1, none⟩ = some (.slice a1 yops.length c1) := by rw [cell_of_row _ _ _ _ _ _ kc.1]; rfl
          have yy1 : z2.cell? ⟨V0.heap.size + 1, 1, none⟩ = some (.slice a1' yops.length c1') := by rw [cell_of_row _ _ _ _ _ _ kc.2]; rfl
          have xx2 : z2.cell? ⟨V0.heap.size, 2, none⟩ = some (.slice a2 yfi.length c2) := by rw [cell_of_row _ _ _ _ _ _ kc.1]; rfl
          have yy2 : z2.cell? ⟨V0.heap.size + 1, 2, none⟩ = some (.slice a2' yfi.length c2') := by rw [cell_of_row _ _ _ _ _ _ kc.2]; rfl
          have xx3 : z2.cell? ⟨V0.heap.size, 3, none⟩ = some (.slice b3 yde.length e3) := by rw [cell_of_row _ _ _ _ _ _ kc.1]; rfl
          have yy3 : z2.cell? ⟨V0.heap.size + 1, 3, none⟩ = some (.slice b3' yde.length e3') := by rw [cell_of_row _ _ _ _ _ _ kc.2]; rfl
          have xx4 : z2.cell? ⟨V0.heap.size, 4, none⟩ = some (.slice b4 xat.length e4) := by rw [cell_of_row _ _ _ _ _ _ kc.1]; rfl
          have yy4 : z2.cell? ⟨V0.heap.size + 1, 4, none⟩ = some (.slice b4' yat.length e4') := by rw [cell_of_row _ _ _ _ _ _ kc.2]; rfl
          have xx5 : z2.cell? ⟨V0.heap.size, 5, none⟩ = some (.slice b5 xva.length e5) := by rw [cell_of_row _ _ _ _ _ _ kc.1]; rfl
          have yy5 : z2.cell? ⟨V0.heap.size + 1, 5, none⟩ = some (.slice b5' yva.length e5') := by rw [cell_of_row _ _ _ _ _ _ kc.2]; rfl
          go_wp2_with fail
          refine (keep_sameOps_any a1 c1 yops a1' c1' z2 (SX.out z2 hbz2).1.2.1 (SX.out z2 hbz2).1.1 (SY.out z2 hbz2).1.1).mono ?_
          rintro r z3 ⟨rfl, hx3⟩
          have hbz3 : Below Z.heap.size Z z3 := hbz2.trans (hx3.mono hbz2.size)
          clear hx3
          clear kc xx0 yy0 xx1 yy1 xx2 yy2 xx3 yy3 xx4 yy4 xx5 yy5
          have kc := KC.out z3 hbz3
          have xx0 : z3.cell? ⟨V0.heap.size, 0, none⟩ = some (.int .i64 xst) := by rw [cell_of_row _ _ _ _ _ _ kc.1]; rfl
          have yy0 : z3.cell? ⟨V0.heap.size + 1, 0, none⟩ = some (.int .i64 yst) := by rw [cell_of_row _ _ _ _ _ _ kc.2]; rfl
          have xx1 : z3.cell? ⟨V0.heap.size, 1, none⟩ = some (.slice a1 yops.length c1) := by rw [cell_of_row _ _ _ _ _ _ kc.1]; rfl
          have yy1 : z3.cell? ⟨V0.heap.size + 1, 1, none⟩ = some (.slice a1' yops.length c1') := by rw [cell_of_row _ _ _ _ _ _ kc.2]; rfl
          have xx2 : z3.cell? ⟨V0.heap.size, 2, none⟩ = some (.slice a2 yfi.length c2) := by rw [cell_of_row _ _ _ _ _ _ kc.1]; rfl
          have yy2 : z3.cell? ⟨V0.heap.size + 1, 2, none⟩ = some (.slice a2' yfi.length c2') := by rw [cell_of_row _ _ _ _ _ _ kc.2]; rfl
          have xx3 : z3.cell? ⟨V0.heap.size, 3, none⟩ = some (.slice b3 yde.length e3) := by rw [cell_of_row _ _ _ _ _ _ kc.1]; rfl
          have yy3 : z3.cell? ⟨V0.heap.size + 1, 3, none⟩ = some (.slice b3' yde.length e3') := by rw [cell_of_row _ _ _ _ _ _ kc.2]; rfl
          have xx4 : z3.cell? ⟨V0.heap.size, 4, none⟩ = some (.slice b4 xat.length e4) := by rw [cell_of_row _ _ _ _ _ _ kc.1]; rfl
          have yy4 : z3.cell? ⟨V0.heap.size + 1, 4, none⟩ = some (.slice b4' yat.length e4') := by rw [cell_of_row _ _ _ _ _ _ kc.2]; rfl
          have xx5 : z3.cell? ⟨V0.heap.size, 5, none⟩ = some (.slice b5 xva.length e5) := by rw [cell_of_row _ _ _ _ _ _ kc.1]; rfl
          have yy5 : z3.cell? ⟨V0.heap.size + 1, 5, none⟩ = some (.slice b5' yva.length e5') := by rw [cell_of_row _ _ _ _ _ _ kc.2]; rfl
          by_cases x3 : xst = 3
          · have d3 : (xst == 3) = true := by simpa using x3
            obtain ⟨rfl, rfl, rfl⟩ : yst = xst ∧ yat = xat ∧ yva = xva := by
              have := KDN.out x3
              simp only [EntryL.mk.injEq] at this
              exact ⟨this.1, this.2.2.2.2.1, this.2.2.2.2.2⟩
            have kvx := HVX'.out z3 hbz3
            have kvy := HVY'.out z3 hbz3
            have T3 : Hid (yst = 3) := x3
            clear x0 x1 x3
            go_wp2_with fail
            refine (keep_sameEntry _ _ _ z3 kvx kvy).mono ?_
            rintro r z4 ⟨rfl, hx4⟩
            have hBE : Below x2.heap.size x2 z4 := hBZ.trans ((hbz3.trans (hx4.mono hbz3.size)).mono hBZ.size)
            clear hx4 kvx kvy
            go_wp2
            go_roundw
            case rel => exact ⟨k + 1, by omega, by go_num, hBE⟩
            case measure => simp [intOf]; omega
          · have d3 : (xst == 3) = false := by simpa using x3
            have hBE : Below x2.heap.size x2 z3 := hBZ.trans (hbz3.mono hBZ.size)
            clear x0 x1 x3
            go_wp2
            go_roundw
            case rel => exact ⟨k + 1, by omega, by go_num, hBE⟩
            case measure => simp [intOf]; omega
        · rw [if_pos (by rfl)]
          refine wp_alloc_as 37 rfl ez hez ?_
          refine hK.out _ _ (hH.alloc (by have := hH.size; omega) _) (fun hH2 => ?_)
          clear hK K hH
          have hH := hH2
          clear hH2
          try simp only [Act.put]
          try simp only [List.setIfInBounds_toArray]
          try simp only [List.set_cons_zero, List.set_cons_succ]
          refine wpAnyH_ready (rs := [8]) (by kernel_rfl) (by simp) ?_
          refine AllReadyH.cons rfl (fun K hK => ?_) AllReadyH.nil
          rw [if_pos (by rfl)]
          refine wp_alloc_as 37 rfl ez hez ?_
          refine hK.out _ _ (hH.alloc (by have := hH.size; omega) _) (fun hH2 => ?_)
          clear hK K hH
          have hH := hH2
          clear hH2
          try simp only [Act.put]
          try simp only [List.setIfInBounds_toArray]
          try simp only [List.set_cons_zero, List.set_cons_succ]
          have hz1 : (V0.alloc (.cells ez 37)).heap.size = V0.heap.size + 1 := size_push _ _
          obtain ⟨q0, q1⟩ := two_rows V0 (.cells ez 37) (.cells ez 37)
          obtain ⟨V2, hV2⟩ : ∃ V2, V2 = (V0.alloc (.cells ez 37)).alloc (.cells ez 37) := ⟨_, rfl⟩
          rw [hz1, ← hV2]
          rw [← hV2] at q0 q1 hH
          have hz2 : V2.heap.size = V0.heap.size + 2 := by rw [hV2, size_push, size_push]
          clear hV2 hz1
          refine wpAnyH_ready (rs := [10]) (by kernel_rfl) (by simp) ?_
          refine AllReadyH.cons rfl (fun K hK => ?_) AllReadyH.nil
          rw [if_pos (by rfl)]
          refine wp_store_row 37 _ _ rfl (V0.heap.size + 1) ca.toArray rfl rfl 37 ez q1 hsa2 hza hca1 ?_
          refine hK.out _ _ (setRow_below hH (by omega) _) (fun hH2 => ?_)
          clear hK K hH
          have hH := hH2
          clear hH2
          have q2 : (V2.setRow (V0.heap.size + 1) ca.toArray).heap[V0.heap.size]? = some (.cells ez 37 (0, 0)) := by rw [setRow_other _ _ (by omega)]; exact q0
          refine wpAnyH_ready (rs := [11]) (by kernel_rfl) (by simp) ?_
          refine AllReadyH.cons rfl (fun K hK => ?_) AllReadyH.nil
          rw [if_pos (by rfl)]
          refine wp_store_row 37 _ _ rfl (V0.heap.size) cb.toArray rfl rfl 37 ez q2 hsb2 hzb hcb1 ?_
          refine hK.out _ _ (setRow_below hH (by omega) _) (fun hH2 => ?_)
          clear hK K hH
          have hH := hH2
          clear hH2
          refine wpAnyH_done (by kernel_rfl) ?_ _
          have rP : ((V2.setRow (V0.heap.size + 1) ca.toArray).setRow (V0.heap.size) cb.toArray).heap[V0.heap.size + 1]? = some (.cells #[.int .i64 xst, .slice a1 xops.length c1, .slice a2 xfi.length c2, .slice b3 xde.length e3, .slice b4 xat.length e4, .slice b5 xva.length e5] 37 (0, 0)) := by rw [setRow_other _ _ (by omega), heap_setRow q1, HXE.out]
          have rQ : ((V2.setRow (V0.heap.size + 1) ca.toArray).setRow (V0.heap.size) cb.toArray).heap[V0.heap.size]? = some (.cells #[.int .i64 yst, .slice a1' yops.length c1', .slice a2' yfi.length c2', .slice b3' yde.length e3', .slice b4' yat.length e4', .slice b5' yva.length e5'] 37 (0, 0)) := by rw [heap_setRow q2, HYE.out]
          have hzZ : ((V2.setRow (V0.heap.size + 1) ca.toArray).setRow (V0.heap.size) cb.toArray).heap.size = V0.heap.size + 2 := by rw [size_setRow, size_setRow]; exact hz2
          have hHZ := hH
          generalize (V2.setRow (V0.heap.size + 1) ca.toArray).setRow (V0.heap.size) cb.toArray = Z at *
          clear q0 q1 q2 hH
          have hBZ : Below x2.heap.size x2 Z := hB.trans (hHZ.mono (by omega))
          have HVX' : Hid (∀ wx, Below Z.heap.size Z wx → EntV wx (.agg #[.int .i64 xst, .slice a1 xops.length c1, .slice a2 xfi.length c2, .slice b3 xde.length e3, .slice b4 xat.length e4, .slice b5 xva.length e5]) ⟨xst, xops, xfi, xde, xat, xva⟩) := fun wx hx => (HVX.out.later hHZ).later hx
          have HVY' : Hid (∀ wx, Below Z.heap.size Z wx → EntV wx (.agg #[.int .i64 yst, .slice a1' yops.length c1', .slice a2' yfi.length c2', .slice b3' yde.length e3', .slice b4' yat.length e4', .slice b5' yva.length e5']) ⟨yst, yops, yfi, yde, yat, yva⟩) := fun wx hx => (HVY.out.later hHZ).later hx
          have KC : Hid (∀ wx, Below Z.heap.size Z wx → (wx.heap[V0.heap.size + 1]? = some (.cells #[.int .i64 xst, .slice a1 xops.length c1, .slice a2 xfi.length c2, .slice b3 xde.length e3, .slice b4 xat.length e4, .slice b5 xva.length e5] 37 (0, 0)) ∧ wx.heap[V0.heap.size]? = some (.cells #[.int .i64 yst, .slice a1' yops.length c1', .slice a2' yfi.length c2', .slice b3' yde.length e3', .slice b4' yat.length e4', .slice b5' yva.length e5'] 37 (0, 0)))) := fun wx hx => ⟨by rw [hx.block _ (by omega)]; exact rP, by rw [hx.block _ (by omega)]; exact rQ⟩
          have SX : Hid (∀ wx, Below Z.heap.size Z wx → SlOps wx a1 c1 xops ∧ SlInts wx a2 c2 xfi ∧ SlInts wx b3 e3 xde) := fun wx hx => by
            obtain ⟨_, _, _, _, _, _, _, _, _, _, ev, h1, h2, h3, _⟩ := HVX'.out wx hx
            simp only [Value.agg.injEq, Array.mk.injEq, List.cons.injEq, Value.slice.injEq] at ev
            obtain ⟨_, ⟨rfl, _, rfl⟩, ⟨rfl, _, rfl⟩, ⟨rfl, _, rfl⟩, _⟩ := ev
            exact ⟨h1, h2, h3⟩
          have SY : Hid (∀ wx, Below Z.heap.size Z wx → SlOps wx a1' c1' yops ∧ SlInts wx a2' c2' yfi ∧ SlInts wx b3' e3' yde) := fun wx hx => by
            obtain ⟨_, _, _, _, _, _, _, _, _, _, ev, h1, h2, h3, _⟩ := HVY'.out wx hx
            simp only [Value.agg.injEq, Array.mk.injEq, List.cons.injEq, Value.slice.injEq] at ev
            obtain ⟨_, ⟨rfl, _, rfl⟩, ⟨rfl, _, rfl⟩, ⟨rfl, _, rfl⟩, _⟩ := ev
            exact ⟨h1, h2, h3⟩
          have kc := KC.out Z (Below.refl _ _)
          have dlt : decide (yst < xst) = false := decide_eq_false (by have := KST.out; omega)
          have hbz0 : Below Z.heap.size Z Z := Below.refl _ _
          clear rP rQ HVX HVY hHZ
          have xx0 : Z.cell? ⟨V0.heap.size + 1, 0, none⟩ = some (.int .i64 xst) := by rw [cell_of_row _ _ _ _ _ _ kc.1]; rfl
          have yy0 : Z.cell? ⟨V0.heap.size, 0, none⟩ = some (.int .i64 yst) := by rw [cell_of_row _ _ _ _ _ _ kc.2]; rfl
          have xx1 : Z.cell? ⟨V0.heap.size + 1, 1, none⟩ = some (.slice a1 xops.length c1) := by rw [cell_of_row _ _ _ _ _ _ kc.1]; rfl
          have yy1 : Z.cell? ⟨V0.heap.size, 1, none⟩ = some (.slice a1' yops.length c1') := by rw [cell_of_row _ _ _ _ _ _ kc.2]; rfl
          have xx2 : Z.cell? ⟨V0.heap.size + 1, 2, none⟩ = some (.slice a2 xfi.length c2) := by rw [cell_of_row _ _ _ _ _ _ kc.1]; rfl
          have yy2 : Z.cell? ⟨V0.heap.size, 2, none⟩ = some (.slice a2' yfi.length c2') := by rw [cell_of_row _ _ _ _ _ _ kc.2]; rfl
          have xx3 : Z.cell? ⟨V0.heap.size + 1, 3, none⟩ = some (.slice b3 xde.length e3) := by rw [cell_of_row _ _ _ _ _ _ kc.1]; rfl
          have yy3 : Z.cell? ⟨V0.heap.size, 3, none⟩ = some (.slice b3' yde.length e3') := by rw [cell_of_row _ _ _ _ _ _ kc.2]; rfl
          have xx4 : Z.cell? ⟨V0.heap.size + 1, 4, none⟩ = some (.slice b4 xat.length e4) := by rw [cell_of_row _ _ _ _ _ _ kc.1]; rfl
          have yy4 : Z.cell? ⟨V0.heap.size, 4, none⟩ = some (.slice b4' yat.length e4') := by rw [cell_of_row _ _ _ _ _ _ kc.2]; rfl
          have xx5 : Z.cell? ⟨V0.heap.size + 1, 5, none⟩ = some (.slice b5 xva.length e5) := by rw [cell_of_row _ _ _ _ _ _ kc.1]; rfl
          have yy5 : Z.cell? ⟨V0.heap.size, 5, none⟩ = some (.slice b5' yva.length e5') := by rw [cell_of_row _ _ _ _ _ _ kc.2]; rfl
          by_cases x0 : xst = 0
          · have d1 : (xst != 0) = false := by simpa using x0
            have d2 : decide (2 ≤ xst) = false := decide_eq_false (by omega)
            have d3 : (xst == 3) = false := by simp; omega
            clear x0
            go_wp2
            go_roundw
            case rel => exact ⟨k + 1, by omega, by go_num, hBZ⟩
            case measure => simp [intOf]; omega
          have d1 : (xst != 0) = true := by simpa using x0
          obtain rfl : yfi = xfi := KFI.out x0
          go_wp2_with fail
          refine (keep_same_any a2 c2 yfi a2' c2' Z (SX.out Z hbz0).2.1.2.1 (SX.out Z hbz0).2.1.1 (SY.out Z hbz0).2.1.1).mono ?_
          rintro r z1 ⟨rfl, hx1⟩
          have hbz1 : Below Z.heap.size Z z1 := hbz0.trans (hx1.mono hbz0.size)
          clear hx1
          clear kc xx0 yy0 xx1 yy1 xx2 yy2 xx3 yy3 xx4 yy4 xx5 yy5
          have kc := KC.out z1 hbz1
          have xx0 : z1.cell? ⟨V0.heap.size + 1, 0, none⟩ = some (.int .i64 xst) := by rw [cell_of_row _ _ _ _ _ _ kc.1]; rfl
          have yy0 : z1.cell? ⟨V0.heap.size, 0, none⟩ = some (.int .i64 yst) := by rw [cell_of_row _ _ _ _ _ _ kc.2]; rfl
          have xx1 : z1.cell? ⟨V0.heap.size + 1, 1, none⟩ = some (.slice a1 xops.length c1) := by rw [cell_of_row _ _ _ _ _ _ kc.1]; rfl
          have yy1 : z1.cell? ⟨V0.heap.size, 1, none⟩ = some (.slice a1' yops.length c1') := by rw [cell_of_row _ _ _ _ _ _ kc.2]; rfl
          have xx2 : z1.cell? ⟨V0.heap.size + 1, 2, none⟩ = some (.slice a2 yfi.length c2) := by rw [cell_of_row _ _ _ _ _ _ kc.1]; rfl
          have yy2 : z1.cell? ⟨V0.heap.size, 2, none⟩ = some (.slice a2' yfi.length c2') := by rw [cell_of_row _ _ _ _ _ _ kc.2]; rfl
          have xx3 : z1.cell? ⟨V0.heap.size + 1, 3, none⟩ = some (.slice b3 xde.length e3) := by rw [cell_of_row _ _ _ _ _ _ kc.1]; rfl
          have yy3 : z1.cell? ⟨V0.heap.size, 3, none⟩ = some (.slice b3' yde.length e3') := by rw [cell_of_row _ _ _ _ _ _ kc.2]; rfl
          have xx4 : z1.cell? ⟨V0.heap.size + 1, 4, none⟩ = some (.slice b4 xat.length e4) := by rw [cell_of_row _ _ _ _ _ _ kc.1]; rfl
          have yy4 : z1.cell? ⟨V0.heap.size, 4, none⟩ = some (.slice b4' yat.length e4') := by rw [cell_of_row _ _ _ _ _ _ kc.2]; rfl
          have xx5 : z1.cell? ⟨V0.heap.size + 1, 5, none⟩ = some (.slice b5 xva.length e5) := by rw [cell_of_row _ _ _ _ _ _ kc.1]; rfl
          have yy5 : z1.cell? ⟨V0.heap.size, 5, none⟩ = some (.slice b5' yva.length e5') := by rw [cell_of_row _ _ _ _ _ _ kc.2]; rfl
          by_cases x1 : xst = 1
          · have d2 : decide (2 ≤ xst) = false := decide_eq_false (by omega)
            have d3 : (xst == 3) = false := by simp; omega
            have hBE : Below x2.heap.size x2 z1 := hBZ.trans (hbz1.mono hBZ.size)
            clear x0 x1
            go_wp2
            go_roundw
            case rel => exact ⟨k + 1, by omega, by go_num, hBE⟩
            case measure => simp [intOf]; omega
          have d2 : decide (2 ≤ xst) = true := decide_eq_true (by omega)
          obtain ⟨rfl, rfl⟩ : yde = xde ∧ yops = xops := KFX.out (by omega)
          go_wp2_with fail
          refine (keep_same_any b3 e3 yde b3' e3' z1 (SX.out z1 hbz1).2.2.2.1 (SX.out z1 hbz1).2.2.1 (SY.out z1 hbz1).2.2.1).mono ?_
          rintro r z2 ⟨rfl, hx2⟩
          have hbz2 : Below Z.heap.size Z z2 := hbz1.trans (hx2.mono hbz1.size)
          clear hx2
          clear kc xx0 yy0 xx1 yy1 xx2 yy2 xx3 yy3 xx4 yy4 xx5 yy5
          have kc := KC.out z2 hbz2
          have xx0 : z2.cell? ⟨V0.heap.size + 1, 0, none⟩ = some (.int .i64 xst) := by rw [cell_of_row _ _ _ _ _ _ kc.1]; rfl
          have yy0 : z2.cell? ⟨V0.heap.size, 0, none⟩ = some (.int .i64 yst) := by rw [cell_of_row _ _ _ _ _ _ kc.2]; rfl
          have xx1 : z2.cell? ⟨V0.heap.size + 1, 1, none⟩ = some (.slice a1 yops.length c1) := by rw [cell_of_row _ _ _ _ _ _ kc.1]; rfl
          have yy1 : z2.cell? ⟨V0.heap.size, 1, none⟩ = some (.slice a1' yops.length c1') := by rw [cell_of_row _ _ _ _ _ _ kc.2]; rfl
          have xx2 : z2.cell? ⟨V0.heap.size + 1, 2, none⟩ = some (.slice a2 yfi.length c2) := by rw [cell_of_row _ _ _ _ _ _ kc.1]; rfl
          have yy2 : z2.cell? ⟨V0.heap.size, 2, none⟩ = some (.slice a2' yfi.length c2') := by rw [cell_of_row _ _ _ _ _ _ kc.2]; rfl
          have xx3 : z2.cell? ⟨V0.heap.size + 1, 3, none⟩ = some (.slice b3 yde.length e3) := by rw [cell_of_row _ _ _ _ _ _ kc.1]; rfl
          have yy3 : z2.cell? ⟨V0.heap.size, 3, none⟩ = some (.slice b3' yde.length e3') := by rw [cell_of_row _ _ _ _ _ _ kc.2]; rfl
          have xx4 : z2.cell? ⟨V0.heap.size + 1, 4, none⟩ = some (.slice b4 xat.length e4) := by rw [cell_of_row _ _ _ _ _ _ kc.1]; rfl
          have yy4 : z2.cell? ⟨V0.heap.size, 4, none⟩ = some (.slice b4' yat.length e4') := by rw [cell_of_row _ _ _ _ _ _ kc.2]; rfl
          have xx5 : z2.cell? ⟨V0.heap.size + 1, 5, none⟩ = some (.slice b5 xva.length e5) := by rw [cell_of_row _ _ _ _ _ _ kc.1]; rfl
          have yy5 : z2.cell? ⟨V0.heap.size, 5, none⟩ = some (.slice b5' yva.length e5') := by rw [cell_of_row _ _ _ _ _ _ kc.2]; rfl
          go_wp2_with fail
          refine (keep_sameOps_any a1 c1 yops a1' c1' z2 (SX.out z2 hbz2).1.2.1 (SX.out z2 hbz2).1.1 (SY.out z2 hbz2).1.1).mono ?_
          rintro r z3 ⟨rfl, hx3⟩
          have hbz3 : Below Z.heap.size Z z3 := hbz2.trans (hx3.mono hbz2.size)
          clear hx3
          clear kc xx0 yy0 xx1 yy1 xx2 yy2 xx3 yy3 xx4 yy4 xx5 yy5
          have kc := KC.out z3 hbz3
          have xx0 : z3.cell? ⟨V0.heap.size + 1, 0, none⟩ = some (.int .i64 xst) := by rw [cell_of_row _ _ _ _ _ _ kc.1]; rfl
          have yy0 : z3.cell? ⟨V0.heap.size, 0, none⟩ = some (.int .i64 yst) := by rw [cell_of_row _ _ _ _ _ _ kc.2]; rfl
          have xx1 : z3.cell? ⟨V0.heap.size + 1, 1, none⟩ = some (.slice a1 yops.length c1) := by rw [cell_of_row _ _ _ _ _ _ kc.1]; rfl
          have yy1 : z3.cell? ⟨V0.heap.size, 1, none⟩ = some (.slice a1' yops.length c1') := by rw [cell_of_row _ _ _ _ _ _ kc.2]; rfl
          have xx2 : z3.cell? ⟨V0.heap.size + 1, 2, none⟩ = some (.slice a2 yfi.length c2) := by rw [cell_of_row _ _ _ _ _ _ kc.1]; rfl
          have yy2 : z3.cell? ⟨V0.heap.size, 2, none⟩ = some (.slice a2' yfi.length c2') := by rw [cell_of_row _ _ _ _ _ _ kc.2]; rfl
          have xx3 : z3.cell? ⟨V0.heap.size + 1, 3, none⟩ = some (.slice b3 yde.length e3) := by rw [cell_of_row _ _ _ _ _ _ kc.1]; rfl
          have yy3 : z3.cell? ⟨V0.heap.size, 3, none⟩ = some (.slice b3' yde.length e3') := by rw [cell_of_row _ _ _ _ _ _ kc.2]; rfl
          have xx4 : z3.cell? ⟨V0.heap.size + 1, 4, none⟩ = some (.slice b4 xat.length e4) := by rw [cell_of_row _ _ _ _ _ _ kc.1]; rfl
          have yy4 : z3.cell? ⟨V0.heap.size, 4, none⟩ = some (.slice b4' yat.length e4') := by rw [cell_of_row _ _ _ _ _ _ kc.2]; rfl
          have xx5 : z3.cell? ⟨V0.heap.size + 1, 5, none⟩ = some (.slice b5 xva.length e5) := by rw [cell_of_row _ _ _ _ _ _ kc.1]; rfl
          have yy5 : z3.cell? ⟨V0.heap.size, 5, none⟩ = some (.slice b5' yva.length e5') := by rw [cell_of_row _ _ _ _ _ _ kc.2]; rfl
          by_cases x3 : xst = 3
          · have d3 : (xst == 3) = true := by simpa using x3
            obtain ⟨rfl, rfl, rfl⟩ : yst = xst ∧ yat = xat ∧ yva = xva := by
              have := KDN.out x3
              simp only [EntryL.mk.injEq] at this
              exact ⟨this.1, this.2.2.2.2.1, this.2.2.2.2.2⟩
            have kvx := HVX'.out z3 hbz3
            have kvy := HVY'.out z3 hbz3
            have T3 : Hid (yst = 3) := x3
            clear x0 x1 x3
            go_wp2_with fail
            refine (keep_sameEntry _ _ _ z3 kvx kvy).mono ?_
            rintro r z4 ⟨rfl, hx4⟩
            have hBE : Below x2.heap.size x2 z4 := hBZ.trans ((hbz3.trans (hx4.mono hbz3.size)).mono hBZ.size)
            clear hx4 kvx kvy
            go_wp2
            go_roundw
            case rel => exact ⟨k + 1, by omega, by go_num, hBE⟩
            case measure => simp [intOf]; omega
          · have d3 : (xst == 3) = false := by simpa using x3
            have hBE : Below x2.heap.size x2 z3 := hBZ.trans (hbz3.mono hBZ.size)
            clear x0 x1 x3
            go_wp2
            go_roundw
            case rel => exact ⟨k + 1, by omega, by go_num, hBE⟩
            case measure => simp [intOf]; omega
      · obtain ⟨l, hl⟩ := HKP.out.1.order
        have hoA := (HN2.out.below hB).order
        rw [hl] at hoA
        obtain ⟨ax, cx, eA, hA⟩ := hoA.sl
        obtain ⟨av, cv, eS, hS⟩ := (HN0.out.below hB).order.sl
        have qa : wr.cell? ⟨w1.heap.size, 192, none⟩ = some (.slice ax (s.order ++ l).length cx) := by rw [HBar.out.cell (by omega), eA]
        have qs : wr.cell? ⟨w.heap.size, 192, none⟩ = some (.slice av s.order.length cv) := by rw [HBsr.out.cell (by omega), eS]
        have HIA : Hid (SlInts wr ax cx s.order) := ⟨IntsAt.take hA.1, by have := hA.2.1; simp at this; omega, by have := hA.2.2.1; simp at this; omega, fun e => by have := hA.2.2.2 e; simp at this; exact ⟨by rw [this.1.1]; rfl, this.2⟩⟩
        have HIS : Hid (SlInts wr av cv s.order) := hS
        have HLS : Hid (s.order.length ≤ maxLen) := hS.2.1
        have hll : (s.order ++ l).length = s.order.length + l.length := by simp
        have hcx : s.order.length ≤ cx := HIA.out.2.2.1
        have hml : (s.order ++ l).length ≤ maxLen := hA.2.1
        have hge : (s.order.length : Int) ≤ (s.order.length : Int) + (l.length : Int) := by omega
        clear eA eS hl hoA hA hS
        go_wp2_with fail
        have KA : Hid (∀ wx, Below wr.heap.size wr wx → wx.cell? ⟨w1.heap.size, 192, none⟩ = some (.slice ax (s.order ++ l).length cx)) := fun wx hx => by rw [hx.cell (p := ⟨w1.heap.size, 192, none⟩) (by show w1.heap.size < _; omega)]; exact qa
        have KS : Hid (∀ wx, Below wr.heap.size wr wx → wx.cell? ⟨w.heap.size, 192, none⟩ = some (.slice av s.order.length cv)) := fun wx hx => by rw [hx.cell (p := ⟨w.heap.size, 192, none⟩) (by show w.heap.size < _; omega)]; exact qs
        clear qa qs
        refine wp_region_held_drew (S := fun w' => Below wr.heap.size wr w') (by kernel_rfl) ((Below.refl _ _).drew) ?_
        intro hH
        refine wpAnyH_takeD (i := 0) (d := some 90) (v := .pointer (some ⟨w1.heap.size, 192, none⟩)) rfl rfl (by kernel_rfl) (by kernel_rfl) (by kernel_rfl) (fun _ _ _ h => h) (Or.inl ⟨by rfl, fun _ _ => by go_simp⟩) hH ?_
        simp only [Act.put, List.setIfInBounds_toArray, List.set_cons_zero, List.set_cons_succ]
        refine wpAnyH_takeD (i := 1) (d := some 91) (v := .slice ax (s.order ++ l).length cx) rfl rfl (by kernel_rfl) (by kernel_rfl) (by kernel_rfl) (fun _ _ _ h => h) (Or.inl ⟨by rfl, fun wx hx => by have cx := KA.out wx hx; go_simp⟩) hH ?_
        simp only [Act.put, List.setIfInBounds_toArray, List.set_cons_zero, List.set_cons_succ]
        refine wpAnyH_takeD (i := 2) (d := some 92) (v := .int .i64 (s.order ++ l).length) rfl rfl (by kernel_rfl) (by kernel_rfl) (by kernel_rfl) (fun _ _ _ h => h) (Or.inl ⟨by rfl, fun _ _ => by go_simp⟩) hH ?_
        simp only [Act.put, List.setIfInBounds_toArray, List.set_cons_zero, List.set_cons_succ]
        refine wpAnyH_takeD (i := 3) (d := some 93) (v := .pointer (some ⟨w.heap.size, 192, none⟩)) rfl rfl (by kernel_rfl) (by kernel_rfl) (by kernel_rfl) (fun _ _ _ h => h) (Or.inl ⟨by rfl, fun _ _ => by go_simp⟩) hH ?_
        simp only [Act.put, List.setIfInBounds_toArray, List.set_cons_zero, List.set_cons_succ]
        refine wpAnyH_takeD (i := 4) (d := some 94) (v := .slice av s.order.length cv) rfl rfl (by kernel_rfl) (by kernel_rfl) (by kernel_rfl) (fun _ _ _ h => h) (Or.inl ⟨by rfl, fun wx hx => by have cx := KS.out wx hx; go_simp⟩) hH ?_
        simp only [Act.put, List.setIfInBounds_toArray, List.set_cons_zero, List.set_cons_succ]
        refine wpAnyH_takeD (i := 5) (d := some 95) (v := .int .i64 s.order.length) rfl rfl (by kernel_rfl) (by kernel_rfl) (by kernel_rfl) (fun _ _ _ h => h) (Or.inl ⟨by rfl, fun _ _ => by go_simp⟩) hH ?_
        simp only [Act.put, List.setIfInBounds_toArray, List.set_cons_zero, List.set_cons_succ]
        refine wpAnyH_takeD (i := 6) (d := some 96) (v := .bool true) rfl rfl (by kernel_rfl) (by kernel_rfl) (by kernel_rfl) (fun _ _ _ h => h) (Or.inl ⟨by rfl, fun _ _ => by go_simp⟩) hH ?_
        simp only [Act.put, List.setIfInBounds_toArray, List.set_cons_zero, List.set_cons_succ]
        refine wpAnyH_takeD (i := 7) (d := some 97) (v := .bool true) rfl rfl (by kernel_rfl) (by kernel_rfl) (by kernel_rfl) (fun _ _ _ h => h) (Or.inl ⟨by rfl, fun _ _ => by go_simp⟩) hH ?_
        simp only [Act.put, List.setIfInBounds_toArray, List.set_cons_zero, List.set_cons_succ]
        refine wpAnyH_takeD (i := 8) (d := some 98) (v := .pointer (some ⟨w1.heap.size, 192, none⟩)) rfl rfl (by kernel_rfl) (by kernel_rfl) (by kernel_rfl) (fun _ _ _ h => h) (Or.inl ⟨by rfl, fun _ _ => by go_simp⟩) hH ?_
        simp only [Act.put, List.setIfInBounds_toArray, List.set_cons_zero, List.set_cons_succ]
        refine wpAnyH_takeD (i := 9) (d := some 99) (v := .slice ax (s.order ++ l).length cx) rfl rfl (by kernel_rfl) (by kernel_rfl) (by kernel_rfl) (fun _ _ _ h => h) (Or.inl ⟨by rfl, fun wx hx => by have cx := KA.out wx hx; go_simp⟩) hH ?_
        simp only [Act.put, List.setIfInBounds_toArray, List.set_cons_zero, List.set_cons_succ]
        refine wpAnyH_takeD (i := 10) (d := some 100) (v := .pointer (some ⟨w.heap.size, 192, none⟩)) rfl rfl (by kernel_rfl) (by kernel_rfl) (by kernel_rfl) (fun _ _ _ h => h) (Or.inl ⟨by rfl, fun _ _ => by go_simp⟩) hH ?_
        simp only [Act.put, List.setIfInBounds_toArray, List.set_cons_zero, List.set_cons_succ]
        refine wpAnyH_takeD (i := 11) (d := some 101) (v := .slice av s.order.length cv) rfl rfl (by kernel_rfl) (by kernel_rfl) (by kernel_rfl) (fun _ _ _ h => h) (Or.inl ⟨by rfl, fun wx hx => by have cx := KS.out wx hx; go_simp⟩) hH ?_
        simp only [Act.put, List.setIfInBounds_toArray, List.set_cons_zero, List.set_cons_succ]
        refine wpAnyH_takeD (i := 12) (d := some 102) (v := .int .i64 s.order.length) rfl rfl (by kernel_rfl) (by kernel_rfl) (by kernel_rfl) (fun _ _ _ h => h) (Or.inl ⟨by rfl, fun _ _ => by go_simp⟩) hH ?_
        simp only [Act.put, List.setIfInBounds_toArray, List.set_cons_zero, List.set_cons_succ]
        refine wpAnyH_takeD (i := 13) (d := some 103) (v := .slice ax s.order.length cx) rfl rfl (by kernel_rfl) (by kernel_rfl) (by kernel_rfl) (fun _ _ _ h => h) (Or.inl ⟨by rfl, fun _ _ => by go_simp⟩) hH ?_
        simp only [Act.put, List.setIfInBounds_toArray, List.set_cons_zero, List.set_cons_succ]
        refine wpAnyH_takeD (i := 14) (d := some 104) (v := .pointer (some ⟨w.heap.size, 192, none⟩)) rfl rfl (by kernel_rfl) (by kernel_rfl) (by kernel_rfl) (fun _ _ _ h => h) (Or.inl ⟨by rfl, fun _ _ => by go_simp⟩) hH ?_
        simp only [Act.put, List.setIfInBounds_toArray, List.set_cons_zero, List.set_cons_succ]
        refine wpAnyH_takeD (i := 15) (d := some 105) (v := .slice av s.order.length cv) rfl rfl (by kernel_rfl) (by kernel_rfl) (by kernel_rfl) (fun _ _ _ h => h) (Or.inl ⟨by rfl, fun wx hx => by have cx := KS.out wx hx; go_simp⟩) hH ?_
        simp only [Act.put, List.setIfInBounds_toArray, List.set_cons_zero, List.set_cons_succ]
        refine wpAnyH_ready (rs := [16]) (by kernel_rfl) (by simp) ?_
        refine AllReadyH.cons rfl (fun K hK => ?_) AllReadyH.nil
        go_simp
        refine (keep_same_any ax cx s.order av cv _ HLS.out (HIA.out.later hH).1 (HIS.out.later hH).1).mono ?_
        rintro r z2 ⟨rfl, hb2⟩
        go_wp2_with fail
        refine hK.out _ _ (hH.trans hb2) (fun hH2 => ?_)
        clear hK K hH
        have hH := hH2
        clear hH2
        refine wpAnyH_takeD (i := 17) (d := some 107) (v := .bool true) rfl rfl (by kernel_rfl) (by kernel_rfl) (by kernel_rfl) (fun _ _ _ h => h) (Or.inl ⟨by rfl, fun _ _ => by go_simp⟩) hH ?_
        simp only [Act.put, List.setIfInBounds_toArray, List.set_cons_zero, List.set_cons_succ]
        refine wpAnyH_takeD (i := 18) (d := some 6) (v := .bool true) rfl rfl (by kernel_rfl) (by kernel_rfl) (by kernel_rfl) (fun _ _ _ h => h) (Or.inl ⟨by rfl, fun _ _ => by go_simp⟩) hH ?_
        simp only [Act.put, List.setIfInBounds_toArray, List.set_cons_zero, List.set_cons_succ]
        refine wpAnyH_done (by kernel_rfl) ?_ _
        have hBE : Below w.heap.size w z2 := hbwr.trans (hH.mono (by omega))
        clear hH
        go_wp2
        go_ret
        exact ⟨rfl, hBE⟩
  · have d0 : (T.2.2 != 0) = true := by simpa using t0
    clear t0 HNX HFX
    go_wp2_with fail
    refine (keep_takes X).mono ?_
    rintro r y2 ⟨rfl, hb3⟩
    have hbw3 : Below w.heap.size w y2 := hbwX.trans (hb3.mono hbwX.size)
    clear hb3
    go_wp2
    go_ret
    exact ⟨rfl, hbw3⟩

end Go.Proofs.Ytkoefoccbjhoiab
