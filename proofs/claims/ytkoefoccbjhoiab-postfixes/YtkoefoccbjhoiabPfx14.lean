/-
  The walk of PostFixes.
-/
import Derived.Test.YtkoefoccbjhoiabPfx13
import Derived.Test.YtkoefoccbjhoiabPfx10
namespace Go.Proofs.Ytkoefoccbjhoiab
open Go.RowKit
set_option linter.unusedVariables false
set_option linter.unusedSimpArgs false

def cntS (t : Nat → Bool) (sh j : Nat) : Nat := ((List.range j).filter fun k => t (sh * 3 + k)).length
theorem cntS_succ (t : Nat → Bool) (sh j : Nat) : cntS t sh (j + 1) = cntS t sh j + if t (sh * 3 + j) then 1 else 0 := by
  unfold cntS
  rw [List.range_succ, List.filter_append, List.length_append]
  cases e : t (sh * 3 + j) <;> simp [e]
theorem cntS_le (t : Nat → Bool) (sh j : Nat) : cntS t sh j ≤ j := by
  unfold cntS
  refine Nat.le_trans (List.length_filter_le _ _) ?_
  simp
theorem most_shard0 {ops : List OpL} {t : Nat → Bool} (h : mostB ops t = true) (h0 : touchesL ops 0 = true) : 2 ≤ cntS t 0 3 := by
  unfold mostB at h
  rw [h0] at h
  simp at h
  exact h.1
theorem most_shard1 {ops : List OpL} {t : Nat → Bool} (h : mostB ops t = true) (h0 : touchesL ops 1 = true) : 2 ≤ cntS t 1 3 := by
  unfold mostB at h
  rw [h0] at h
  simp at h
  exact h.2
theorem take_good0 {c : CaseL} {id : Int} {f : FrameL} (h : (takeC c id f).2.2 = 0) : goodL f = 0 := by
  by_cases t0 : refC c id f = 0
  · exact (ref_ok t0).2.2.1
  · rw [take_refused t0] at h
    exact absurd h t0

set_option maxRecDepth 100000 in
set_option maxHeartbeats 20000000 in
theorem postFixes_any (n : Int) (a : Option Addr) (cap : Nat) (ops : List OpL) (la : Option Addr) (lcap : Nat) (fs : List FrameL) (w : World) (hz : SlOps w a cap ops) (hl : fs.length ≤ maxLen) (hF : FrsIn w.heap.size w la fs) :
    Calls Try.prog 14 #[.agg #[.int .i64 n, .slice a ops.length cap], .slice la fs.length lcap] w fun e w' => e = .returned (.bool true) ∧ Below w.heap.size w w' := by
  unfold maxLen at hl
  obtain ⟨zr, hzr⟩ : ∃ zr, zr = rowF 24 zcv := ⟨_, rfl⟩
  have HZ0 : Hid ((Try.prog.info? 73).map (·.zero) = some (some (.agg zr))) := by unfold Hid; rw [hzr]; exact Try.zeroCase
  have hzz : zr.size = 24 := by rw [hzr, rowF_size]
  obtain ⟨W, hW⟩ : ∃ W, W = w.alloc (.cells #[.int .i64 n, .slice a ops.length cap] 68) := ⟨_, rfl⟩
  have hb : Below w.heap.size w W := by rw [hW]; exact (Below.refl _ _).alloc (Nat.le_refl _) _
  have hzW : W.heap.size = w.heap.size + 1 := by rw [hW]; exact size_push _ _
  have r0 : W.heap[w.heap.size]? = some (.cells #[.int .i64 n, .slice a ops.length cap] 68 (0, 0)) := by rw [hW]; exact heap_new _ _
  have c0 : W.cell? ⟨w.heap.size, 0, none⟩ = some (.int .i64 n) := by rw [cell_of_row _ _ _ _ _ _ r0]; rfl
  have c1 : W.cell? ⟨w.heap.size, 1, none⟩ = some (.slice a ops.length cap) := by rw [cell_of_row _ _ _ _ _ _ r0]; rfl
  have HW : Hid (W = w.alloc (.cells #[.int .i64 n, .slice a ops.length cap] 68)) := hW
  have HZ : Hid (SlOps W a cap ops) := hz.later hb
  have HZo : Hid (SlOps w a cap ops) := hz
  have HFr : Hid (FrsIn w.heap.size w la fs) := hF
  clear hW hzr hF hz r0
  go_enter Try.func14, Try.ntmps14
  go_upto_region 1 with fail
  rw [← HW.out]
  clear HW
  go_wp2_with fail
  refine (p_begin n a cap ops W HZ.out).mono ?_
  rintro e w1 ⟨gr0, x0, rfl, hcv, _, hb1⟩
  have hz1 := hb1.size
  have HBw1 : Hid (Below w.heap.size w w1) := hb.trans (hb1.mono (by omega))
  have kn0 : w1.cell? ⟨w.heap.size, 0, none⟩ = some (.int .i64 n) := by rw [hb1.cell (p := ⟨w.heap.size, 0, none⟩) (show w.heap.size < W.heap.size by omega)]; exact c0
  have kn1 : w1.cell? ⟨w.heap.size, 1, none⟩ = some (.slice a ops.length cap) := by rw [hb1.cell (p := ⟨w.heap.size, 1, none⟩) (show w.heap.size < W.heap.size by omega)]; exact c1
  have rowZ : (w1.alloc (.cells zr 73)).heap[w1.heap.size]? = some (.cells zr 73 (0, 0)) := heap_new _ _
  have i9 := hcv.info
  have o9 := hcv.one
  have s9 : zr.size = gr0.size := by rw [hzz, hcv.size]
  obtain ⟨X, hX⟩ : ∃ X, X = (w1.alloc (.cells zr 73)).setRow w1.heap.size gr0 := ⟨_, rfl⟩
  have hbX : Below w1.heap.size w1 X := by rw [hX]; exact setRow_below ((Below.refl _ _).alloc (Nat.le_refl _) _) (Nat.le_refl _) _
  obtain ⟨B, hBe⟩ : ∃ B, B = w1.heap.size := ⟨_, rfl⟩
  have HLX0 : Hid (OBox (fun b => b < B) B X gr0 (beginC n ops).1) := by
    obtain ⟨nv, e, hc⟩ := hcv
    rw [hBe]
    exact ⟨by rw [hX]; exact heap_setRow rowZ, nv, e, hc.later (SameOn.of_size hbX)⟩
  have HX : Hid (X = (w1.alloc (.cells zr 73)).setRow w1.heap.size gr0) := hX
  have HBX : Hid (Below w1.heap.size w1 X) := hbX
  clear hX hcv hb1 hbX c0 c1
  go_upto_region 2 with (first
    | (refine wpList_alloc_as rfl 73 rfl zr HZ0.out ?_)
    | (refine wpList_store_row rfl 73 _ _ rfl (w1.heap.size) gr0 rfl rfl 73 _ rowZ i9 s9 o9 ?_)
    | fail)
  rw [← HX.out, ← hBe]
  have hB1 : w1.heap.size ≤ B := by omega
  have hB2 : B ≤ w1.heap.size := by omega
  clear HX rowZ i9 o9 s9 hBe
  by_cases t0 : (beginC n ops).2.2 = 0
  rotate_left
  · have d0 : ((beginC n ops).2.2 != 0) = true := by simpa using t0
    clear t0
    go_wp2_with fail
    refine (keep_posts X).mono ?_
    rintro e w2 ⟨rfl, hb2⟩
    have HB2 : Hid (Below w.heap.size w w2) := (HBw1.out.trans (HBX.out.mono (by omega))).trans (hb2.mono (by have := HBX.out.size; omega))
    clear hb2
    go_wp2
    go_ret
    exact ⟨rfl, HB2.out⟩
  have d0 : ((beginC n ops).2.2 != 0) = false := by simpa using t0
  have HFI0 : Hid (FixInv ops (beginC n ops).1 (fun _ => false) []) := (fix_begin t0).1
  obtain ⟨cb, hcb⟩ : ∃ cb, cb = (beginC n ops).1 := ⟨_, rfl⟩
  rw [← hcb] at HLX0 HFI0
  clear t0 hcb
  go_wp2_with fail
  refine (keep_posts X).mono ?_
  rintro e w2 ⟨rfl, hb2⟩
  have HL2 : Hid (OBox (fun b => b < B) B w2 gr0 cb) := HLX0.out.later hb2
  have HB2 : Hid (Below w1.heap.size w1 w2) := HBX.out.trans (hb2.mono (by have := HBX.out.size; omega))
  clear hb2 HLX0
  obtain ⟨T, hT⟩ : ∃ T, T = w2.heap.size := ⟨_, rfl⟩
  obtain ⟨X2, hX2⟩ : ∃ X2, X2 = w2.alloc (.cells (bools 6 fun _ => false) 69) := ⟨_, rfl⟩
  have hbX2 : Below w2.heap.size w2 X2 := by rw [hX2]; exact (Below.refl _ _).alloc (Nat.le_refl _) _
  have hBT : B < T := by have := HL2.out.box.lt; omega
  have HLX : Hid (OBox (fun b => b ≠ B ∧ b ≠ T) B X2 gr0 cb) := by
    obtain ⟨nv, e, hc⟩ := (HL2.out.later hbX2).case
    exact ⟨(HL2.out.later hbX2).row, nv, e, hc.mono (fun b _ hb => by have hb' : b < B := hb; exact ⟨by show b ≠ B; omega, by show b ≠ T; omega⟩)⟩
  have HTX : Hid (X2.heap[T]? = some (.cells (bools 6 fun _ => false) 69 (0, 0))) := by unfold Hid; rw [hX2, hT]; exact heap_new _ _
  have HBX2 : Hid (Below w1.heap.size w1 X2) := HB2.out.trans (hbX2.mono (by have := HB2.out.size; omega))
  have HX2 : Hid (X2 = w2.alloc (.cells (bools 6 fun _ => false) 69)) := hX2
  have HTT : Hid (T = w2.heap.size) := hT
  clear hX2 hT hbX2
  go_upto_region 6 with fail
  rw [bools_zero, ← HX2.out, ← HTT.out]
  clear HX2 HTT
  go_wp2
  go_loopw [8, 10] (fun dv i wr => ∃ (k : Nat) (c : CaseL) (gr : Array Value) (t : Nat → Bool) (d : List Int), k ≤ fs.length ∧ i = .int .i64 k ∧ Hid (OBox (fun b => b ≠ B ∧ b ≠ T) B wr gr c) ∧ Hid (wr.heap[T]? = some (.cells (bools 6 t) 69 (0, 0))) ∧ Hid (IsI (fun b => b ≠ B ∧ b ≠ T) wr dv d) ∧ Hid (FixInv ops c t d) ∧ Hid (Below w1.heap.size w1 wr)) (fun _ i _ => fs.length - (intOf i).toNat)
  case atStart => exact ⟨0, cb, gr0, fun _ => false, [], Nat.zero_le _, rfl, HLX, HTX, IsI.nil _ _, HFI0, HBX2⟩
  case round =>
    obtain ⟨k, c, gr, t, d, hk, rfl, HL, HT, HIw, HFI, HBw⟩ := hrel
    by_cases hlt : k < fs.length
    · by_cases h40 : k < 40
      · have hlt' : (k : Int) < (fs.length : Int) := by omega
        have h40' : (k : Int) < 40 := by omega
        have hsz := HBw.out.size
        have hBr : B < wr.heap.size := HL.out.box.lt
        have hTr : T < wr.heap.size := (Array.getElem?_eq_some_iff.1 HT.out).1
        obtain ⟨lb, lo, cs, rfl, hlb, hcs7, hcs, hfv⟩ := HFr.out.at hlt
        obtain ⟨f, hf⟩ : ∃ f, f = fs.getD k zeroF := ⟨_, rfl⟩
        rw [← hf] at hfv
        clear hf
        have HBww : Hid (Below w.heap.size w wr) := HBw1.out.trans (HBw.out.mono (by omega))
        have HFV : Hid (∀ x, Below w.heap.size w x → FrameV x (.agg cs.toArray) f) := fun x hx => hfv.later hx
        obtain ⟨a3, c3, a4, c4, a5, c5, a6, c6, ecs, h3, h4, h5, h6⟩ := hfv
        have ecs : cs.toArray = #[.int .i64 f.kind, .int .i64 f.node, .int .i64 f.id, .slice a3 f.ops.length c3, .slice a4 f.deps.length c4, .slice a5 f.ats.length c5, .slice a6 f.vals.length c6] := by simpa using ecs
        have H4 : Hid (∀ x, Below w.heap.size w x → SlInts x a4 c4 f.deps) := fun x hx => h4.later hx
        rw [ecs] at HFV
        have rcs : wr.rangeAt lb (lo + k * 7) (#[.int .i64 f.kind, .int .i64 f.node, .int .i64 f.id, .slice a3 f.ops.length c3, .slice a4 f.deps.length c4, .slice a5 f.ats.length c5, .slice a6 f.vals.length c6] : Array Value).toList := by rw [← ecs]; exact range_later hcs HBww.out hlb
        have m1 : (0 : Int) ≤ (k : Int) ∧ (k : Int) < (fs.length : Int) := by omega
        obtain ⟨F, hF⟩ : ∃ F, F = wr.heap.size := ⟨_, rfl⟩
        obtain ⟨Y1, hY1⟩ : ∃ Y1, Y1 = wr.alloc (.cells #[.int .i64 f.kind, .int .i64 f.node, .int .i64 f.id, .slice a3 f.ops.length c3, .slice a4 f.deps.length c4, .slice a5 f.ats.length c5, .slice a6 f.vals.length c6] 43) := ⟨_, rfl⟩
        have HY1 : Hid (Y1 = wr.alloc (.cells #[.int .i64 f.kind, .int .i64 f.node, .int .i64 f.id, .slice a3 f.ops.length c3, .slice a4 f.deps.length c4, .slice a5 f.ats.length c5, .slice a6 f.vals.length c6] 43)) := hY1
        have HF : Hid (F = wr.heap.size) := hF
        have hb1 : Below wr.heap.size wr Y1 := by rw [hY1]; exact (Below.refl _ _).alloc (Nat.le_refl _) _
        have rF1 : Y1.heap[F]? = some (.cells #[.int .i64 f.kind, .int .i64 f.node, .int .i64 f.id, .slice a3 f.ops.length c3, .slice a4 f.deps.length c4, .slice a5 f.ats.length c5, .slice a6 f.vals.length c6] 43 (0, 0)) := by rw [hY1, hF]; exact heap_new _ _
        have hTF : T < F := by omega
        have hFY : F < Y1.heap.size := (Array.getElem?_eq_some_iff.1 rF1).1
        have HL1 : Hid (OBox (fun b => b ≠ B ∧ b ≠ T) B Y1 gr c) := HL.out.later hb1
        have HT1 : Hid (Y1.heap[T]? = some (.cells (bools 6 t) 69 (0, 0))) := by unfold Hid; rw [hb1.block _ hTr]; exact HT.out
        have HI1 : Hid (IsI (fun b => b ≠ B ∧ b ≠ T) Y1 u8 d) := HIw.out.later (SameOn.of_size hb1)
        have HB1 : Hid (Below w1.heap.size w1 Y1) := HBw.out.trans (hb1.mono (by omega))
        clear hY1 hF hb1 hcs h3 h4 h5 h6 ecs
        go_upto_region 10 with (first
          | ((with_reducible apply wpl_mid rcs); (· rfl); (· exact row_frame); (· rfl); simp only [Act.put, List.setIfInBounds_toArray, List.set_cons_zero, List.set_cons_succ])
          | fail)
        rw [← HY1.out, ← HF.out]
        clear HY1 HF rcs
        have rB1 := HL1.out.row
        have tB := HL1.out.box.case.row
        have i9 := HL1.out.box.case.info
        have o9 := HL1.out.box.case.one
        have s9 : zr.size = gr.size := by rw [hzz, HL1.out.box.case.size]
        have rowZ : (Y1.alloc (.cells zr 73)).heap[Y1.heap.size]? = some (.cells zr 73 (0, 0)) := heap_new _ _
        obtain ⟨Q, hQ⟩ : ∃ Q, Q = Y1.heap.size := ⟨_, rfl⟩
        obtain ⟨Y2, hY2⟩ : ∃ Y2, Y2 = (Y1.alloc (.cells zr 73)).setRow Y1.heap.size gr := ⟨_, rfl⟩
        have HY2 : Hid (Y2 = (Y1.alloc (.cells zr 73)).setRow Y1.heap.size gr) := hY2
        have HQ : Hid (Q = Y1.heap.size) := hQ
        have hb2 : Below Y1.heap.size Y1 Y2 := by rw [hY2]; exact setRow_below ((Below.refl _ _).alloc (Nat.le_refl _) _) (Nat.le_refl _) _
        have rQ2 : Y2.heap[Q]? = some (.cells gr 73 (0, 0)) := by rw [hY2, hQ]; exact heap_setRow rowZ
        have hFQ : F < Q := by omega
        have hQY : Q < Y2.heap.size := (Array.getElem?_eq_some_iff.1 rQ2).1
        have hsz2 := hb2.size
        have HL2 : Hid (OBox (fun b => b ≠ B ∧ b ≠ T) B Y2 gr c) := HL1.out.later hb2
        have HQ2 : Hid (OBox (fun b => b ≠ B ∧ b ≠ T) Q Y2 gr c) := HL2.out.copy rQ2
        have HT2 : Hid (Y2.heap[T]? = some (.cells (bools 6 t) 69 (0, 0))) := by unfold Hid; rw [hb2.block _ (by omega)]; exact HT1.out
        have HI2 : Hid (IsI (fun b => b ≠ B ∧ b ≠ T) Y2 u8 d) := HI1.out.later (SameOn.of_size hb2)
        have HB2 : Hid (Below w1.heap.size w1 Y2) := HB1.out.trans (hb2.mono (by have := HB1.out.size; omega))
        have rF2 : Y2.heap[F]? = some (.cells #[.int .i64 f.kind, .int .i64 f.node, .int .i64 f.id, .slice a3 f.ops.length c3, .slice a4 f.deps.length c4, .slice a5 f.ats.length c5, .slice a6 f.vals.length c6] 43 (0, 0)) := by rw [hb2.block _ hFY]; exact rF1
        have rB2 := HL2.out.row
        have k02 : Y2.cell? ⟨w.heap.size, 0, none⟩ = some (.int .i64 n) := by rw [HB2.out.cell (p := ⟨w.heap.size, 0, none⟩) (show w.heap.size < w1.heap.size by omega)]; exact kn0
        clear hY2 hQ hb2
        go_upto_region 11 with (first
          | ((with_reducible apply wpl_row rB1); (· rfl); (· exact tB); (· rfl); simp only [Act.put, List.setIfInBounds_toArray, List.set_cons_zero, List.set_cons_succ])
          | (refine wpList_alloc_as rfl 73 rfl zr HZ0.out ?_)
          | (refine wpList_store_row rfl 73 _ _ rfl (Y1.heap.size) gr rfl rfl 73 _ rowZ i9 s9 o9 ?_)
          | fail)
        rw [← HY2.out, ← HQ.out]
        clear HY2 HQ rowZ rB1 s9 i9 o9 rF1
        go_wp2_with (first
          | ((with_reducible apply wpl_row rB2); (· rfl); (· exact tB); (· rfl); simp only [Act.put, List.setIfInBounds_toArray, List.set_cons_zero, List.set_cons_succ])
          | ((with_reducible apply wpl_row rF2); (· rfl); (· exact row_frame); (· rfl); simp only [Act.put, List.setIfInBounds_toArray, List.set_cons_zero, List.set_cons_succ])
          | fail)
        refine (p_take gr c n _ f Y2 HL2.out.box.case (HFV.out Y2 (HBw1.out.trans (HB2.out.mono (by omega))))).mono ?_
        rintro e3 w3 ⟨gr', x, rfl, hcg, hfx, hb3⟩
        obtain ⟨ax, cx, ex⟩ := hfx.form
        obtain ⟨lx, hlx⟩ : ∃ lx, lx = (takeC c n f).2.1.length := ⟨_, rfl⟩
        rw [← hlx] at ex
        subst ex
        have HLX : Hid (lx = (takeC c n f).2.1.length) := hlx
        have rowZ3 : (w3.alloc (.cells zr 73)).heap[w3.heap.size]? = some (.cells zr 73 (0, 0)) := heap_new _ _
        have i9 := hcg.v.info
        have o9 := hcg.v.one
        have s9 : zr.size = gr'.size := by rw [hzz, hcg.v.size]
        have s9' : gr.size = gr'.size := by rw [HL2.out.box.case.size, hcg.v.size]
        have tN := hcg.v.row
        obtain ⟨N, hN⟩ : ∃ N, N = w3.heap.size := ⟨_, rfl⟩
        obtain ⟨Y4, hY4⟩ : ∃ Y4, Y4 = (w3.alloc (.cells zr 73)).setRow w3.heap.size gr' := ⟨_, rfl⟩
        have HY4 : Hid (Y4 = (w3.alloc (.cells zr 73)).setRow w3.heap.size gr') := hY4
        have HN : Hid (N = w3.heap.size) := hN
        have hb4 : Below w3.heap.size w3 Y4 := by rw [hY4]; exact setRow_below ((Below.refl _ _).alloc (Nat.le_refl _) _) (Nat.le_refl _) _
        have hb24 : Below Y2.heap.size Y2 Y4 := hb3.trans (hb4.mono hb3.size)
        have rN4 : Y4.heap[N]? = some (.cells gr' 73 (0, 0)) := by rw [hY4, hN]; exact heap_setRow rowZ3
        have HCG4 : Hid (CaseG Y2.heap.size Y4 gr' (takeC c n f).1) := hcg.later hb4
        have HL4 : Hid (OBox (fun b => b ≠ B ∧ b ≠ T) B Y4 gr c) := HL2.out.later hb24
        have HQ4 : Hid (OBox (fun b => b ≠ B ∧ b ≠ T) Q Y4 gr c) := HQ2.out.later hb24
        have HT4 : Hid (Y4.heap[T]? = some (.cells (bools 6 t) 69 (0, 0))) := by unfold Hid; rw [hb24.block _ (by omega)]; exact HT2.out
        have HI4 : Hid (IsI (fun b => b ≠ B ∧ b ≠ T) Y4 u8 d) := HI2.out.later (SameOn.of_size hb24)
        have HB4 : Hid (Below w1.heap.size w1 Y4) := HB2.out.trans (hb24.mono (by have := HB2.out.size; omega))
        have HR4 : Hid (Y4.heap[F]? = some (.cells #[.int .i64 f.kind, .int .i64 f.node, .int .i64 f.id, .slice a3 f.ops.length c3, .slice a4 f.deps.length c4, .slice a5 f.ats.length c5, .slice a6 f.vals.length c6] 43 (0, 0))) := by unfold Hid; rw [hb24.block _ (by omega)]; exact rF2
        have hz24 := hb24.size
        clear hY4 hN hb3 hb4 hb24 hcg hfx hlx rB2 rF2 k02
        go_upto_region 12 with (first
          | (refine wpList_alloc_as rfl 73 rfl zr HZ0.out ?_)
          | (refine wpList_store_row rfl 73 _ _ rfl (w3.heap.size) gr' rfl rfl 73 _ rowZ3 i9 s9 o9 ?_)
          | fail)
        rw [← HY4.out, ← HN.out]
        clear HY4 HN rowZ3 s9
        by_cases tc : (takeC c n f).2.2 = 0
        rotate_left
        · have dc : ((takeC c n f).2.2 != 0) = true := by simpa using tc
          clear tc
          go_wp2
          go_roundw
          case rel => exact ⟨k + 1, c, gr, t, d, by omega, by go_num, HL4, HT4, HI4, HFI, HB4⟩
          case measure => simp [intOf]; omega
        have dc : ((takeC c n f).2.2 != 0) = false := by simpa using tc
        obtain ⟨e, he⟩ : ∃ e, e = (takeC c n f).1 := ⟨_, rfl⟩
        have HHE : Hid (e = (takeC c n f).1) := he
        have HStep : Hid _ := fix_step HFI.out tc
        rw [← he] at HCG4
        obtain ⟨Z, hZ⟩ : ∃ Z, Z = Y4.setRow B gr' := ⟨_, rfl⟩
        have HHZ : Hid (Z = Y4.setRow B gr') := hZ
        have ho : ∀ b, b ≠ B → Z.heap[b]? = Y4.heap[b]? := fun b hb => by rw [hZ]; exact setRow_other _ _ hb
        have hzZ : Z.heap.size = Y4.heap.size := by rw [hZ, size_setRow]
        have hzZ1 : Z.heap.size ≤ Y4.heap.size := by omega
        have hzZ2 : Y4.heap.size ≤ Z.heap.size := by omega
        have rB4 := HL4.out.row
        have HLZ : Hid (OBox (fun b => b ≠ B ∧ b ≠ T) B Z gr' e) := by
          obtain ⟨mv, em, hc⟩ := HCG4.out
          refine ⟨by rw [hZ]; exact heap_setRow rB4, mv, em, ?_⟩
          exact (hc.later (w' := Z) (fun b _ hb => ho b (by have hb' : Y2.heap.size ≤ b := hb; omega))).mono (fun b _ hb => by have hb' : Y2.heap.size ≤ b := hb; exact ⟨by show b ≠ B; omega, by show b ≠ T; omega⟩)
        have HQZ : Hid (OBox (fun b => b ≠ B ∧ b ≠ T) Q Z gr c) := HQ4.out.keep (ho Q (by omega)) (fun b _ hb => ho b hb.1)
        have HTZ : Hid (Z.heap[T]? = some (.cells (bools 6 t) 69 (0, 0))) := by unfold Hid; rw [ho T (by omega)]; exact HT4.out
        have HIZ : Hid (IsI (fun b => b ≠ B ∧ b ≠ T) Z u8 d) := HI4.out.later (fun b _ hb => ho b hb.1)
        have HBZ : Hid (Below w1.heap.size w1 Z) := by unfold Hid; rw [hZ]; exact setRow_below HB4.out (by omega) _
        have HRZ : Hid (Z.heap[F]? = some (.cells #[.int .i64 f.kind, .int .i64 f.node, .int .i64 f.id, .slice a3 f.ops.length c3, .slice a4 f.deps.length c4, .slice a5 f.ats.length c5, .slice a6 f.vals.length c6] 43 (0, 0))) := by unfold Hid; rw [ho F (by omega)]; exact HR4.out
        have HwZ : Hid (Below w.heap.size w Z) := HBw1.out.trans (HBZ.out.mono (by omega))
        clear hZ ho hzZ he
        go_upto_region 14 with (first
          | ((with_reducible apply wpl_row rN4); (· rfl); (· exact tN); (· rfl); simp only [Act.put, List.setIfInBounds_toArray, List.set_cons_zero, List.set_cons_succ])
          | (refine wpList_store_row rfl 73 _ _ rfl (B) gr' rfl rfl 73 _ rB4 i9 s9' o9 ?_)
          | fail)
        rw [← HHZ.out]
        clear HHZ rN4 rB4 i9 o9 s9' HL4 HQ4 HT4 HI4 HB4 HR4 HCG4 HL2 HQ2 HT2 HI2 HL1 HT1 HI1
        obtain ⟨m, hm6, em⟩ : ∃ m : Nat, m < 6 ∧ f.node = m := by
          have hg : goodL f = 0 := by
            rcases takeC_cases c n f with ⟨h1, _⟩ | ⟨_, h2, _⟩ | ⟨_, _, _, _, _, _⟩
            · exact absurd tc h1
            · exact h2
            · exact take_good0 tc
          have := (good_frame hg).2
          exact ⟨f.node.toNat, by omega, by omega⟩
        have HM : Hid (f.node.toNat = m) := by unfold Hid; omega
        have HMN : Hid (f.node = m) := em
        have hmm : (0 : Int) ≤ (m : Int) ∧ (m : Int) < 6 := by omega
        have s0 : Z.cell? ⟨F, 0, none⟩ = some (.int .i64 f.kind) := by rw [cell_of_row _ _ _ _ _ _ HRZ.out]; rfl
        have s1 : Z.cell? ⟨F, 1, none⟩ = some (.int .i64 m) := by rw [cell_of_row _ _ _ _ _ _ HRZ.out, ← em]; rfl
        have s2 := HQZ.out.box.fixed
        have s3 : Z.cell? ⟨T, m, none⟩ = some (.bool (t m)) := by rw [cell_of_row _ _ _ _ _ _ HTZ.out, bools_get _ hm6]
        have s4 : Z.cell? ⟨w.heap.size, 1, none⟩ = some (.slice a ops.length cap) := by rw [HBZ.out.cell (p := ⟨w.heap.size, 1, none⟩) (show w.heap.size < w1.heap.size by omega)]; exact kn1
        have hFZ : F < Z.heap.size := by omega
        have hQZ : Q < Z.heap.size := by omega
        have hTZ : T < Z.heap.size := by omega
        have hwZ : w.heap.size < Z.heap.size := by omega
        clear tc em
        cases tf : c.fixed
        · have Htf : Hid (c.fixed = false) := tf
          have Hlx : Hid (0 < lx → e.fixed = true) := fun h0 => by
            have h1 := HStep.out.2.2 (fun e0 => by rw [HLX.out, e0] at h0; simp at h0)
            rw [HHE.out]
            exact h1.2
          clear tf
          by_cases tk : f.kind = 2
          · cases tt : t m
            · cases tq : touchesL ops (ofL m)
              · have HFI2 : Hid (FixInv ops e t d) := by
                  have h1 := HStep.out.1
                  rw [if_neg (fun h => by have h2 := h.2.2.2; rw [HMN.out, tq] at h2; cases h2), if_neg (fun h => by have h2 := h.2.2.2; rw [HMN.out, tq] at h2; cases h2)] at h1
                  unfold Hid
                  rw [HHE.out]
                  exact h1
                have dk : (f.kind == 2) = true := by simpa using tk
                rw [tt] at s3
                rw [Htf.out] at s2
                have HTo : Hid (∀ wx, wx = Z.drew → Calls Try.prog 57 #[.slice a ops.length cap, .int .i64 (ofL m)] wx fun e w' => e = .returned (.bool false) ∧ Hid (Below Z.heap.size Z w') ∧ (fun w' : World => w'.cell? ⟨F, 0, none⟩ = some (.int .i64 f.kind) ∧ w'.cell? ⟨F, 1, none⟩ = some (.int .i64 m) ∧ w'.cell? ⟨Q, 1, none⟩ = some (.bool false) ∧ w'.cell? ⟨T, m, none⟩ = some (.bool false) ∧ w'.cell? ⟨w.heap.size, 1, none⟩ = some (.slice a ops.length cap)) w') := by
                  rintro wx rfl
                  refine (touches_any a cap ops (ofL m) _ HZo.out.2.1 (HZo.out.later (HwZ.out.drew)).1).mono ?_
                  rintro e6 w6 ⟨rfl, hb6⟩
                  have hb6' : Below Z.heap.size Z w6 := (Below.drew (Below.refl _ _)).trans hb6
                  refine ⟨by rw [tq], hb6', ?_, ?_, ?_, ?_, ?_⟩
                  · rw [hb6'.cell (p := ⟨F, 0, none⟩) hFZ]; exact s0
                  · rw [hb6'.cell (p := ⟨F, 1, none⟩) hFZ]; exact s1
                  · rw [hb6'.cell (p := ⟨Q, 1, none⟩) hQZ]; exact s2
                  · rw [hb6'.cell (p := ⟨T, m, none⟩) hTZ]; exact s3
                  · rw [hb6'.cell (p := ⟨w.heap.size, 1, none⟩) hwZ]; exact s4
                clear tk
                go_wp2
                refine wp_region_held_drew (S := fun w' : World => w'.cell? ⟨F, 0, none⟩ = some (.int .i64 f.kind) ∧ w'.cell? ⟨F, 1, none⟩ = some (.int .i64 m) ∧ w'.cell? ⟨Q, 1, none⟩ = some (.bool false) ∧ w'.cell? ⟨T, m, none⟩ = some (.bool false) ∧ w'.cell? ⟨w.heap.size, 1, none⟩ = some (.slice a ops.length cap)) (by kernel_rfl) ⟨s0, s1, s2, s3, s4⟩ ?_
                intro hH
                refine wpAnyH_takeD (i := 0) (d := some 59) (v := .pointer (some ⟨F, 0, none⟩)) rfl rfl (by kernel_rfl) (by kernel_rfl) (by kernel_rfl) (fun _ _ _ h => h) (Or.inl ⟨by rfl, fun _ _ => by go_simp⟩) hH ?_
                simp only [Act.put, List.setIfInBounds_toArray, List.set_cons_zero, List.set_cons_succ]
                refine wpAnyH_takeD (i := 1) (d := some 60) (v := .int .i64 f.kind) rfl rfl (by kernel_rfl) (by kernel_rfl) (by kernel_rfl) (fun _ _ _ h => h) (Or.inl ⟨by rfl, fun _ hS => by obtain ⟨hS1, hS2, hS3, hS4, hS5⟩ := hS; go_simp⟩) hH ?_
                simp only [Act.put, List.setIfInBounds_toArray, List.set_cons_zero, List.set_cons_succ]
                refine wpAnyH_takeD (i := 2) (d := some 61) (v := .bool true) rfl rfl (by kernel_rfl) (by kernel_rfl) (by kernel_rfl) (fun _ _ _ h => h) (Or.inl ⟨by rfl, fun _ _ => by go_simp⟩) hH ?_
                simp only [Act.put, List.setIfInBounds_toArray, List.set_cons_zero, List.set_cons_succ]
                refine wpAnyH_takeD (i := 3) (d := some 62) (v := .bool true) rfl rfl (by kernel_rfl) (by kernel_rfl) (by kernel_rfl) (fun _ _ _ h => h) (Or.inl ⟨by rfl, fun _ _ => by go_simp⟩) hH ?_
                simp only [Act.put, List.setIfInBounds_toArray, List.set_cons_zero, List.set_cons_succ]
                refine wpAnyH_takeD (i := 4) (d := some 63) (v := .pointer (some ⟨Q, 1, none⟩)) rfl rfl (by kernel_rfl) (by kernel_rfl) (by kernel_rfl) (fun _ _ _ h => h) (Or.inl ⟨by rfl, fun _ _ => by go_simp⟩) hH ?_
                simp only [Act.put, List.setIfInBounds_toArray, List.set_cons_zero, List.set_cons_succ]
                refine wpAnyH_takeD (i := 5) (d := some 64) (v := .bool false) rfl rfl (by kernel_rfl) (by kernel_rfl) (by kernel_rfl) (fun _ _ _ h => h) (Or.inl ⟨by rfl, fun _ hS => by obtain ⟨hS1, hS2, hS3, hS4, hS5⟩ := hS; go_simp⟩) hH ?_
                simp only [Act.put, List.setIfInBounds_toArray, List.set_cons_zero, List.set_cons_succ]
                refine wpAnyH_takeD (i := 6) (d := some 65) (v := .bool true) rfl rfl (by kernel_rfl) (by kernel_rfl) (by kernel_rfl) (fun _ _ _ h => h) (Or.inl ⟨by rfl, fun _ _ => by go_simp⟩) hH ?_
                simp only [Act.put, List.setIfInBounds_toArray, List.set_cons_zero, List.set_cons_succ]
                refine wpAnyH_takeD (i := 7) (d := some 66) (v := .bool true) rfl rfl (by kernel_rfl) (by kernel_rfl) (by kernel_rfl) (fun _ _ _ h => h) (Or.inl ⟨by rfl, fun _ _ => by go_simp⟩) hH ?_
                simp only [Act.put, List.setIfInBounds_toArray, List.set_cons_zero, List.set_cons_succ]
                refine wpAnyH_takeD (i := 8) (d := some 67) (v := .bool true) rfl rfl (by kernel_rfl) (by kernel_rfl) (by kernel_rfl) (fun _ _ _ h => h) (Or.inl ⟨by rfl, fun _ _ => by go_simp⟩) hH ?_
                simp only [Act.put, List.setIfInBounds_toArray, List.set_cons_zero, List.set_cons_succ]
                refine wpAnyH_takeD (i := 9) (d := some 68) (v := .pointer (some ⟨F, 1, none⟩)) rfl rfl (by kernel_rfl) (by kernel_rfl) (by kernel_rfl) (fun _ _ _ h => h) (Or.inl ⟨by rfl, fun _ _ => by go_simp⟩) hH ?_
                simp only [Act.put, List.setIfInBounds_toArray, List.set_cons_zero, List.set_cons_succ]
                refine wpAnyH_takeD (i := 10) (d := some 69) (v := .int .i64 m) rfl rfl (by kernel_rfl) (by kernel_rfl) (by kernel_rfl) (fun _ _ _ h => h) (Or.inl ⟨by rfl, fun _ hS => by obtain ⟨hS1, hS2, hS3, hS4, hS5⟩ := hS; go_simp⟩) hH ?_
                simp only [Act.put, List.setIfInBounds_toArray, List.set_cons_zero, List.set_cons_succ]
                refine wpAnyH_takeD (i := 11) (d := some 70) (v := .pointer (some ⟨T, m, none⟩)) rfl rfl (by kernel_rfl) (by kernel_rfl) (by kernel_rfl) (fun _ _ _ h => h) (Or.inl ⟨by rfl, fun _ _ => by go_simp⟩) hH ?_
                simp only [Act.put, List.setIfInBounds_toArray, List.set_cons_zero, List.set_cons_succ]
                refine wpAnyH_takeD (i := 12) (d := some 71) (v := .bool false) rfl rfl (by kernel_rfl) (by kernel_rfl) (by kernel_rfl) (fun _ _ _ h => h) (Or.inl ⟨by rfl, fun _ hS => by obtain ⟨hS1, hS2, hS3, hS4, hS5⟩ := hS; go_simp⟩) hH ?_
                simp only [Act.put, List.setIfInBounds_toArray, List.set_cons_zero, List.set_cons_succ]
                refine wpAnyH_takeD (i := 13) (d := some 72) (v := .bool true) rfl rfl (by kernel_rfl) (by kernel_rfl) (by kernel_rfl) (fun _ _ _ h => h) (Or.inl ⟨by rfl, fun _ _ => by go_simp⟩) hH ?_
                simp only [Act.put, List.setIfInBounds_toArray, List.set_cons_zero, List.set_cons_succ]
                refine wpAnyH_takeD (i := 14) (d := some 73) (v := .bool true) rfl rfl (by kernel_rfl) (by kernel_rfl) (by kernel_rfl) (fun _ _ _ h => h) (Or.inl ⟨by rfl, fun _ _ => by go_simp⟩) hH ?_
                simp only [Act.put, List.setIfInBounds_toArray, List.set_cons_zero, List.set_cons_succ]
                refine wpAnyH_takeD (i := 15) (d := some 74) (v := .bool true) rfl rfl (by kernel_rfl) (by kernel_rfl) (by kernel_rfl) (fun _ _ _ h => h) (Or.inl ⟨by rfl, fun _ _ => by go_simp⟩) hH ?_
                simp only [Act.put, List.setIfInBounds_toArray, List.set_cons_zero, List.set_cons_succ]
                refine wpAnyH_takeD (i := 16) (d := some 75) (v := .pointer (some ⟨w.heap.size, 1, none⟩)) rfl rfl (by kernel_rfl) (by kernel_rfl) (by kernel_rfl) (fun _ _ _ h => h) (Or.inl ⟨by rfl, fun _ _ => by go_simp⟩) hH ?_
                simp only [Act.put, List.setIfInBounds_toArray, List.set_cons_zero, List.set_cons_succ]
                refine wpAnyH_takeD (i := 17) (d := some 76) (v := .slice a ops.length cap) rfl rfl (by kernel_rfl) (by kernel_rfl) (by kernel_rfl) (fun _ _ _ h => h) (Or.inl ⟨by rfl, fun _ hS => by obtain ⟨hS1, hS2, hS3, hS4, hS5⟩ := hS; go_simp⟩) hH ?_
                simp only [Act.put, List.setIfInBounds_toArray, List.set_cons_zero, List.set_cons_succ]
                refine wpAnyH_takeD (i := 18) (d := some 77) (v := .pointer (some ⟨F, 1, none⟩)) rfl rfl (by kernel_rfl) (by kernel_rfl) (by kernel_rfl) (fun _ _ _ h => h) (Or.inl ⟨by rfl, fun _ _ => by go_simp⟩) hH ?_
                simp only [Act.put, List.setIfInBounds_toArray, List.set_cons_zero, List.set_cons_succ]
                refine wpAnyH_takeD (i := 19) (d := some 78) (v := .int .i64 m) rfl rfl (by kernel_rfl) (by kernel_rfl) (by kernel_rfl) (fun _ _ _ h => h) (Or.inl ⟨by rfl, fun _ hS => by obtain ⟨hS1, hS2, hS3, hS4, hS5⟩ := hS; go_simp⟩) hH ?_
                simp only [Act.put, List.setIfInBounds_toArray, List.set_cons_zero, List.set_cons_succ]
                refine wpAnyH_ready (rs := [20]) (by kernel_rfl) (by simp) ?_
                refine AllReadyH.cons rfl (fun K hK => ?_) AllReadyH.nil
                go_simp
                refine (of_any _ _).mono ?_
                rintro e w7 ⟨rfl, hw7⟩
                subst hw7
                go_wp2_with fail
                refine hK.out _ _ (hH) (fun hH2 => ?_)
                clear hK K hH
                have hH := hH2
                clear hH2
                refine wpAnyH_ready (rs := [21]) (by kernel_rfl) (by simp) ?_
                refine AllReadyH.cons rfl (fun K hK => ?_) AllReadyH.nil
                go_simp
                refine (HTo.out _ rfl).mono ?_
                rintro e w6 ⟨rfl, HB6, hS6⟩
                go_wp2_with fail
                refine hK.out _ _ (hS6) (fun hH2 => ?_)
                clear hK K hH
                have hH := hH2
                clear hH2
                refine wpAnyH_takeD (i := 22) (d := some 81) (v := .bool false) rfl rfl (by kernel_rfl) (by kernel_rfl) (by kernel_rfl) (fun _ _ _ h => h) (Or.inl ⟨by rfl, fun _ _ => by go_simp⟩) hH ?_
                simp only [Act.put, List.setIfInBounds_toArray, List.set_cons_zero, List.set_cons_succ]
                refine wpAnyH_done (by kernel_rfl) ?_ _
                obtain ⟨V, hV⟩ : ∃ V, V = w6 := ⟨_, rfl⟩
                have hbV : Below Z.heap.size Z V := by rw [hV]; exact HB6.out
                have HLV : Hid (OBox (fun b => b ≠ B ∧ b ≠ T) B V gr' e) := HLZ.out.later hbV
                have HQV : Hid (OBox (fun b => b ≠ B ∧ b ≠ T) Q V gr c) := HQZ.out.later hbV
                have HTV : Hid (V.heap[T]? = some (.cells (bools 6 t) 69 (0, 0))) := by unfold Hid; rw [hbV.block _ hTZ]; exact HTZ.out
                have HIV : Hid (IsI (fun b => b ≠ B ∧ b ≠ T) V u8 d) := HIZ.out.later (SameOn.of_size hbV)
                have HBV : Hid (Below w1.heap.size w1 V) := HBZ.out.trans (hbV.mono (by have := HBZ.out.size; omega))
                rw [← hV]
                clear hV hbV
                go_upto_region 17 with fail
                have v12 := HQV.out.box.fixed
                have v5 := HLV.out.box.fixed
                rw [Htf.out] at v12
                by_cases hlx : 0 < lx
                · rw [Hlx.out hlx] at v5
                  have hlx' : (0 : Int) < (lx : Int) := by omega
                  go_wp2
                  go_roundw
                  case rel => exact ⟨k + 1, e, gr', t, d, by omega, by go_num, HLV, HTV, HIV, HFI2, HBV⟩
                  case measure => simp [intOf]; omega
                · have hlx' : ¬ (0 : Int) < (lx : Int) := by omega
                  go_wp2
                  go_roundw
                  case rel => exact ⟨k + 1, e, gr', t, d, by omega, by go_num, HLV, HTV, HIV, HFI2, HBV⟩
                  case measure => simp [intOf]; omega
              · have HFI2 : Hid (FixInv ops e (upd t m true) (joinL d f.deps)) := by
                  have h1 := HStep.out.1
                  have hc : f.kind = 2 ∧ c.fixed = false ∧ t f.node.toNat = false ∧ touchesL ops (ofL f.node) = true := ⟨tk, Htf.out, by rw [HM.out]; exact tt, by rw [HMN.out]; exact tq⟩
                  rw [if_pos hc, if_pos hc, HM.out] at h1
                  unfold Hid
                  rw [HHE.out]
                  exact h1
                have dk : (f.kind == 2) = true := by simpa using tk
                rw [tt] at s3
                rw [Htf.out] at s2
                have HTo : Hid (∀ wx, wx = Z.drew → Calls Try.prog 57 #[.slice a ops.length cap, .int .i64 (ofL m)] wx fun e w' => e = .returned (.bool true) ∧ Hid (Below Z.heap.size Z w') ∧ (fun w' : World => w'.cell? ⟨F, 0, none⟩ = some (.int .i64 f.kind) ∧ w'.cell? ⟨F, 1, none⟩ = some (.int .i64 m) ∧ w'.cell? ⟨Q, 1, none⟩ = some (.bool false) ∧ w'.cell? ⟨T, m, none⟩ = some (.bool false) ∧ w'.cell? ⟨w.heap.size, 1, none⟩ = some (.slice a ops.length cap)) w') := by
                  rintro wx rfl
                  refine (touches_any a cap ops (ofL m) _ HZo.out.2.1 (HZo.out.later (HwZ.out.drew)).1).mono ?_
                  rintro e6 w6 ⟨rfl, hb6⟩
                  have hb6' : Below Z.heap.size Z w6 := (Below.drew (Below.refl _ _)).trans hb6
                  refine ⟨by rw [tq], hb6', ?_, ?_, ?_, ?_, ?_⟩
                  · rw [hb6'.cell (p := ⟨F, 0, none⟩) hFZ]; exact s0
                  · rw [hb6'.cell (p := ⟨F, 1, none⟩) hFZ]; exact s1
                  · rw [hb6'.cell (p := ⟨Q, 1, none⟩) hQZ]; exact s2
                  · rw [hb6'.cell (p := ⟨T, m, none⟩) hTZ]; exact s3
                  · rw [hb6'.cell (p := ⟨w.heap.size, 1, none⟩) hwZ]; exact s4
                clear tk
                go_wp2
                refine wp_region_held_drew (S := fun w' : World => w'.cell? ⟨F, 0, none⟩ = some (.int .i64 f.kind) ∧ w'.cell? ⟨F, 1, none⟩ = some (.int .i64 m) ∧ w'.cell? ⟨Q, 1, none⟩ = some (.bool false) ∧ w'.cell? ⟨T, m, none⟩ = some (.bool false) ∧ w'.cell? ⟨w.heap.size, 1, none⟩ = some (.slice a ops.length cap)) (by kernel_rfl) ⟨s0, s1, s2, s3, s4⟩ ?_
                intro hH
                refine wpAnyH_takeD (i := 0) (d := some 59) (v := .pointer (some ⟨F, 0, none⟩)) rfl rfl (by kernel_rfl) (by kernel_rfl) (by kernel_rfl) (fun _ _ _ h => h) (Or.inl ⟨by rfl, fun _ _ => by go_simp⟩) hH ?_
                simp only [Act.put, List.setIfInBounds_toArray, List.set_cons_zero, List.set_cons_succ]
                refine wpAnyH_takeD (i := 1) (d := some 60) (v := .int .i64 f.kind) rfl rfl (by kernel_rfl) (by kernel_rfl) (by kernel_rfl) (fun _ _ _ h => h) (Or.inl ⟨by rfl, fun _ hS => by obtain ⟨hS1, hS2, hS3, hS4, hS5⟩ := hS; go_simp⟩) hH ?_
                simp only [Act.put, List.setIfInBounds_toArray, List.set_cons_zero, List.set_cons_succ]
                refine wpAnyH_takeD (i := 2) (d := some 61) (v := .bool true) rfl rfl (by kernel_rfl) (by kernel_rfl) (by kernel_rfl) (fun _ _ _ h => h) (Or.inl ⟨by rfl, fun _ _ => by go_simp⟩) hH ?_
                simp only [Act.put, List.setIfInBounds_toArray, List.set_cons_zero, List.set_cons_succ]
                refine wpAnyH_takeD (i := 3) (d := some 62) (v := .bool true) rfl rfl (by kernel_rfl) (by kernel_rfl) (by kernel_rfl) (fun _ _ _ h => h) (Or.inl ⟨by rfl, fun _ _ => by go_simp⟩) hH ?_
                simp only [Act.put, List.setIfInBounds_toArray, List.set_cons_zero, List.set_cons_succ]
                refine wpAnyH_takeD (i := 4) (d := some 63) (v := .pointer (some ⟨Q, 1, none⟩)) rfl rfl (by kernel_rfl) (by kernel_rfl) (by kernel_rfl) (fun _ _ _ h => h) (Or.inl ⟨by rfl, fun _ _ => by go_simp⟩) hH ?_
                simp only [Act.put, List.setIfInBounds_toArray, List.set_cons_zero, List.set_cons_succ]
                refine wpAnyH_takeD (i := 5) (d := some 64) (v := .bool false) rfl rfl (by kernel_rfl) (by kernel_rfl) (by kernel_rfl) (fun _ _ _ h => h) (Or.inl ⟨by rfl, fun _ hS => by obtain ⟨hS1, hS2, hS3, hS4, hS5⟩ := hS; go_simp⟩) hH ?_
                simp only [Act.put, List.setIfInBounds_toArray, List.set_cons_zero, List.set_cons_succ]
                refine wpAnyH_takeD (i := 6) (d := some 65) (v := .bool true) rfl rfl (by kernel_rfl) (by kernel_rfl) (by kernel_rfl) (fun _ _ _ h => h) (Or.inl ⟨by rfl, fun _ _ => by go_simp⟩) hH ?_
                simp only [Act.put, List.setIfInBounds_toArray, List.set_cons_zero, List.set_cons_succ]
                refine wpAnyH_takeD (i := 7) (d := some 66) (v := .bool true) rfl rfl (by kernel_rfl) (by kernel_rfl) (by kernel_rfl) (fun _ _ _ h => h) (Or.inl ⟨by rfl, fun _ _ => by go_simp⟩) hH ?_
                simp only [Act.put, List.setIfInBounds_toArray, List.set_cons_zero, List.set_cons_succ]
                refine wpAnyH_takeD (i := 8) (d := some 67) (v := .bool true) rfl rfl (by kernel_rfl) (by kernel_rfl) (by kernel_rfl) (fun _ _ _ h => h) (Or.inl ⟨by rfl, fun _ _ => by go_simp⟩) hH ?_
                simp only [Act.put, List.setIfInBounds_toArray, List.set_cons_zero, List.set_cons_succ]
                refine wpAnyH_takeD (i := 9) (d := some 68) (v := .pointer (some ⟨F, 1, none⟩)) rfl rfl (by kernel_rfl) (by kernel_rfl) (by kernel_rfl) (fun _ _ _ h => h) (Or.inl ⟨by rfl, fun _ _ => by go_simp⟩) hH ?_
                simp only [Act.put, List.setIfInBounds_toArray, List.set_cons_zero, List.set_cons_succ]
                refine wpAnyH_takeD (i := 10) (d := some 69) (v := .int .i64 m) rfl rfl (by kernel_rfl) (by kernel_rfl) (by kernel_rfl) (fun _ _ _ h => h) (Or.inl ⟨by rfl, fun _ hS => by obtain ⟨hS1, hS2, hS3, hS4, hS5⟩ := hS; go_simp⟩) hH ?_
                simp only [Act.put, List.setIfInBounds_toArray, List.set_cons_zero, List.set_cons_succ]
                refine wpAnyH_takeD (i := 11) (d := some 70) (v := .pointer (some ⟨T, m, none⟩)) rfl rfl (by kernel_rfl) (by kernel_rfl) (by kernel_rfl) (fun _ _ _ h => h) (Or.inl ⟨by rfl, fun _ _ => by go_simp⟩) hH ?_
                simp only [Act.put, List.setIfInBounds_toArray, List.set_cons_zero, List.set_cons_succ]
                refine wpAnyH_takeD (i := 12) (d := some 71) (v := .bool false) rfl rfl (by kernel_rfl) (by kernel_rfl) (by kernel_rfl) (fun _ _ _ h => h) (Or.inl ⟨by rfl, fun _ hS => by obtain ⟨hS1, hS2, hS3, hS4, hS5⟩ := hS; go_simp⟩) hH ?_
                simp only [Act.put, List.setIfInBounds_toArray, List.set_cons_zero, List.set_cons_succ]
                refine wpAnyH_takeD (i := 13) (d := some 72) (v := .bool true) rfl rfl (by kernel_rfl) (by kernel_rfl) (by kernel_rfl) (fun _ _ _ h => h) (Or.inl ⟨by rfl, fun _ _ => by go_simp⟩) hH ?_
                simp only [Act.put, List.setIfInBounds_toArray, List.set_cons_zero, List.set_cons_succ]
                refine wpAnyH_takeD (i := 14) (d := some 73) (v := .bool true) rfl rfl (by kernel_rfl) (by kernel_rfl) (by kernel_rfl) (fun _ _ _ h => h) (Or.inl ⟨by rfl, fun _ _ => by go_simp⟩) hH ?_
                simp only [Act.put, List.setIfInBounds_toArray, List.set_cons_zero, List.set_cons_succ]
                refine wpAnyH_takeD (i := 15) (d := some 74) (v := .bool true) rfl rfl (by kernel_rfl) (by kernel_rfl) (by kernel_rfl) (fun _ _ _ h => h) (Or.inl ⟨by rfl, fun _ _ => by go_simp⟩) hH ?_
                simp only [Act.put, List.setIfInBounds_toArray, List.set_cons_zero, List.set_cons_succ]
                refine wpAnyH_takeD (i := 16) (d := some 75) (v := .pointer (some ⟨w.heap.size, 1, none⟩)) rfl rfl (by kernel_rfl) (by kernel_rfl) (by kernel_rfl) (fun _ _ _ h => h) (Or.inl ⟨by rfl, fun _ _ => by go_simp⟩) hH ?_
                simp only [Act.put, List.setIfInBounds_toArray, List.set_cons_zero, List.set_cons_succ]
                refine wpAnyH_takeD (i := 17) (d := some 76) (v := .slice a ops.length cap) rfl rfl (by kernel_rfl) (by kernel_rfl) (by kernel_rfl) (fun _ _ _ h => h) (Or.inl ⟨by rfl, fun _ hS => by obtain ⟨hS1, hS2, hS3, hS4, hS5⟩ := hS; go_simp⟩) hH ?_
                simp only [Act.put, List.setIfInBounds_toArray, List.set_cons_zero, List.set_cons_succ]
                refine wpAnyH_takeD (i := 18) (d := some 77) (v := .pointer (some ⟨F, 1, none⟩)) rfl rfl (by kernel_rfl) (by kernel_rfl) (by kernel_rfl) (fun _ _ _ h => h) (Or.inl ⟨by rfl, fun _ _ => by go_simp⟩) hH ?_
                simp only [Act.put, List.setIfInBounds_toArray, List.set_cons_zero, List.set_cons_succ]
                refine wpAnyH_takeD (i := 19) (d := some 78) (v := .int .i64 m) rfl rfl (by kernel_rfl) (by kernel_rfl) (by kernel_rfl) (fun _ _ _ h => h) (Or.inl ⟨by rfl, fun _ hS => by obtain ⟨hS1, hS2, hS3, hS4, hS5⟩ := hS; go_simp⟩) hH ?_
                simp only [Act.put, List.setIfInBounds_toArray, List.set_cons_zero, List.set_cons_succ]
                refine wpAnyH_ready (rs := [20]) (by kernel_rfl) (by simp) ?_
                refine AllReadyH.cons rfl (fun K hK => ?_) AllReadyH.nil
                go_simp
                refine (of_any _ _).mono ?_
                rintro e w7 ⟨rfl, hw7⟩
                subst hw7
                go_wp2_with fail
                refine hK.out _ _ (hH) (fun hH2 => ?_)
                clear hK K hH
                have hH := hH2
                clear hH2
                refine wpAnyH_ready (rs := [21]) (by kernel_rfl) (by simp) ?_
                refine AllReadyH.cons rfl (fun K hK => ?_) AllReadyH.nil
                go_simp
                refine (HTo.out _ rfl).mono ?_
                rintro e w6 ⟨rfl, HB6, hS6⟩
                go_wp2_with fail
                refine hK.out _ _ (hS6) (fun hH2 => ?_)
                clear hK K hH
                have hH := hH2
                clear hH2
                refine wpAnyH_takeD (i := 22) (d := some 81) (v := .bool true) rfl rfl (by kernel_rfl) (by kernel_rfl) (by kernel_rfl) (fun _ _ _ h => h) (Or.inl ⟨by rfl, fun _ _ => by go_simp⟩) hH ?_
                simp only [Act.put, List.setIfInBounds_toArray, List.set_cons_zero, List.set_cons_succ]
                refine wpAnyH_done (by kernel_rfl) ?_ _
                have HL6 : Hid (OBox (fun b => b ≠ B ∧ b ≠ T) B w6 gr' e) := HLZ.out.later HB6.out
                have HQ6 : Hid (OBox (fun b => b ≠ B ∧ b ≠ T) Q w6 gr c) := HQZ.out.later HB6.out
                have HT6 : Hid (w6.heap[T]? = some (.cells (bools 6 t) 69 (0, 0))) := by unfold Hid; rw [HB6.out.block _ hTZ]; exact HTZ.out
                have HI6 : Hid (IsI (fun b => b ≠ B ∧ b ≠ T) w6 u8 d) := HIZ.out.later (SameOn.of_size HB6.out)
                have HR6 : Hid (w6.heap[F]? = some (.cells #[.int .i64 f.kind, .int .i64 f.node, .int .i64 f.id, .slice a3 f.ops.length c3, .slice a4 f.deps.length c4, .slice a5 f.ats.length c5, .slice a6 f.vals.length c6] 43 (0, 0))) := by unfold Hid; rw [HB6.out.block _ hFZ]; exact HRZ.out
                have hz6 := HB6.out.size
                obtain ⟨V0, hV0⟩ : ∃ V0, V0 = w6.setCell ⟨T, m, none⟩ (.bool true) := ⟨_, rfl⟩
                have hoth : ∀ b, b ≠ T → V0.heap[b]? = w6.heap[b]? := fun b hb => by rw [hV0]; exact Below.heap_setCell _ _ _ _ hb
                have hzV0 : w6.heap.size ≤ V0.heap.size := by rw [hV0]; simp [World.setCell]
                have HTV0 : Hid (V0.heap[T]? = some (.cells (bools 6 (upd t m true)) 69 (0, 0))) := by
                  unfold Hid
                  rw [hV0, heap_setCell_same _ _ _ _ _ _ HT6.out, bools_row, rowF_set, bools_row]
                  congr 2
                  refine rowF_congr (fun i hi => ?_)
                  by_cases e : i = m
                  · rw [if_pos e, e, upd_same]
                  · rw [if_neg e, upd_other _ _ e]
                have HLV0 : Hid (OBox (fun b => b ≠ B ∧ b ≠ T) B V0 gr' e) := HL6.out.keep (hoth B (by omega)) (fun b _ hb => hoth b hb.2)
                have HQV0 : Hid (OBox (fun b => b ≠ B ∧ b ≠ T) Q V0 gr c) := HQ6.out.keep (hoth Q (by omega)) (fun b _ hb => hoth b hb.2)
                have HIV0 : Hid (IsI (fun b => b ≠ B ∧ b ≠ T) V0 u8 d) := HI6.out.later (fun b _ hb => hoth b hb.2)
                have HRV0 : Hid (V0.heap[F]? = some (.cells #[.int .i64 f.kind, .int .i64 f.node, .int .i64 f.id, .slice a3 f.ops.length c3, .slice a4 f.deps.length c4, .slice a5 f.ats.length c5, .slice a6 f.vals.length c6] 43 (0, 0))) := by unfold Hid; rw [hoth F (by omega)]; exact HR6.out
                have HBV0 : Hid (Below w1.heap.size w1 V0) := by unfold Hid; rw [hV0]; exact (HBZ.out.trans (HB6.out.mono (by have := HBZ.out.size; omega))).setCell (show w1.heap.size ≤ T by omega) _
                have g1 : w6.cell? ⟨F, 1, none⟩ = some (.int .i64 m) := hS6.2.1
                have gT : w6.cell? ⟨T, m, none⟩ = some (.bool false) := hS6.2.2.2.1
                have fT : w6.frozen? ⟨T, m, none⟩ = false := frozen_of_row _ _ _ _ _ HT6.out
                have HHV0 : Hid (V0 = w6.setCell ⟨T, m, none⟩ (.bool true)) := hV0
                have HZV : Hid (Z.heap.size ≤ V0.heap.size) := by unfold Hid; omega
                clear hV0 hS6 hoth
                go_upto_region 16 with fail
                rw [← HHV0.out]
                clear HHV0 g1 gT fT
                have k4 : V0.cell? ⟨F, 4, none⟩ = some (.slice a4 f.deps.length c4) := by rw [cell_of_row _ _ _ _ _ _ HRV0.out]; rfl
                obtain ⟨a8, d8, e8, hs8⟩ := HIV0.out.sl
                subst e8
                have h4V : SlInts V0 a4 c4 f.deps := H4.out V0 (by have := HBV0.out; exact HBw1.out.trans (this.mono (by omega)))
                go_wp2_with fail
                refine (union_any a8 d8 d a4 c4 f.deps V0 hs8.2.1 hs8.1 h4V.2.1 h4V.1).mono ?_
                rintro e7 V ⟨vu, rfl, hvu, hbV⟩
                have HLV : Hid (OBox (fun b => b ≠ B ∧ b ≠ T) B V gr' e) := HLV0.out.later hbV
                have HQV : Hid (OBox (fun b => b ≠ B ∧ b ≠ T) Q V gr c) := HQV0.out.later hbV
                have HTV : Hid (V.heap[T]? = some (.cells (bools 6 (upd t m true)) 69 (0, 0))) := by unfold Hid; rw [hbV.block _ (Array.getElem?_eq_some_iff.1 HTV0.out).1]; exact HTV0.out
                have HIV : Hid (IsI (fun b => b ≠ B ∧ b ≠ T) V vu (joinL d f.deps)) := (IsI.of_owns hvu (union_room _ _)).mono (fun b _ hb => by have h1 := hb.1; have h2 := HZV.out; exact ⟨by show b ≠ B; omega, by show b ≠ T; omega⟩)
                have HBV : Hid (Below w1.heap.size w1 V) := HBV0.out.trans (hbV.mono (by have := HBV0.out.size; omega))
                clear hvu hbV hs8 h4V k4
                go_upto_region 17 with fail
                have v12 := HQV.out.box.fixed
                have v5 := HLV.out.box.fixed
                rw [Htf.out] at v12
                by_cases hlx : 0 < lx
                · rw [Hlx.out hlx] at v5
                  have hlx' : (0 : Int) < (lx : Int) := by omega
                  go_wp2
                  go_roundw
                  case rel => exact ⟨k + 1, e, gr', (upd t m true), (joinL d f.deps), by omega, by go_num, HLV, HTV, HIV, HFI2, HBV⟩
                  case measure => simp [intOf]; omega
                · have hlx' : ¬ (0 : Int) < (lx : Int) := by omega
                  go_wp2
                  go_roundw
                  case rel => exact ⟨k + 1, e, gr', (upd t m true), (joinL d f.deps), by omega, by go_num, HLV, HTV, HIV, HFI2, HBV⟩
                  case measure => simp [intOf]; omega
            · have HFI2 : Hid (FixInv ops e t d) := by
                have h1 := HStep.out.1
                rw [if_neg (fun h => by have h2 := h.2.2.1; rw [HM.out, tt] at h2; cases h2), if_neg (fun h => by have h2 := h.2.2.1; rw [HM.out, tt] at h2; cases h2)] at h1
                unfold Hid
                rw [HHE.out]
                exact h1
              have dk : (f.kind == 2) = true := by simpa using tk
              rw [tt] at s3
              rw [Htf.out] at s2
              clear tk
              go_wp2
              refine wp_region_held_drew (S := fun w' : World => w'.cell? ⟨F, 0, none⟩ = some (.int .i64 f.kind) ∧ w'.cell? ⟨F, 1, none⟩ = some (.int .i64 m) ∧ w'.cell? ⟨Q, 1, none⟩ = some (.bool false) ∧ w'.cell? ⟨T, m, none⟩ = some (.bool true) ∧ w'.cell? ⟨w.heap.size, 1, none⟩ = some (.slice a ops.length cap)) (by kernel_rfl) ⟨s0, s1, s2, s3, s4⟩ ?_
              intro hH
              refine wpAnyH_takeD (i := 0) (d := some 59) (v := .pointer (some ⟨F, 0, none⟩)) rfl rfl (by kernel_rfl) (by kernel_rfl) (by kernel_rfl) (fun _ _ _ h => h) (Or.inl ⟨by rfl, fun _ _ => by go_simp⟩) hH ?_
              simp only [Act.put, List.setIfInBounds_toArray, List.set_cons_zero, List.set_cons_succ]
              refine wpAnyH_takeD (i := 1) (d := some 60) (v := .int .i64 f.kind) rfl rfl (by kernel_rfl) (by kernel_rfl) (by kernel_rfl) (fun _ _ _ h => h) (Or.inl ⟨by rfl, fun _ hS => by obtain ⟨hS1, hS2, hS3, hS4, hS5⟩ := hS; go_simp⟩) hH ?_
              simp only [Act.put, List.setIfInBounds_toArray, List.set_cons_zero, List.set_cons_succ]
              refine wpAnyH_takeD (i := 2) (d := some 61) (v := .bool true) rfl rfl (by kernel_rfl) (by kernel_rfl) (by kernel_rfl) (fun _ _ _ h => h) (Or.inl ⟨by rfl, fun _ _ => by go_simp⟩) hH ?_
              simp only [Act.put, List.setIfInBounds_toArray, List.set_cons_zero, List.set_cons_succ]
              refine wpAnyH_takeD (i := 3) (d := some 62) (v := .bool true) rfl rfl (by kernel_rfl) (by kernel_rfl) (by kernel_rfl) (fun _ _ _ h => h) (Or.inl ⟨by rfl, fun _ _ => by go_simp⟩) hH ?_
              simp only [Act.put, List.setIfInBounds_toArray, List.set_cons_zero, List.set_cons_succ]
              refine wpAnyH_takeD (i := 4) (d := some 63) (v := .pointer (some ⟨Q, 1, none⟩)) rfl rfl (by kernel_rfl) (by kernel_rfl) (by kernel_rfl) (fun _ _ _ h => h) (Or.inl ⟨by rfl, fun _ _ => by go_simp⟩) hH ?_
              simp only [Act.put, List.setIfInBounds_toArray, List.set_cons_zero, List.set_cons_succ]
              refine wpAnyH_takeD (i := 5) (d := some 64) (v := .bool false) rfl rfl (by kernel_rfl) (by kernel_rfl) (by kernel_rfl) (fun _ _ _ h => h) (Or.inl ⟨by rfl, fun _ hS => by obtain ⟨hS1, hS2, hS3, hS4, hS5⟩ := hS; go_simp⟩) hH ?_
              simp only [Act.put, List.setIfInBounds_toArray, List.set_cons_zero, List.set_cons_succ]
              refine wpAnyH_takeD (i := 6) (d := some 65) (v := .bool true) rfl rfl (by kernel_rfl) (by kernel_rfl) (by kernel_rfl) (fun _ _ _ h => h) (Or.inl ⟨by rfl, fun _ _ => by go_simp⟩) hH ?_
              simp only [Act.put, List.setIfInBounds_toArray, List.set_cons_zero, List.set_cons_succ]
              refine wpAnyH_takeD (i := 7) (d := some 66) (v := .bool true) rfl rfl (by kernel_rfl) (by kernel_rfl) (by kernel_rfl) (fun _ _ _ h => h) (Or.inl ⟨by rfl, fun _ _ => by go_simp⟩) hH ?_
              simp only [Act.put, List.setIfInBounds_toArray, List.set_cons_zero, List.set_cons_succ]
              refine wpAnyH_takeD (i := 8) (d := some 67) (v := .bool true) rfl rfl (by kernel_rfl) (by kernel_rfl) (by kernel_rfl) (fun _ _ _ h => h) (Or.inl ⟨by rfl, fun _ _ => by go_simp⟩) hH ?_
              simp only [Act.put, List.setIfInBounds_toArray, List.set_cons_zero, List.set_cons_succ]
              refine wpAnyH_takeD (i := 9) (d := some 68) (v := .pointer (some ⟨F, 1, none⟩)) rfl rfl (by kernel_rfl) (by kernel_rfl) (by kernel_rfl) (fun _ _ _ h => h) (Or.inl ⟨by rfl, fun _ _ => by go_simp⟩) hH ?_
              simp only [Act.put, List.setIfInBounds_toArray, List.set_cons_zero, List.set_cons_succ]
              refine wpAnyH_takeD (i := 10) (d := some 69) (v := .int .i64 m) rfl rfl (by kernel_rfl) (by kernel_rfl) (by kernel_rfl) (fun _ _ _ h => h) (Or.inl ⟨by rfl, fun _ hS => by obtain ⟨hS1, hS2, hS3, hS4, hS5⟩ := hS; go_simp⟩) hH ?_
              simp only [Act.put, List.setIfInBounds_toArray, List.set_cons_zero, List.set_cons_succ]
              refine wpAnyH_takeD (i := 11) (d := some 70) (v := .pointer (some ⟨T, m, none⟩)) rfl rfl (by kernel_rfl) (by kernel_rfl) (by kernel_rfl) (fun _ _ _ h => h) (Or.inl ⟨by rfl, fun _ _ => by go_simp⟩) hH ?_
              simp only [Act.put, List.setIfInBounds_toArray, List.set_cons_zero, List.set_cons_succ]
              refine wpAnyH_takeD (i := 12) (d := some 71) (v := .bool true) rfl rfl (by kernel_rfl) (by kernel_rfl) (by kernel_rfl) (fun _ _ _ h => h) (Or.inl ⟨by rfl, fun _ hS => by obtain ⟨hS1, hS2, hS3, hS4, hS5⟩ := hS; go_simp⟩) hH ?_
              simp only [Act.put, List.setIfInBounds_toArray, List.set_cons_zero, List.set_cons_succ]
              refine wpAnyH_takeD (i := 13) (d := some 72) (v := .bool false) rfl rfl (by kernel_rfl) (by kernel_rfl) (by kernel_rfl) (fun _ _ _ h => h) (Or.inl ⟨by rfl, fun _ _ => by go_simp⟩) hH ?_
              simp only [Act.put, List.setIfInBounds_toArray, List.set_cons_zero, List.set_cons_succ]
              refine wpAnyH_takeD (i := 14) (d := some 73) (v := .bool false) rfl rfl (by kernel_rfl) (by kernel_rfl) (by kernel_rfl) (fun _ _ _ h => h) (Or.inl ⟨by rfl, fun _ _ => by go_simp⟩) hH ?_
              simp only [Act.put, List.setIfInBounds_toArray, List.set_cons_zero, List.set_cons_succ]
              refine wpAnyH_takeD (i := 15) (d := some 74) (v := .bool false) rfl rfl (by kernel_rfl) (by kernel_rfl) (by kernel_rfl) (fun _ _ _ h => h) (Or.inl ⟨by rfl, fun _ _ => by go_simp⟩) hH ?_
              simp only [Act.put, List.setIfInBounds_toArray, List.set_cons_zero, List.set_cons_succ]
              refine wpAnyH_takeD (i := 16) (d := some 75) (v := undef) rfl rfl (by kernel_rfl) (by kernel_rfl) (by kernel_rfl) (fun _ _ _ h => h) (Or.inr ⟨by rfl, rfl⟩) hH ?_
              simp only [Act.put, List.setIfInBounds_toArray, List.set_cons_zero, List.set_cons_succ]
              refine wpAnyH_takeD (i := 17) (d := some 76) (v := undef) rfl rfl (by kernel_rfl) (by kernel_rfl) (by kernel_rfl) (fun _ _ _ h => h) (Or.inr ⟨by rfl, rfl⟩) hH ?_
              simp only [Act.put, List.setIfInBounds_toArray, List.set_cons_zero, List.set_cons_succ]
              refine wpAnyH_takeD (i := 18) (d := some 77) (v := undef) rfl rfl (by kernel_rfl) (by kernel_rfl) (by kernel_rfl) (fun _ _ _ h => h) (Or.inr ⟨by rfl, rfl⟩) hH ?_
              simp only [Act.put, List.setIfInBounds_toArray, List.set_cons_zero, List.set_cons_succ]
              refine wpAnyH_takeD (i := 19) (d := some 78) (v := undef) rfl rfl (by kernel_rfl) (by kernel_rfl) (by kernel_rfl) (fun _ _ _ h => h) (Or.inr ⟨by rfl, rfl⟩) hH ?_
              simp only [Act.put, List.setIfInBounds_toArray, List.set_cons_zero, List.set_cons_succ]
              refine wpAnyH_takeD (i := 20) (d := some 79) (v := undef) rfl rfl (by kernel_rfl) (by kernel_rfl) (by kernel_rfl) (fun _ _ _ h => h) (Or.inr ⟨by rfl, rfl⟩) hH ?_
              simp only [Act.put, List.setIfInBounds_toArray, List.set_cons_zero, List.set_cons_succ]
              refine wpAnyH_takeD (i := 21) (d := some 80) (v := undef) rfl rfl (by kernel_rfl) (by kernel_rfl) (by kernel_rfl) (fun _ _ _ h => h) (Or.inr ⟨by rfl, rfl⟩) hH ?_
              simp only [Act.put, List.setIfInBounds_toArray, List.set_cons_zero, List.set_cons_succ]
              refine wpAnyH_takeD (i := 22) (d := some 81) (v := .bool false) rfl rfl (by kernel_rfl) (by kernel_rfl) (by kernel_rfl) (fun _ _ _ h => h) (Or.inl ⟨by rfl, fun _ _ => by go_simp⟩) hH ?_
              simp only [Act.put, List.setIfInBounds_toArray, List.set_cons_zero, List.set_cons_succ]
              refine wpAnyH_done (by kernel_rfl) ?_ _
              obtain ⟨V, hV⟩ : ∃ V, V = Z.drew := ⟨_, rfl⟩
              have hbV : Below Z.heap.size Z V := by rw [hV]; exact Below.drew (Below.refl _ _)
              have HLV : Hid (OBox (fun b => b ≠ B ∧ b ≠ T) B V gr' e) := HLZ.out.later hbV
              have HQV : Hid (OBox (fun b => b ≠ B ∧ b ≠ T) Q V gr c) := HQZ.out.later hbV
              have HTV : Hid (V.heap[T]? = some (.cells (bools 6 t) 69 (0, 0))) := by unfold Hid; rw [hbV.block _ hTZ]; exact HTZ.out
              have HIV : Hid (IsI (fun b => b ≠ B ∧ b ≠ T) V u8 d) := HIZ.out.later (SameOn.of_size hbV)
              have HBV : Hid (Below w1.heap.size w1 V) := HBZ.out.trans (hbV.mono (by have := HBZ.out.size; omega))
              rw [← hV]
              clear hV hbV
              go_upto_region 17 with fail
              have v12 := HQV.out.box.fixed
              have v5 := HLV.out.box.fixed
              rw [Htf.out] at v12
              by_cases hlx : 0 < lx
              · rw [Hlx.out hlx] at v5
                have hlx' : (0 : Int) < (lx : Int) := by omega
                go_wp2
                go_roundw
                case rel => exact ⟨k + 1, e, gr', t, d, by omega, by go_num, HLV, HTV, HIV, HFI2, HBV⟩
                case measure => simp [intOf]; omega
              · have hlx' : ¬ (0 : Int) < (lx : Int) := by omega
                go_wp2
                go_roundw
                case rel => exact ⟨k + 1, e, gr', t, d, by omega, by go_num, HLV, HTV, HIV, HFI2, HBV⟩
                case measure => simp [intOf]; omega
          · have HFI2 : Hid (FixInv ops e t d) := by
              have h1 := HStep.out.1
              rw [if_neg (fun h => tk h.1), if_neg (fun h => tk h.1)] at h1
              unfold Hid
              rw [HHE.out]
              exact h1
            have dk : (f.kind == 2) = false := by simpa using tk
            clear tk
            go_wp2
            refine wp_region_held_drew (S := fun w' : World => w'.cell? ⟨F, 0, none⟩ = some (.int .i64 f.kind) ∧ w'.cell? ⟨F, 1, none⟩ = some (.int .i64 m) ∧ w'.cell? ⟨Q, 1, none⟩ = some (.bool (c.fixed)) ∧ w'.cell? ⟨T, m, none⟩ = some (.bool (t m)) ∧ w'.cell? ⟨w.heap.size, 1, none⟩ = some (.slice a ops.length cap)) (by kernel_rfl) ⟨s0, s1, s2, s3, s4⟩ ?_
            intro hH
            refine wpAnyH_takeD (i := 0) (d := some 59) (v := .pointer (some ⟨F, 0, none⟩)) rfl rfl (by kernel_rfl) (by kernel_rfl) (by kernel_rfl) (fun _ _ _ h => h) (Or.inl ⟨by rfl, fun _ _ => by go_simp⟩) hH ?_
            simp only [Act.put, List.setIfInBounds_toArray, List.set_cons_zero, List.set_cons_succ]
            refine wpAnyH_takeD (i := 1) (d := some 60) (v := .int .i64 f.kind) rfl rfl (by kernel_rfl) (by kernel_rfl) (by kernel_rfl) (fun _ _ _ h => h) (Or.inl ⟨by rfl, fun _ hS => by obtain ⟨hS1, hS2, hS3, hS4, hS5⟩ := hS; go_simp⟩) hH ?_
            simp only [Act.put, List.setIfInBounds_toArray, List.set_cons_zero, List.set_cons_succ]
            refine wpAnyH_takeD (i := 2) (d := some 61) (v := .bool false) rfl rfl (by kernel_rfl) (by kernel_rfl) (by kernel_rfl) (fun _ _ _ h => h) (Or.inl ⟨by rfl, fun _ _ => by go_simp⟩) hH ?_
            simp only [Act.put, List.setIfInBounds_toArray, List.set_cons_zero, List.set_cons_succ]
            refine wpAnyH_takeD (i := 3) (d := some 62) (v := .bool false) rfl rfl (by kernel_rfl) (by kernel_rfl) (by kernel_rfl) (fun _ _ _ h => h) (Or.inl ⟨by rfl, fun _ _ => by go_simp⟩) hH ?_
            simp only [Act.put, List.setIfInBounds_toArray, List.set_cons_zero, List.set_cons_succ]
            refine wpAnyH_takeD (i := 4) (d := some 63) (v := undef) rfl rfl (by kernel_rfl) (by kernel_rfl) (by kernel_rfl) (fun _ _ _ h => h) (Or.inr ⟨by rfl, rfl⟩) hH ?_
            simp only [Act.put, List.setIfInBounds_toArray, List.set_cons_zero, List.set_cons_succ]
            refine wpAnyH_takeD (i := 5) (d := some 64) (v := undef) rfl rfl (by kernel_rfl) (by kernel_rfl) (by kernel_rfl) (fun _ _ _ h => h) (Or.inr ⟨by rfl, rfl⟩) hH ?_
            simp only [Act.put, List.setIfInBounds_toArray, List.set_cons_zero, List.set_cons_succ]
            refine wpAnyH_takeD (i := 6) (d := some 65) (v := undef) rfl rfl (by kernel_rfl) (by kernel_rfl) (by kernel_rfl) (fun _ _ _ h => h) (Or.inr ⟨by rfl, rfl⟩) hH ?_
            simp only [Act.put, List.setIfInBounds_toArray, List.set_cons_zero, List.set_cons_succ]
            refine wpAnyH_takeD (i := 7) (d := some 66) (v := .bool false) rfl rfl (by kernel_rfl) (by kernel_rfl) (by kernel_rfl) (fun _ _ _ h => h) (Or.inl ⟨by rfl, fun _ _ => by go_simp⟩) hH ?_
            simp only [Act.put, List.setIfInBounds_toArray, List.set_cons_zero, List.set_cons_succ]
            refine wpAnyH_takeD (i := 8) (d := some 67) (v := .bool false) rfl rfl (by kernel_rfl) (by kernel_rfl) (by kernel_rfl) (fun _ _ _ h => h) (Or.inl ⟨by rfl, fun _ _ => by go_simp⟩) hH ?_
            simp only [Act.put, List.setIfInBounds_toArray, List.set_cons_zero, List.set_cons_succ]
            refine wpAnyH_takeD (i := 9) (d := some 68) (v := undef) rfl rfl (by kernel_rfl) (by kernel_rfl) (by kernel_rfl) (fun _ _ _ h => h) (Or.inr ⟨by rfl, rfl⟩) hH ?_
            simp only [Act.put, List.setIfInBounds_toArray, List.set_cons_zero, List.set_cons_succ]
            refine wpAnyH_takeD (i := 10) (d := some 69) (v := undef) rfl rfl (by kernel_rfl) (by kernel_rfl) (by kernel_rfl) (fun _ _ _ h => h) (Or.inr ⟨by rfl, rfl⟩) hH ?_
            simp only [Act.put, List.setIfInBounds_toArray, List.set_cons_zero, List.set_cons_succ]
            refine wpAnyH_takeD (i := 11) (d := some 70) (v := undef) rfl rfl (by kernel_rfl) (by kernel_rfl) (by kernel_rfl) (fun _ _ _ h => h) (Or.inr ⟨by rfl, rfl⟩) hH ?_
            simp only [Act.put, List.setIfInBounds_toArray, List.set_cons_zero, List.set_cons_succ]
            refine wpAnyH_takeD (i := 12) (d := some 71) (v := undef) rfl rfl (by kernel_rfl) (by kernel_rfl) (by kernel_rfl) (fun _ _ _ h => h) (Or.inr ⟨by rfl, rfl⟩) hH ?_
            simp only [Act.put, List.setIfInBounds_toArray, List.set_cons_zero, List.set_cons_succ]
            refine wpAnyH_takeD (i := 13) (d := some 72) (v := undef) rfl rfl (by kernel_rfl) (by kernel_rfl) (by kernel_rfl) (fun _ _ _ h => h) (Or.inr ⟨by rfl, rfl⟩) hH ?_
            simp only [Act.put, List.setIfInBounds_toArray, List.set_cons_zero, List.set_cons_succ]
            refine wpAnyH_takeD (i := 14) (d := some 73) (v := .bool false) rfl rfl (by kernel_rfl) (by kernel_rfl) (by kernel_rfl) (fun _ _ _ h => h) (Or.inl ⟨by rfl, fun _ _ => by go_simp⟩) hH ?_
            simp only [Act.put, List.setIfInBounds_toArray, List.set_cons_zero, List.set_cons_succ]
            refine wpAnyH_takeD (i := 15) (d := some 74) (v := .bool false) rfl rfl (by kernel_rfl) (by kernel_rfl) (by kernel_rfl) (fun _ _ _ h => h) (Or.inl ⟨by rfl, fun _ _ => by go_simp⟩) hH ?_
            simp only [Act.put, List.setIfInBounds_toArray, List.set_cons_zero, List.set_cons_succ]
            refine wpAnyH_takeD (i := 16) (d := some 75) (v := undef) rfl rfl (by kernel_rfl) (by kernel_rfl) (by kernel_rfl) (fun _ _ _ h => h) (Or.inr ⟨by rfl, rfl⟩) hH ?_
            simp only [Act.put, List.setIfInBounds_toArray, List.set_cons_zero, List.set_cons_succ]
            refine wpAnyH_takeD (i := 17) (d := some 76) (v := undef) rfl rfl (by kernel_rfl) (by kernel_rfl) (by kernel_rfl) (fun _ _ _ h => h) (Or.inr ⟨by rfl, rfl⟩) hH ?_
            simp only [Act.put, List.setIfInBounds_toArray, List.set_cons_zero, List.set_cons_succ]
            refine wpAnyH_takeD (i := 18) (d := some 77) (v := undef) rfl rfl (by kernel_rfl) (by kernel_rfl) (by kernel_rfl) (fun _ _ _ h => h) (Or.inr ⟨by rfl, rfl⟩) hH ?_
            simp only [Act.put, List.setIfInBounds_toArray, List.set_cons_zero, List.set_cons_succ]
            refine wpAnyH_takeD (i := 19) (d := some 78) (v := undef) rfl rfl (by kernel_rfl) (by kernel_rfl) (by kernel_rfl) (fun _ _ _ h => h) (Or.inr ⟨by rfl, rfl⟩) hH ?_
            simp only [Act.put, List.setIfInBounds_toArray, List.set_cons_zero, List.set_cons_succ]
            refine wpAnyH_takeD (i := 20) (d := some 79) (v := undef) rfl rfl (by kernel_rfl) (by kernel_rfl) (by kernel_rfl) (fun _ _ _ h => h) (Or.inr ⟨by rfl, rfl⟩) hH ?_
            simp only [Act.put, List.setIfInBounds_toArray, List.set_cons_zero, List.set_cons_succ]
            refine wpAnyH_takeD (i := 21) (d := some 80) (v := undef) rfl rfl (by kernel_rfl) (by kernel_rfl) (by kernel_rfl) (fun _ _ _ h => h) (Or.inr ⟨by rfl, rfl⟩) hH ?_
            simp only [Act.put, List.setIfInBounds_toArray, List.set_cons_zero, List.set_cons_succ]
            refine wpAnyH_takeD (i := 22) (d := some 81) (v := .bool false) rfl rfl (by kernel_rfl) (by kernel_rfl) (by kernel_rfl) (fun _ _ _ h => h) (Or.inl ⟨by rfl, fun _ _ => by go_simp⟩) hH ?_
            simp only [Act.put, List.setIfInBounds_toArray, List.set_cons_zero, List.set_cons_succ]
            refine wpAnyH_done (by kernel_rfl) ?_ _
            obtain ⟨V, hV⟩ : ∃ V, V = Z.drew := ⟨_, rfl⟩
            have hbV : Below Z.heap.size Z V := by rw [hV]; exact Below.drew (Below.refl _ _)
            have HLV : Hid (OBox (fun b => b ≠ B ∧ b ≠ T) B V gr' e) := HLZ.out.later hbV
            have HQV : Hid (OBox (fun b => b ≠ B ∧ b ≠ T) Q V gr c) := HQZ.out.later hbV
            have HTV : Hid (V.heap[T]? = some (.cells (bools 6 t) 69 (0, 0))) := by unfold Hid; rw [hbV.block _ hTZ]; exact HTZ.out
            have HIV : Hid (IsI (fun b => b ≠ B ∧ b ≠ T) V u8 d) := HIZ.out.later (SameOn.of_size hbV)
            have HBV : Hid (Below w1.heap.size w1 V) := HBZ.out.trans (hbV.mono (by have := HBZ.out.size; omega))
            rw [← hV]
            clear hV hbV
            go_upto_region 17 with fail
            have v12 := HQV.out.box.fixed
            have v5 := HLV.out.box.fixed
            rw [Htf.out] at v12
            by_cases hlx : 0 < lx
            · rw [Hlx.out hlx] at v5
              have hlx' : (0 : Int) < (lx : Int) := by omega
              go_wp2
              go_roundw
              case rel => exact ⟨k + 1, e, gr', t, d, by omega, by go_num, HLV, HTV, HIV, HFI2, HBV⟩
              case measure => simp [intOf]; omega
            · have hlx' : ¬ (0 : Int) < (lx : Int) := by omega
              go_wp2
              go_roundw
              case rel => exact ⟨k + 1, e, gr', t, d, by omega, by go_num, HLV, HTV, HIV, HFI2, HBV⟩
              case measure => simp [intOf]; omega
        · have Htf : Hid (c.fixed = true) := tf
          have Hef : Hid (e.fixed = true) := by unfold Hid; rw [HHE.out]; exact (HStep.out.2.1 tf).1
          have Hed : Hid (e.deps = c.deps) := by unfold Hid; rw [HHE.out]; exact (HStep.out.2.1 tf).2
          have Hlx : Hid (lx = 0) := by
            unfold Hid
            rw [HLX.out]
            by_cases e0 : (takeC c n f).2.1 = []
            · rw [e0]; rfl
            · have := (HStep.out.2.2 e0).1
              rw [tf] at this; cases this
          clear tf
          by_cases tk : f.kind = 2
          · have HFI2 : Hid (FixInv ops e t d) := by
              have h1 := HStep.out.1
              rw [if_neg (fun h => by have h2 := h.2.1; rw [Htf.out] at h2; cases h2), if_neg (fun h => by have h2 := h.2.1; rw [Htf.out] at h2; cases h2)] at h1
              unfold Hid
              rw [HHE.out]
              exact h1
            have dk : (f.kind == 2) = true := by simpa using tk
            rw [Htf.out] at s2
            clear tk
            go_wp2
            refine wp_region_held_drew (S := fun w' : World => w'.cell? ⟨F, 0, none⟩ = some (.int .i64 f.kind) ∧ w'.cell? ⟨F, 1, none⟩ = some (.int .i64 m) ∧ w'.cell? ⟨Q, 1, none⟩ = some (.bool true) ∧ w'.cell? ⟨T, m, none⟩ = some (.bool (t m)) ∧ w'.cell? ⟨w.heap.size, 1, none⟩ = some (.slice a ops.length cap)) (by kernel_rfl) ⟨s0, s1, s2, s3, s4⟩ ?_
            intro hH
            refine wpAnyH_takeD (i := 0) (d := some 59) (v := .pointer (some ⟨F, 0, none⟩)) rfl rfl (by kernel_rfl) (by kernel_rfl) (by kernel_rfl) (fun _ _ _ h => h) (Or.inl ⟨by rfl, fun _ _ => by go_simp⟩) hH ?_
            simp only [Act.put, List.setIfInBounds_toArray, List.set_cons_zero, List.set_cons_succ]
            refine wpAnyH_takeD (i := 1) (d := some 60) (v := .int .i64 f.kind) rfl rfl (by kernel_rfl) (by kernel_rfl) (by kernel_rfl) (fun _ _ _ h => h) (Or.inl ⟨by rfl, fun _ hS => by obtain ⟨hS1, hS2, hS3, hS4, hS5⟩ := hS; go_simp⟩) hH ?_
            simp only [Act.put, List.setIfInBounds_toArray, List.set_cons_zero, List.set_cons_succ]
            refine wpAnyH_takeD (i := 2) (d := some 61) (v := .bool true) rfl rfl (by kernel_rfl) (by kernel_rfl) (by kernel_rfl) (fun _ _ _ h => h) (Or.inl ⟨by rfl, fun _ _ => by go_simp⟩) hH ?_
            simp only [Act.put, List.setIfInBounds_toArray, List.set_cons_zero, List.set_cons_succ]
            refine wpAnyH_takeD (i := 3) (d := some 62) (v := .bool true) rfl rfl (by kernel_rfl) (by kernel_rfl) (by kernel_rfl) (fun _ _ _ h => h) (Or.inl ⟨by rfl, fun _ _ => by go_simp⟩) hH ?_
            simp only [Act.put, List.setIfInBounds_toArray, List.set_cons_zero, List.set_cons_succ]
            refine wpAnyH_takeD (i := 4) (d := some 63) (v := .pointer (some ⟨Q, 1, none⟩)) rfl rfl (by kernel_rfl) (by kernel_rfl) (by kernel_rfl) (fun _ _ _ h => h) (Or.inl ⟨by rfl, fun _ _ => by go_simp⟩) hH ?_
            simp only [Act.put, List.setIfInBounds_toArray, List.set_cons_zero, List.set_cons_succ]
            refine wpAnyH_takeD (i := 5) (d := some 64) (v := .bool true) rfl rfl (by kernel_rfl) (by kernel_rfl) (by kernel_rfl) (fun _ _ _ h => h) (Or.inl ⟨by rfl, fun _ hS => by obtain ⟨hS1, hS2, hS3, hS4, hS5⟩ := hS; go_simp⟩) hH ?_
            simp only [Act.put, List.setIfInBounds_toArray, List.set_cons_zero, List.set_cons_succ]
            refine wpAnyH_takeD (i := 6) (d := some 65) (v := .bool false) rfl rfl (by kernel_rfl) (by kernel_rfl) (by kernel_rfl) (fun _ _ _ h => h) (Or.inl ⟨by rfl, fun _ _ => by go_simp⟩) hH ?_
            simp only [Act.put, List.setIfInBounds_toArray, List.set_cons_zero, List.set_cons_succ]
            refine wpAnyH_takeD (i := 7) (d := some 66) (v := .bool false) rfl rfl (by kernel_rfl) (by kernel_rfl) (by kernel_rfl) (fun _ _ _ h => h) (Or.inl ⟨by rfl, fun _ _ => by go_simp⟩) hH ?_
            simp only [Act.put, List.setIfInBounds_toArray, List.set_cons_zero, List.set_cons_succ]
            refine wpAnyH_takeD (i := 8) (d := some 67) (v := .bool false) rfl rfl (by kernel_rfl) (by kernel_rfl) (by kernel_rfl) (fun _ _ _ h => h) (Or.inl ⟨by rfl, fun _ _ => by go_simp⟩) hH ?_
            simp only [Act.put, List.setIfInBounds_toArray, List.set_cons_zero, List.set_cons_succ]
            refine wpAnyH_takeD (i := 9) (d := some 68) (v := undef) rfl rfl (by kernel_rfl) (by kernel_rfl) (by kernel_rfl) (fun _ _ _ h => h) (Or.inr ⟨by rfl, rfl⟩) hH ?_
            simp only [Act.put, List.setIfInBounds_toArray, List.set_cons_zero, List.set_cons_succ]
            refine wpAnyH_takeD (i := 10) (d := some 69) (v := undef) rfl rfl (by kernel_rfl) (by kernel_rfl) (by kernel_rfl) (fun _ _ _ h => h) (Or.inr ⟨by rfl, rfl⟩) hH ?_
            simp only [Act.put, List.setIfInBounds_toArray, List.set_cons_zero, List.set_cons_succ]
            refine wpAnyH_takeD (i := 11) (d := some 70) (v := undef) rfl rfl (by kernel_rfl) (by kernel_rfl) (by kernel_rfl) (fun _ _ _ h => h) (Or.inr ⟨by rfl, rfl⟩) hH ?_
            simp only [Act.put, List.setIfInBounds_toArray, List.set_cons_zero, List.set_cons_succ]
            refine wpAnyH_takeD (i := 12) (d := some 71) (v := undef) rfl rfl (by kernel_rfl) (by kernel_rfl) (by kernel_rfl) (fun _ _ _ h => h) (Or.inr ⟨by rfl, rfl⟩) hH ?_
            simp only [Act.put, List.setIfInBounds_toArray, List.set_cons_zero, List.set_cons_succ]
            refine wpAnyH_takeD (i := 13) (d := some 72) (v := undef) rfl rfl (by kernel_rfl) (by kernel_rfl) (by kernel_rfl) (fun _ _ _ h => h) (Or.inr ⟨by rfl, rfl⟩) hH ?_
            simp only [Act.put, List.setIfInBounds_toArray, List.set_cons_zero, List.set_cons_succ]
            refine wpAnyH_takeD (i := 14) (d := some 73) (v := .bool false) rfl rfl (by kernel_rfl) (by kernel_rfl) (by kernel_rfl) (fun _ _ _ h => h) (Or.inl ⟨by rfl, fun _ _ => by go_simp⟩) hH ?_
            simp only [Act.put, List.setIfInBounds_toArray, List.set_cons_zero, List.set_cons_succ]
            refine wpAnyH_takeD (i := 15) (d := some 74) (v := .bool false) rfl rfl (by kernel_rfl) (by kernel_rfl) (by kernel_rfl) (fun _ _ _ h => h) (Or.inl ⟨by rfl, fun _ _ => by go_simp⟩) hH ?_
            simp only [Act.put, List.setIfInBounds_toArray, List.set_cons_zero, List.set_cons_succ]
            refine wpAnyH_takeD (i := 16) (d := some 75) (v := undef) rfl rfl (by kernel_rfl) (by kernel_rfl) (by kernel_rfl) (fun _ _ _ h => h) (Or.inr ⟨by rfl, rfl⟩) hH ?_
            simp only [Act.put, List.setIfInBounds_toArray, List.set_cons_zero, List.set_cons_succ]
            refine wpAnyH_takeD (i := 17) (d := some 76) (v := undef) rfl rfl (by kernel_rfl) (by kernel_rfl) (by kernel_rfl) (fun _ _ _ h => h) (Or.inr ⟨by rfl, rfl⟩) hH ?_
            simp only [Act.put, List.setIfInBounds_toArray, List.set_cons_zero, List.set_cons_succ]
            refine wpAnyH_takeD (i := 18) (d := some 77) (v := undef) rfl rfl (by kernel_rfl) (by kernel_rfl) (by kernel_rfl) (fun _ _ _ h => h) (Or.inr ⟨by rfl, rfl⟩) hH ?_
            simp only [Act.put, List.setIfInBounds_toArray, List.set_cons_zero, List.set_cons_succ]
            refine wpAnyH_takeD (i := 19) (d := some 78) (v := undef) rfl rfl (by kernel_rfl) (by kernel_rfl) (by kernel_rfl) (fun _ _ _ h => h) (Or.inr ⟨by rfl, rfl⟩) hH ?_
            simp only [Act.put, List.setIfInBounds_toArray, List.set_cons_zero, List.set_cons_succ]
            refine wpAnyH_takeD (i := 20) (d := some 79) (v := undef) rfl rfl (by kernel_rfl) (by kernel_rfl) (by kernel_rfl) (fun _ _ _ h => h) (Or.inr ⟨by rfl, rfl⟩) hH ?_
            simp only [Act.put, List.setIfInBounds_toArray, List.set_cons_zero, List.set_cons_succ]
            refine wpAnyH_takeD (i := 21) (d := some 80) (v := undef) rfl rfl (by kernel_rfl) (by kernel_rfl) (by kernel_rfl) (fun _ _ _ h => h) (Or.inr ⟨by rfl, rfl⟩) hH ?_
            simp only [Act.put, List.setIfInBounds_toArray, List.set_cons_zero, List.set_cons_succ]
            refine wpAnyH_takeD (i := 22) (d := some 81) (v := .bool false) rfl rfl (by kernel_rfl) (by kernel_rfl) (by kernel_rfl) (fun _ _ _ h => h) (Or.inl ⟨by rfl, fun _ _ => by go_simp⟩) hH ?_
            simp only [Act.put, List.setIfInBounds_toArray, List.set_cons_zero, List.set_cons_succ]
            refine wpAnyH_done (by kernel_rfl) ?_ _
            obtain ⟨V, hV⟩ : ∃ V, V = Z.drew := ⟨_, rfl⟩
            have hbV : Below Z.heap.size Z V := by rw [hV]; exact Below.drew (Below.refl _ _)
            have HLV : Hid (OBox (fun b => b ≠ B ∧ b ≠ T) B V gr' e) := HLZ.out.later hbV
            have HQV : Hid (OBox (fun b => b ≠ B ∧ b ≠ T) Q V gr c) := HQZ.out.later hbV
            have HTV : Hid (V.heap[T]? = some (.cells (bools 6 t) 69 (0, 0))) := by unfold Hid; rw [hbV.block _ hTZ]; exact HTZ.out
            have HIV : Hid (IsI (fun b => b ≠ B ∧ b ≠ T) V u8 d) := HIZ.out.later (SameOn.of_size hbV)
            have HBV : Hid (Below w1.heap.size w1 V) := HBZ.out.trans (hbV.mono (by have := HBZ.out.size; omega))
            rw [← hV]
            clear hV hbV
            go_upto_region 17 with fail
            have v12 := HQV.out.box.fixed
            have v5 := HLV.out.box.fixed
            rw [Htf.out] at v12
            rw [Hef.out] at v5
            obtain ⟨ap, cp, v97, hs97, _⟩ := HQV.out.box.deps
            obtain ⟨aq, cq, v99, hs99, _⟩ := HLV.out.box.deps
            rw [Hed.out] at v99 hs99
            have hx0 : lx = 0 := Hlx.out
            subst hx0
            go_wp2_with fail
            refine (keep_same_any ap cp c.deps aq cq V hs97.2.1 hs97.1 hs99.1).mono ?_
            rintro e9 w9 ⟨rfl, hb9⟩
            have HL9 : Hid (OBox (fun b => b ≠ B ∧ b ≠ T) B w9 gr' e) := HLV.out.later hb9
            have HT9 : Hid (w9.heap[T]? = some (.cells (bools 6 t) 69 (0, 0))) := by unfold Hid; rw [hb9.block _ (Array.getElem?_eq_some_iff.1 HTV.out).1]; exact HTV.out
            have HI9 : Hid (IsI (fun b => b ≠ B ∧ b ≠ T) w9 u8 d) := HIV.out.later (SameOn.of_size hb9)
            have HB9 : Hid (Below w1.heap.size w1 w9) := HBV.out.trans (hb9.mono (by have := HBV.out.size; omega))
            clear hb9
            go_wp2
            go_roundw
            case rel => exact ⟨k + 1, e, gr', t, d, by omega, by go_num, HL9, HT9, HI9, HFI2, HB9⟩
            case measure => simp [intOf]; omega
          · have HFI2 : Hid (FixInv ops e t d) := by
              have h1 := HStep.out.1
              rw [if_neg (fun h => tk h.1), if_neg (fun h => tk h.1)] at h1
              unfold Hid
              rw [HHE.out]
              exact h1
            have dk : (f.kind == 2) = false := by simpa using tk
            clear tk
            go_wp2
            refine wp_region_held_drew (S := fun w' : World => w'.cell? ⟨F, 0, none⟩ = some (.int .i64 f.kind) ∧ w'.cell? ⟨F, 1, none⟩ = some (.int .i64 m) ∧ w'.cell? ⟨Q, 1, none⟩ = some (.bool (c.fixed)) ∧ w'.cell? ⟨T, m, none⟩ = some (.bool (t m)) ∧ w'.cell? ⟨w.heap.size, 1, none⟩ = some (.slice a ops.length cap)) (by kernel_rfl) ⟨s0, s1, s2, s3, s4⟩ ?_
            intro hH
            refine wpAnyH_takeD (i := 0) (d := some 59) (v := .pointer (some ⟨F, 0, none⟩)) rfl rfl (by kernel_rfl) (by kernel_rfl) (by kernel_rfl) (fun _ _ _ h => h) (Or.inl ⟨by rfl, fun _ _ => by go_simp⟩) hH ?_
            simp only [Act.put, List.setIfInBounds_toArray, List.set_cons_zero, List.set_cons_succ]
            refine wpAnyH_takeD (i := 1) (d := some 60) (v := .int .i64 f.kind) rfl rfl (by kernel_rfl) (by kernel_rfl) (by kernel_rfl) (fun _ _ _ h => h) (Or.inl ⟨by rfl, fun _ hS => by obtain ⟨hS1, hS2, hS3, hS4, hS5⟩ := hS; go_simp⟩) hH ?_
            simp only [Act.put, List.setIfInBounds_toArray, List.set_cons_zero, List.set_cons_succ]
            refine wpAnyH_takeD (i := 2) (d := some 61) (v := .bool false) rfl rfl (by kernel_rfl) (by kernel_rfl) (by kernel_rfl) (fun _ _ _ h => h) (Or.inl ⟨by rfl, fun _ _ => by go_simp⟩) hH ?_
            simp only [Act.put, List.setIfInBounds_toArray, List.set_cons_zero, List.set_cons_succ]
            refine wpAnyH_takeD (i := 3) (d := some 62) (v := .bool false) rfl rfl (by kernel_rfl) (by kernel_rfl) (by kernel_rfl) (fun _ _ _ h => h) (Or.inl ⟨by rfl, fun _ _ => by go_simp⟩) hH ?_
            simp only [Act.put, List.setIfInBounds_toArray, List.set_cons_zero, List.set_cons_succ]
            refine wpAnyH_takeD (i := 4) (d := some 63) (v := undef) rfl rfl (by kernel_rfl) (by kernel_rfl) (by kernel_rfl) (fun _ _ _ h => h) (Or.inr ⟨by rfl, rfl⟩) hH ?_
            simp only [Act.put, List.setIfInBounds_toArray, List.set_cons_zero, List.set_cons_succ]
            refine wpAnyH_takeD (i := 5) (d := some 64) (v := undef) rfl rfl (by kernel_rfl) (by kernel_rfl) (by kernel_rfl) (fun _ _ _ h => h) (Or.inr ⟨by rfl, rfl⟩) hH ?_
            simp only [Act.put, List.setIfInBounds_toArray, List.set_cons_zero, List.set_cons_succ]
            refine wpAnyH_takeD (i := 6) (d := some 65) (v := undef) rfl rfl (by kernel_rfl) (by kernel_rfl) (by kernel_rfl) (fun _ _ _ h => h) (Or.inr ⟨by rfl, rfl⟩) hH ?_
            simp only [Act.put, List.setIfInBounds_toArray, List.set_cons_zero, List.set_cons_succ]
            refine wpAnyH_takeD (i := 7) (d := some 66) (v := .bool false) rfl rfl (by kernel_rfl) (by kernel_rfl) (by kernel_rfl) (fun _ _ _ h => h) (Or.inl ⟨by rfl, fun _ _ => by go_simp⟩) hH ?_
            simp only [Act.put, List.setIfInBounds_toArray, List.set_cons_zero, List.set_cons_succ]
            refine wpAnyH_takeD (i := 8) (d := some 67) (v := .bool false) rfl rfl (by kernel_rfl) (by kernel_rfl) (by kernel_rfl) (fun _ _ _ h => h) (Or.inl ⟨by rfl, fun _ _ => by go_simp⟩) hH ?_
            simp only [Act.put, List.setIfInBounds_toArray, List.set_cons_zero, List.set_cons_succ]
            refine wpAnyH_takeD (i := 9) (d := some 68) (v := undef) rfl rfl (by kernel_rfl) (by kernel_rfl) (by kernel_rfl) (fun _ _ _ h => h) (Or.inr ⟨by rfl, rfl⟩) hH ?_
            simp only [Act.put, List.setIfInBounds_toArray, List.set_cons_zero, List.set_cons_succ]
            refine wpAnyH_takeD (i := 10) (d := some 69) (v := undef) rfl rfl (by kernel_rfl) (by kernel_rfl) (by kernel_rfl) (fun _ _ _ h => h) (Or.inr ⟨by rfl, rfl⟩) hH ?_
            simp only [Act.put, List.setIfInBounds_toArray, List.set_cons_zero, List.set_cons_succ]
            refine wpAnyH_takeD (i := 11) (d := some 70) (v := undef) rfl rfl (by kernel_rfl) (by kernel_rfl) (by kernel_rfl) (fun _ _ _ h => h) (Or.inr ⟨by rfl, rfl⟩) hH ?_
            simp only [Act.put, List.setIfInBounds_toArray, List.set_cons_zero, List.set_cons_succ]
            refine wpAnyH_takeD (i := 12) (d := some 71) (v := undef) rfl rfl (by kernel_rfl) (by kernel_rfl) (by kernel_rfl) (fun _ _ _ h => h) (Or.inr ⟨by rfl, rfl⟩) hH ?_
            simp only [Act.put, List.setIfInBounds_toArray, List.set_cons_zero, List.set_cons_succ]
            refine wpAnyH_takeD (i := 13) (d := some 72) (v := undef) rfl rfl (by kernel_rfl) (by kernel_rfl) (by kernel_rfl) (fun _ _ _ h => h) (Or.inr ⟨by rfl, rfl⟩) hH ?_
            simp only [Act.put, List.setIfInBounds_toArray, List.set_cons_zero, List.set_cons_succ]
            refine wpAnyH_takeD (i := 14) (d := some 73) (v := .bool false) rfl rfl (by kernel_rfl) (by kernel_rfl) (by kernel_rfl) (fun _ _ _ h => h) (Or.inl ⟨by rfl, fun _ _ => by go_simp⟩) hH ?_
            simp only [Act.put, List.setIfInBounds_toArray, List.set_cons_zero, List.set_cons_succ]
            refine wpAnyH_takeD (i := 15) (d := some 74) (v := .bool false) rfl rfl (by kernel_rfl) (by kernel_rfl) (by kernel_rfl) (fun _ _ _ h => h) (Or.inl ⟨by rfl, fun _ _ => by go_simp⟩) hH ?_
            simp only [Act.put, List.setIfInBounds_toArray, List.set_cons_zero, List.set_cons_succ]
            refine wpAnyH_takeD (i := 16) (d := some 75) (v := undef) rfl rfl (by kernel_rfl) (by kernel_rfl) (by kernel_rfl) (fun _ _ _ h => h) (Or.inr ⟨by rfl, rfl⟩) hH ?_
            simp only [Act.put, List.setIfInBounds_toArray, List.set_cons_zero, List.set_cons_succ]
            refine wpAnyH_takeD (i := 17) (d := some 76) (v := undef) rfl rfl (by kernel_rfl) (by kernel_rfl) (by kernel_rfl) (fun _ _ _ h => h) (Or.inr ⟨by rfl, rfl⟩) hH ?_
            simp only [Act.put, List.setIfInBounds_toArray, List.set_cons_zero, List.set_cons_succ]
            refine wpAnyH_takeD (i := 18) (d := some 77) (v := undef) rfl rfl (by kernel_rfl) (by kernel_rfl) (by kernel_rfl) (fun _ _ _ h => h) (Or.inr ⟨by rfl, rfl⟩) hH ?_
            simp only [Act.put, List.setIfInBounds_toArray, List.set_cons_zero, List.set_cons_succ]
            refine wpAnyH_takeD (i := 19) (d := some 78) (v := undef) rfl rfl (by kernel_rfl) (by kernel_rfl) (by kernel_rfl) (fun _ _ _ h => h) (Or.inr ⟨by rfl, rfl⟩) hH ?_
            simp only [Act.put, List.setIfInBounds_toArray, List.set_cons_zero, List.set_cons_succ]
            refine wpAnyH_takeD (i := 20) (d := some 79) (v := undef) rfl rfl (by kernel_rfl) (by kernel_rfl) (by kernel_rfl) (fun _ _ _ h => h) (Or.inr ⟨by rfl, rfl⟩) hH ?_
            simp only [Act.put, List.setIfInBounds_toArray, List.set_cons_zero, List.set_cons_succ]
            refine wpAnyH_takeD (i := 21) (d := some 80) (v := undef) rfl rfl (by kernel_rfl) (by kernel_rfl) (by kernel_rfl) (fun _ _ _ h => h) (Or.inr ⟨by rfl, rfl⟩) hH ?_
            simp only [Act.put, List.setIfInBounds_toArray, List.set_cons_zero, List.set_cons_succ]
            refine wpAnyH_takeD (i := 22) (d := some 81) (v := .bool false) rfl rfl (by kernel_rfl) (by kernel_rfl) (by kernel_rfl) (fun _ _ _ h => h) (Or.inl ⟨by rfl, fun _ _ => by go_simp⟩) hH ?_
            simp only [Act.put, List.setIfInBounds_toArray, List.set_cons_zero, List.set_cons_succ]
            refine wpAnyH_done (by kernel_rfl) ?_ _
            obtain ⟨V, hV⟩ : ∃ V, V = Z.drew := ⟨_, rfl⟩
            have hbV : Below Z.heap.size Z V := by rw [hV]; exact Below.drew (Below.refl _ _)
            have HLV : Hid (OBox (fun b => b ≠ B ∧ b ≠ T) B V gr' e) := HLZ.out.later hbV
            have HQV : Hid (OBox (fun b => b ≠ B ∧ b ≠ T) Q V gr c) := HQZ.out.later hbV
            have HTV : Hid (V.heap[T]? = some (.cells (bools 6 t) 69 (0, 0))) := by unfold Hid; rw [hbV.block _ hTZ]; exact HTZ.out
            have HIV : Hid (IsI (fun b => b ≠ B ∧ b ≠ T) V u8 d) := HIZ.out.later (SameOn.of_size hbV)
            have HBV : Hid (Below w1.heap.size w1 V) := HBZ.out.trans (hbV.mono (by have := HBZ.out.size; omega))
            rw [← hV]
            clear hV hbV
            go_upto_region 17 with fail
            have v12 := HQV.out.box.fixed
            have v5 := HLV.out.box.fixed
            rw [Htf.out] at v12
            rw [Hef.out] at v5
            obtain ⟨ap, cp, v97, hs97, _⟩ := HQV.out.box.deps
            obtain ⟨aq, cq, v99, hs99, _⟩ := HLV.out.box.deps
            rw [Hed.out] at v99 hs99
            have hx0 : lx = 0 := Hlx.out
            subst hx0
            go_wp2_with fail
            refine (keep_same_any ap cp c.deps aq cq V hs97.2.1 hs97.1 hs99.1).mono ?_
            rintro e9 w9 ⟨rfl, hb9⟩
            have HL9 : Hid (OBox (fun b => b ≠ B ∧ b ≠ T) B w9 gr' e) := HLV.out.later hb9
            have HT9 : Hid (w9.heap[T]? = some (.cells (bools 6 t) 69 (0, 0))) := by unfold Hid; rw [hb9.block _ (Array.getElem?_eq_some_iff.1 HTV.out).1]; exact HTV.out
            have HI9 : Hid (IsI (fun b => b ≠ B ∧ b ≠ T) w9 u8 d) := HIV.out.later (SameOn.of_size hb9)
            have HB9 : Hid (Below w1.heap.size w1 w9) := HBV.out.trans (hb9.mono (by have := HBV.out.size; omega))
            clear hb9
            go_wp2
            go_roundw
            case rel => exact ⟨k + 1, e, gr', t, d, by omega, by go_num, HL9, HT9, HI9, HFI2, HB9⟩
            case measure => simp [intOf]; omega
      · have h40' : ¬ (k : Int) < 40 := by omega
        have hlt' : (k : Int) < (fs.length : Int) := by omega
        clear hlt h40
        obtain ⟨V, hV⟩ : ∃ V, V = wr := ⟨_, rfl⟩
        obtain ⟨dv, hdv⟩ : ∃ dv, dv = u8 := ⟨_, rfl⟩
        have HLV : Hid (OBox (fun b => b ≠ B ∧ b ≠ T) B V gr c) := by unfold Hid; rw [hV]; exact HL.out
        have HTV : Hid (V.heap[T]? = some (.cells (bools 6 t) 69 (0, 0))) := by unfold Hid; rw [hV]; exact HT.out
        have HIV : Hid (IsI (fun b => b ≠ B ∧ b ≠ T) V dv d) := by unfold Hid; rw [hV, hdv]; exact HIw.out
        have HBV : Hid (Below w1.heap.size w1 V) := by unfold Hid; rw [hV]; exact HBw.out
        rw [← hV, ← hdv]
        clear hV hdv HL HT HIw HBw
        go_wp2_with fail
        refine wp_loop_rounds 3 ?_; rw [rounds_succ]
        go_wp2_with fail
        go_loopw [17, 121] (fun nn kk wr3 => ∃ (j : Nat) (x : Int), j ≤ 3 ∧ kk = .int .i64 j ∧ nn = .int .i64 x ∧ Hid (((cntS t 0 j : Nat) : Int) = x) ∧ wr3 = V) (fun _ kk _ => 3 - (intOf kk).toNat)
        case atStart => exact ⟨0, 0, by omega, rfl, rfl, rfl, rfl⟩
        case round =>
          obtain ⟨j, x, hj, rfl, rfl, Hx, rfl⟩ := hrel
          have bx : 0 ≤ x ∧ x ≤ 3 := by have h1 := Hx.out; have h2 := cntS_le t 0 j; omega
          by_cases hj3 : j < 3
          · have hjj : (j : Int) < 3 := by omega
            have ej : wr.cell? ⟨T, j, none⟩ = some (.bool (t (j))) := by rw [cell_of_row _ _ _ _ _ _ HTV.out, bools_get _ (show j < 6 by omega)]
            have w0 : IntKind.i64.wrap (x + 1) = x + 1 := wraps_i64 _ (by omega) (by omega)
            have b3 : (0 : Int) ≤ (j : Int) ∧ (j : Int) < 6 := by omega
            cases tj : t (j)
            · rw [tj] at ej
              have HC : Hid (cntS t 0 (j + 1) = cntS t 0 j) := by unfold Hid; rw [cntS_succ]; simp [tj]
              go_wp2
              go_roundw
              case rel => exact ⟨j + 1, x, by omega, by go_num, rfl, by rw [HC.out]; exact Hx, trivial⟩
              case measure => simp [intOf]; omega
            · rw [tj] at ej
              have HC : Hid (cntS t 0 (j + 1) = cntS t 0 j + 1) := by unfold Hid; rw [cntS_succ]; simp [tj]
              go_wp2
              go_roundw
              case rel => exact ⟨j + 1, x + 1, by omega, by go_num, rfl, by rw [HC.out]; unfold Hid; have h1 := Hx.out; omega, trivial⟩
              case measure => simp [intOf]; omega
          · have hje : j = 3 := by omega
            subst hje
            have HX : Hid (c.fixed = true → touchesL ops 0 = true → ¬ x < 2) := fun h1 h2 => by
              have h3 := most_shard0 (HFI.out.most h1) h2
              have h4 := Hx.out
              omega
            clear Hx hj hj3 bx
            have v1 := HLV.out.box.fixed
            cases tf : c.fixed
            · rw [tf] at v1
              go_wp2_with fail
              rw [rounds_succ]
              obtain ⟨V, hV⟩ : ∃ V, V = wr := ⟨_, rfl⟩
              have HLV : Hid (OBox (fun b => b ≠ B ∧ b ≠ T) B V gr c) := by unfold Hid; rw [hV]; exact HLV.out
              have HTV : Hid (V.heap[T]? = some (.cells (bools 6 t) 69 (0, 0))) := by unfold Hid; rw [hV]; exact HTV.out
              have HIV : Hid (IsI (fun b => b ≠ B ∧ b ≠ T) V dv d) := by unfold Hid; rw [hV]; exact HIV.out
              have HBV : Hid (Below w1.heap.size w1 V) := by unfold Hid; rw [hV]; exact HBV.out
              rw [← hV]
              clear hV
              go_wp2_with fail
              go_loopw [17, 121] (fun nn kk wr3 => ∃ (j : Nat) (x : Int), j ≤ 3 ∧ kk = .int .i64 j ∧ nn = .int .i64 x ∧ Hid (((cntS t 1 j : Nat) : Int) = x) ∧ wr3 = V) (fun _ kk _ => 3 - (intOf kk).toNat)
              case atStart => exact ⟨0, 0, by omega, rfl, rfl, rfl, rfl⟩
              case round =>
                obtain ⟨j, x, hj, rfl, rfl, Hx, rfl⟩ := hrel
                have bx : 0 ≤ x ∧ x ≤ 3 := by have h1 := Hx.out; have h2 := cntS_le t 1 j; omega
                by_cases hj3 : j < 3
                · have hjj : (j : Int) < 3 := by omega
                  have ej : wr.cell? ⟨T, 3 + j, none⟩ = some (.bool (t (3 + j))) := by rw [cell_of_row _ _ _ _ _ _ HTV.out, bools_get _ (show 3 + j < 6 by omega)]
                  have w0 : IntKind.i64.wrap (x + 1) = x + 1 := wraps_i64 _ (by omega) (by omega)
                  have w3 : IntKind.i64.wrap (3 + (j : Int)) = 3 + (j : Int) := wraps_i64 _ (by omega) (by omega)
                  have b3 : (0 : Int) ≤ 3 + (j : Int) ∧ 3 + (j : Int) < 6 := by omega
                  have n3 : (3 + (j : Int)).toNat = 3 + j := by omega
                  cases tj : t (3 + j)
                  · rw [tj] at ej
                    have HC : Hid (cntS t 1 (j + 1) = cntS t 1 j) := by unfold Hid; rw [cntS_succ]; simp [tj]
                    go_wp2
                    go_roundw
                    case rel => exact ⟨j + 1, x, by omega, by go_num, rfl, by rw [HC.out]; exact Hx, trivial⟩
                    case measure => simp [intOf]; omega
                  · rw [tj] at ej
                    have HC : Hid (cntS t 1 (j + 1) = cntS t 1 j + 1) := by unfold Hid; rw [cntS_succ]; simp [tj]
                    go_wp2
                    go_roundw
                    case rel => exact ⟨j + 1, x + 1, by omega, by go_num, rfl, by rw [HC.out]; unfold Hid; have h1 := Hx.out; omega, trivial⟩
                    case measure => simp [intOf]; omega
                · have hje : j = 3 := by omega
                  subst hje
                  have HX : Hid (c.fixed = true → touchesL ops 1 = true → ¬ x < 2) := fun h1 h2 => by
                    have h3 := most_shard1 (HFI.out.most h1) h2
                    have h4 := Hx.out
                    omega
                  clear Hx hj hj3 bx
                  have v1 := HLV.out.box.fixed
                  cases tf : c.fixed
                  · rw [tf] at v1
                    go_wp2_with fail
                    rw [rounds_succ]
                    obtain ⟨ap, cp, v97, hs97, _⟩ := HLV.out.box.deps
                    rw [HFI.out.deps] at v97 hs97
                    obtain ⟨a8, d8, e8, hs8⟩ := HIV.out.sl
                    subst e8
                    go_wp2_with fail
                    refine (keep_same_any ap cp d a8 d8 wr hs97.2.1 hs97.1 hs8.1).mono ?_
                    rintro e9 w9 ⟨rfl, hb9⟩
                    have HB9 : Hid (Below w.heap.size w w9) := (HBw1.out.trans (HBV.out.mono (by omega))).trans (hb9.mono (by have := HBV.out.size; omega))
                    clear hb9
                    go_wp2
                    go_ret
                    exact ⟨rfl, HB9.out⟩
                  · rw [tf] at v1
                    have v2 : wr.cell? ⟨w.heap.size, 1, none⟩ = some (.slice a ops.length cap) := by rw [HBV.out.cell (p := ⟨w.heap.size, 1, none⟩) (show w.heap.size < w1.heap.size by omega)]; exact kn1
                    go_wp2_with fail
                    refine (touches_any a cap ops 1 wr HZo.out.2.1 (HZo.out.later (HBw1.out.trans (HBV.out.mono (by omega)))).1).mono ?_
                    rintro e5 w5 ⟨rfl, hb5⟩
                    have HL5 : Hid (OBox (fun b => b ≠ B ∧ b ≠ T) B w5 gr c) := HLV.out.later hb5
                    have HT5 : Hid (w5.heap[T]? = some (.cells (bools 6 t) 69 (0, 0))) := by unfold Hid; rw [hb5.block _ (Array.getElem?_eq_some_iff.1 HTV.out).1]; exact HTV.out
                    have HI5 : Hid (IsI (fun b => b ≠ B ∧ b ≠ T) w5 dv d) := HIV.out.later (SameOn.of_size hb5)
                    have HB5 : Hid (Below w1.heap.size w1 w5) := HBV.out.trans (hb5.mono (by have := HBV.out.size; omega))
                    clear hb5 v2
                    cases tq : touchesL ops 1
                    · go_wp2_with fail
                      rw [rounds_succ]
                      obtain ⟨ap, cp, v97, hs97, _⟩ := HL5.out.box.deps
                      rw [HFI.out.deps] at v97 hs97
                      obtain ⟨a8, d8, e8, hs8⟩ := HI5.out.sl
                      subst e8
                      go_wp2_with fail
                      refine (keep_same_any ap cp d a8 d8 w5 hs97.2.1 hs97.1 hs8.1).mono ?_
                      rintro e9 w9 ⟨rfl, hb9⟩
                      have HB9 : Hid (Below w.heap.size w w9) := (HBw1.out.trans (HB5.out.mono (by omega))).trans (hb9.mono (by have := HB5.out.size; omega))
                      clear hb9
                      go_wp2
                      go_ret
                      exact ⟨rfl, HB9.out⟩
                    · have hx2 : ¬ x < 2 := by have h9 := HX.out tf tq; omega
                      go_wp2_with fail
                      rw [rounds_succ]
                      obtain ⟨ap, cp, v97, hs97, _⟩ := HL5.out.box.deps
                      rw [HFI.out.deps] at v97 hs97
                      obtain ⟨a8, d8, e8, hs8⟩ := HI5.out.sl
                      subst e8
                      go_wp2_with fail
                      refine (keep_same_any ap cp d a8 d8 w5 hs97.2.1 hs97.1 hs8.1).mono ?_
                      rintro e9 w9 ⟨rfl, hb9⟩
                      have HB9 : Hid (Below w.heap.size w w9) := (HBw1.out.trans (HB5.out.mono (by omega))).trans (hb9.mono (by have := HB5.out.size; omega))
                      clear hb9
                      go_wp2
                      go_ret
                      exact ⟨rfl, HB9.out⟩
            · rw [tf] at v1
              have v2 : wr.cell? ⟨w.heap.size, 1, none⟩ = some (.slice a ops.length cap) := by rw [HBV.out.cell (p := ⟨w.heap.size, 1, none⟩) (show w.heap.size < w1.heap.size by omega)]; exact kn1
              go_wp2_with fail
              refine (touches_any a cap ops 0 wr HZo.out.2.1 (HZo.out.later (HBw1.out.trans (HBV.out.mono (by omega)))).1).mono ?_
              rintro e5 w5 ⟨rfl, hb5⟩
              have HL5 : Hid (OBox (fun b => b ≠ B ∧ b ≠ T) B w5 gr c) := HLV.out.later hb5
              have HT5 : Hid (w5.heap[T]? = some (.cells (bools 6 t) 69 (0, 0))) := by unfold Hid; rw [hb5.block _ (Array.getElem?_eq_some_iff.1 HTV.out).1]; exact HTV.out
              have HI5 : Hid (IsI (fun b => b ≠ B ∧ b ≠ T) w5 dv d) := HIV.out.later (SameOn.of_size hb5)
              have HB5 : Hid (Below w1.heap.size w1 w5) := HBV.out.trans (hb5.mono (by have := HBV.out.size; omega))
              clear hb5 v2
              cases tq : touchesL ops 0
              · go_wp2_with fail
                rw [rounds_succ]
                obtain ⟨V, hV⟩ : ∃ V, V = w5 := ⟨_, rfl⟩
                have HLV : Hid (OBox (fun b => b ≠ B ∧ b ≠ T) B V gr c) := by unfold Hid; rw [hV]; exact HL5.out
                have HTV : Hid (V.heap[T]? = some (.cells (bools 6 t) 69 (0, 0))) := by unfold Hid; rw [hV]; exact HT5.out
                have HIV : Hid (IsI (fun b => b ≠ B ∧ b ≠ T) V dv d) := by unfold Hid; rw [hV]; exact HI5.out
                have HBV : Hid (Below w1.heap.size w1 V) := by unfold Hid; rw [hV]; exact HB5.out
                rw [← hV]
                clear hV
                go_wp2_with fail
                go_loopw [17, 121] (fun nn kk wr3 => ∃ (j : Nat) (x : Int), j ≤ 3 ∧ kk = .int .i64 j ∧ nn = .int .i64 x ∧ Hid (((cntS t 1 j : Nat) : Int) = x) ∧ wr3 = V) (fun _ kk _ => 3 - (intOf kk).toNat)
                case atStart => exact ⟨0, 0, by omega, rfl, rfl, rfl, rfl⟩
                case round =>
                  obtain ⟨j, x, hj, rfl, rfl, Hx, rfl⟩ := hrel
                  have bx : 0 ≤ x ∧ x ≤ 3 := by have h1 := Hx.out; have h2 := cntS_le t 1 j; omega
                  by_cases hj3 : j < 3
                  · have hjj : (j : Int) < 3 := by omega
                    have ej : wr.cell? ⟨T, 3 + j, none⟩ = some (.bool (t (3 + j))) := by rw [cell_of_row _ _ _ _ _ _ HTV.out, bools_get _ (show 3 + j < 6 by omega)]
                    have w0 : IntKind.i64.wrap (x + 1) = x + 1 := wraps_i64 _ (by omega) (by omega)
                    have w3 : IntKind.i64.wrap (3 + (j : Int)) = 3 + (j : Int) := wraps_i64 _ (by omega) (by omega)
                    have b3 : (0 : Int) ≤ 3 + (j : Int) ∧ 3 + (j : Int) < 6 := by omega
                    have n3 : (3 + (j : Int)).toNat = 3 + j := by omega
                    cases tj : t (3 + j)
                    · rw [tj] at ej
                      have HC : Hid (cntS t 1 (j + 1) = cntS t 1 j) := by unfold Hid; rw [cntS_succ]; simp [tj]
                      go_wp2
                      go_roundw
                      case rel => exact ⟨j + 1, x, by omega, by go_num, rfl, by rw [HC.out]; exact Hx, trivial⟩
                      case measure => simp [intOf]; omega
                    · rw [tj] at ej
                      have HC : Hid (cntS t 1 (j + 1) = cntS t 1 j + 1) := by unfold Hid; rw [cntS_succ]; simp [tj]
                      go_wp2
                      go_roundw
                      case rel => exact ⟨j + 1, x + 1, by omega, by go_num, rfl, by rw [HC.out]; unfold Hid; have h1 := Hx.out; omega, trivial⟩
                      case measure => simp [intOf]; omega
                  · have hje : j = 3 := by omega
                    subst hje
                    have HX : Hid (c.fixed = true → touchesL ops 1 = true → ¬ x < 2) := fun h1 h2 => by
                      have h3 := most_shard1 (HFI.out.most h1) h2
                      have h4 := Hx.out
                      omega
                    clear Hx hj hj3 bx
                    have v1 := HLV.out.box.fixed
                    cases tf : c.fixed
                    · rw [tf] at v1
                      go_wp2_with fail
                      rw [rounds_succ]
                      obtain ⟨ap, cp, v97, hs97, _⟩ := HLV.out.box.deps
                      rw [HFI.out.deps] at v97 hs97
                      obtain ⟨a8, d8, e8, hs8⟩ := HIV.out.sl
                      subst e8
                      go_wp2_with fail
                      refine (keep_same_any ap cp d a8 d8 wr hs97.2.1 hs97.1 hs8.1).mono ?_
                      rintro e9 w9 ⟨rfl, hb9⟩
                      have HB9 : Hid (Below w.heap.size w w9) := (HBw1.out.trans (HBV.out.mono (by omega))).trans (hb9.mono (by have := HBV.out.size; omega))
                      clear hb9
                      go_wp2
                      go_ret
                      exact ⟨rfl, HB9.out⟩
                    · rw [tf] at v1
                      have v2 : wr.cell? ⟨w.heap.size, 1, none⟩ = some (.slice a ops.length cap) := by rw [HBV.out.cell (p := ⟨w.heap.size, 1, none⟩) (show w.heap.size < w1.heap.size by omega)]; exact kn1
                      go_wp2_with fail
                      refine (touches_any a cap ops 1 wr HZo.out.2.1 (HZo.out.later (HBw1.out.trans (HBV.out.mono (by omega)))).1).mono ?_
                      rintro e5 w5 ⟨rfl, hb5⟩
                      have HL5 : Hid (OBox (fun b => b ≠ B ∧ b ≠ T) B w5 gr c) := HLV.out.later hb5
                      have HT5 : Hid (w5.heap[T]? = some (.cells (bools 6 t) 69 (0, 0))) := by unfold Hid; rw [hb5.block _ (Array.getElem?_eq_some_iff.1 HTV.out).1]; exact HTV.out
                      have HI5 : Hid (IsI (fun b => b ≠ B ∧ b ≠ T) w5 dv d) := HIV.out.later (SameOn.of_size hb5)
                      have HB5 : Hid (Below w1.heap.size w1 w5) := HBV.out.trans (hb5.mono (by have := HBV.out.size; omega))
                      clear hb5 v2
                      cases tq : touchesL ops 1
                      · go_wp2_with fail
                        rw [rounds_succ]
                        obtain ⟨ap, cp, v97, hs97, _⟩ := HL5.out.box.deps
                        rw [HFI.out.deps] at v97 hs97
                        obtain ⟨a8, d8, e8, hs8⟩ := HI5.out.sl
                        subst e8
                        go_wp2_with fail
                        refine (keep_same_any ap cp d a8 d8 w5 hs97.2.1 hs97.1 hs8.1).mono ?_
                        rintro e9 w9 ⟨rfl, hb9⟩
                        have HB9 : Hid (Below w.heap.size w w9) := (HBw1.out.trans (HB5.out.mono (by omega))).trans (hb9.mono (by have := HB5.out.size; omega))
                        clear hb9
                        go_wp2
                        go_ret
                        exact ⟨rfl, HB9.out⟩
                      · have hx2 : ¬ x < 2 := by have h9 := HX.out tf tq; omega
                        go_wp2_with fail
                        rw [rounds_succ]
                        obtain ⟨ap, cp, v97, hs97, _⟩ := HL5.out.box.deps
                        rw [HFI.out.deps] at v97 hs97
                        obtain ⟨a8, d8, e8, hs8⟩ := HI5.out.sl
                        subst e8
                        go_wp2_with fail
                        refine (keep_same_any ap cp d a8 d8 w5 hs97.2.1 hs97.1 hs8.1).mono ?_
                        rintro e9 w9 ⟨rfl, hb9⟩
                        have HB9 : Hid (Below w.heap.size w w9) := (HBw1.out.trans (HB5.out.mono (by omega))).trans (hb9.mono (by have := HB5.out.size; omega))
                        clear hb9
                        go_wp2
                        go_ret
                        exact ⟨rfl, HB9.out⟩
              · have hx2 : ¬ x < 2 := by have h9 := HX.out tf tq; omega
                go_wp2_with fail
                rw [rounds_succ]
                obtain ⟨V, hV⟩ : ∃ V, V = w5 := ⟨_, rfl⟩
                have HLV : Hid (OBox (fun b => b ≠ B ∧ b ≠ T) B V gr c) := by unfold Hid; rw [hV]; exact HL5.out
                have HTV : Hid (V.heap[T]? = some (.cells (bools 6 t) 69 (0, 0))) := by unfold Hid; rw [hV]; exact HT5.out
                have HIV : Hid (IsI (fun b => b ≠ B ∧ b ≠ T) V dv d) := by unfold Hid; rw [hV]; exact HI5.out
                have HBV : Hid (Below w1.heap.size w1 V) := by unfold Hid; rw [hV]; exact HB5.out
                rw [← hV]
                clear hV
                go_wp2_with fail
                go_loopw [17, 121] (fun nn kk wr3 => ∃ (j : Nat) (x : Int), j ≤ 3 ∧ kk = .int .i64 j ∧ nn = .int .i64 x ∧ Hid (((cntS t 1 j : Nat) : Int) = x) ∧ wr3 = V) (fun _ kk _ => 3 - (intOf kk).toNat)
                case atStart => exact ⟨0, 0, by omega, rfl, rfl, rfl, rfl⟩
                case round =>
                  obtain ⟨j, x, hj, rfl, rfl, Hx, rfl⟩ := hrel
                  have bx : 0 ≤ x ∧ x ≤ 3 := by have h1 := Hx.out; have h2 := cntS_le t 1 j; omega
                  by_cases hj3 : j < 3
                  · have hjj : (j : Int) < 3 := by omega
                    have ej : wr.cell? ⟨T, 3 + j, none⟩ = some (.bool (t (3 + j))) := by rw [cell_of_row _ _ _ _ _ _ HTV.out, bools_get _ (show 3 + j < 6 by omega)]
                    have w0 : IntKind.i64.wrap (x + 1) = x + 1 := wraps_i64 _ (by omega) (by omega)
                    have w3 : IntKind.i64.wrap (3 + (j : Int)) = 3 + (j : Int) := wraps_i64 _ (by omega) (by omega)
                    have b3 : (0 : Int) ≤ 3 + (j : Int) ∧ 3 + (j : Int) < 6 := by omega
                    have n3 : (3 + (j : Int)).toNat = 3 + j := by omega
                    cases tj : t (3 + j)
                    · rw [tj] at ej
                      have HC : Hid (cntS t 1 (j + 1) = cntS t 1 j) := by unfold Hid; rw [cntS_succ]; simp [tj]
                      go_wp2
                      go_roundw
                      case rel => exact ⟨j + 1, x, by omega, by go_num, rfl, by rw [HC.out]; exact Hx, trivial⟩
                      case measure => simp [intOf]; omega
                    · rw [tj] at ej
                      have HC : Hid (cntS t 1 (j + 1) = cntS t 1 j + 1) := by unfold Hid; rw [cntS_succ]; simp [tj]
                      go_wp2
                      go_roundw
                      case rel => exact ⟨j + 1, x + 1, by omega, by go_num, rfl, by rw [HC.out]; unfold Hid; have h1 := Hx.out; omega, trivial⟩
                      case measure => simp [intOf]; omega
                  · have hje : j = 3 := by omega
                    subst hje
                    have HX : Hid (c.fixed = true → touchesL ops 1 = true → ¬ x < 2) := fun h1 h2 => by
                      have h3 := most_shard1 (HFI.out.most h1) h2
                      have h4 := Hx.out
                      omega
                    clear Hx hj hj3 bx
                    have v1 := HLV.out.box.fixed
                    cases tf : c.fixed
                    · rw [tf] at v1
                      go_wp2_with fail
                      rw [rounds_succ]
                      obtain ⟨ap, cp, v97, hs97, _⟩ := HLV.out.box.deps
                      rw [HFI.out.deps] at v97 hs97
                      obtain ⟨a8, d8, e8, hs8⟩ := HIV.out.sl
                      subst e8
                      go_wp2_with fail
                      refine (keep_same_any ap cp d a8 d8 wr hs97.2.1 hs97.1 hs8.1).mono ?_
                      rintro e9 w9 ⟨rfl, hb9⟩
                      have HB9 : Hid (Below w.heap.size w w9) := (HBw1.out.trans (HBV.out.mono (by omega))).trans (hb9.mono (by have := HBV.out.size; omega))
                      clear hb9
                      go_wp2
                      go_ret
                      exact ⟨rfl, HB9.out⟩
                    · rw [tf] at v1
                      have v2 : wr.cell? ⟨w.heap.size, 1, none⟩ = some (.slice a ops.length cap) := by rw [HBV.out.cell (p := ⟨w.heap.size, 1, none⟩) (show w.heap.size < w1.heap.size by omega)]; exact kn1
                      go_wp2_with fail
                      refine (touches_any a cap ops 1 wr HZo.out.2.1 (HZo.out.later (HBw1.out.trans (HBV.out.mono (by omega)))).1).mono ?_
                      rintro e5 w5 ⟨rfl, hb5⟩
                      have HL5 : Hid (OBox (fun b => b ≠ B ∧ b ≠ T) B w5 gr c) := HLV.out.later hb5
                      have HT5 : Hid (w5.heap[T]? = some (.cells (bools 6 t) 69 (0, 0))) := by unfold Hid; rw [hb5.block _ (Array.getElem?_eq_some_iff.1 HTV.out).1]; exact HTV.out
                      have HI5 : Hid (IsI (fun b => b ≠ B ∧ b ≠ T) w5 dv d) := HIV.out.later (SameOn.of_size hb5)
                      have HB5 : Hid (Below w1.heap.size w1 w5) := HBV.out.trans (hb5.mono (by have := HBV.out.size; omega))
                      clear hb5 v2
                      cases tq : touchesL ops 1
                      · go_wp2_with fail
                        rw [rounds_succ]
                        obtain ⟨ap, cp, v97, hs97, _⟩ := HL5.out.box.deps
                        rw [HFI.out.deps] at v97 hs97
                        obtain ⟨a8, d8, e8, hs8⟩ := HI5.out.sl
                        subst e8
                        go_wp2_with fail
                        refine (keep_same_any ap cp d a8 d8 w5 hs97.2.1 hs97.1 hs8.1).mono ?_
                        rintro e9 w9 ⟨rfl, hb9⟩
                        have HB9 : Hid (Below w.heap.size w w9) := (HBw1.out.trans (HB5.out.mono (by omega))).trans (hb9.mono (by have := HB5.out.size; omega))
                        clear hb9
                        go_wp2
                        go_ret
                        exact ⟨rfl, HB9.out⟩
                      · have hx2 : ¬ x < 2 := by have h9 := HX.out tf tq; omega
                        go_wp2_with fail
                        rw [rounds_succ]
                        obtain ⟨ap, cp, v97, hs97, _⟩ := HL5.out.box.deps
                        rw [HFI.out.deps] at v97 hs97
                        obtain ⟨a8, d8, e8, hs8⟩ := HI5.out.sl
                        subst e8
                        go_wp2_with fail
                        refine (keep_same_any ap cp d a8 d8 w5 hs97.2.1 hs97.1 hs8.1).mono ?_
                        rintro e9 w9 ⟨rfl, hb9⟩
                        have HB9 : Hid (Below w.heap.size w w9) := (HBw1.out.trans (HB5.out.mono (by omega))).trans (hb9.mono (by have := HB5.out.size; omega))
                        clear hb9
                        go_wp2
                        go_ret
                        exact ⟨rfl, HB9.out⟩
    · have hlt' : ¬ (k : Int) < (fs.length : Int) := by omega
      clear hlt
      obtain ⟨V, hV⟩ : ∃ V, V = wr := ⟨_, rfl⟩
      obtain ⟨dv, hdv⟩ : ∃ dv, dv = u8 := ⟨_, rfl⟩
      have HLV : Hid (OBox (fun b => b ≠ B ∧ b ≠ T) B V gr c) := by unfold Hid; rw [hV]; exact HL.out
      have HTV : Hid (V.heap[T]? = some (.cells (bools 6 t) 69 (0, 0))) := by unfold Hid; rw [hV]; exact HT.out
      have HIV : Hid (IsI (fun b => b ≠ B ∧ b ≠ T) V dv d) := by unfold Hid; rw [hV, hdv]; exact HIw.out
      have HBV : Hid (Below w1.heap.size w1 V) := by unfold Hid; rw [hV]; exact HBw.out
      rw [← hV, ← hdv]
      clear hV hdv HL HT HIw HBw
      go_wp2_with fail
      refine wp_loop_rounds 3 ?_; rw [rounds_succ]
      go_wp2_with fail
      go_loopw [17, 121] (fun nn kk wr3 => ∃ (j : Nat) (x : Int), j ≤ 3 ∧ kk = .int .i64 j ∧ nn = .int .i64 x ∧ Hid (((cntS t 0 j : Nat) : Int) = x) ∧ wr3 = V) (fun _ kk _ => 3 - (intOf kk).toNat)
      case atStart => exact ⟨0, 0, by omega, rfl, rfl, rfl, rfl⟩
      case round =>
        obtain ⟨j, x, hj, rfl, rfl, Hx, rfl⟩ := hrel
        have bx : 0 ≤ x ∧ x ≤ 3 := by have h1 := Hx.out; have h2 := cntS_le t 0 j; omega
        by_cases hj3 : j < 3
        · have hjj : (j : Int) < 3 := by omega
          have ej : wr.cell? ⟨T, j, none⟩ = some (.bool (t (j))) := by rw [cell_of_row _ _ _ _ _ _ HTV.out, bools_get _ (show j < 6 by omega)]
          have w0 : IntKind.i64.wrap (x + 1) = x + 1 := wraps_i64 _ (by omega) (by omega)
          have b3 : (0 : Int) ≤ (j : Int) ∧ (j : Int) < 6 := by omega
          cases tj : t (j)
          · rw [tj] at ej
            have HC : Hid (cntS t 0 (j + 1) = cntS t 0 j) := by unfold Hid; rw [cntS_succ]; simp [tj]
            go_wp2
            go_roundw
            case rel => exact ⟨j + 1, x, by omega, by go_num, rfl, by rw [HC.out]; exact Hx, trivial⟩
            case measure => simp [intOf]; omega
          · rw [tj] at ej
            have HC : Hid (cntS t 0 (j + 1) = cntS t 0 j + 1) := by unfold Hid; rw [cntS_succ]; simp [tj]
            go_wp2
            go_roundw
            case rel => exact ⟨j + 1, x + 1, by omega, by go_num, rfl, by rw [HC.out]; unfold Hid; have h1 := Hx.out; omega, trivial⟩
            case measure => simp [intOf]; omega
        · have hje : j = 3 := by omega
          subst hje
          have HX : Hid (c.fixed = true → touchesL ops 0 = true → ¬ x < 2) := fun h1 h2 => by
            have h3 := most_shard0 (HFI.out.most h1) h2
            have h4 := Hx.out
            omega
          clear Hx hj hj3 bx
          have v1 := HLV.out.box.fixed
          cases tf : c.fixed
          · rw [tf] at v1
            go_wp2_with fail
            rw [rounds_succ]
            obtain ⟨V, hV⟩ : ∃ V, V = wr := ⟨_, rfl⟩
            have HLV : Hid (OBox (fun b => b ≠ B ∧ b ≠ T) B V gr c) := by unfold Hid; rw [hV]; exact HLV.out
            have HTV : Hid (V.heap[T]? = some (.cells (bools 6 t) 69 (0, 0))) := by unfold Hid; rw [hV]; exact HTV.out
            have HIV : Hid (IsI (fun b => b ≠ B ∧ b ≠ T) V dv d) := by unfold Hid; rw [hV]; exact HIV.out
            have HBV : Hid (Below w1.heap.size w1 V) := by unfold Hid; rw [hV]; exact HBV.out
            rw [← hV]
            clear hV
            go_wp2_with fail
            go_loopw [17, 121] (fun nn kk wr3 => ∃ (j : Nat) (x : Int), j ≤ 3 ∧ kk = .int .i64 j ∧ nn = .int .i64 x ∧ Hid (((cntS t 1 j : Nat) : Int) = x) ∧ wr3 = V) (fun _ kk _ => 3 - (intOf kk).toNat)
            case atStart => exact ⟨0, 0, by omega, rfl, rfl, rfl, rfl⟩
            case round =>
              obtain ⟨j, x, hj, rfl, rfl, Hx, rfl⟩ := hrel
              have bx : 0 ≤ x ∧ x ≤ 3 := by have h1 := Hx.out; have h2 := cntS_le t 1 j; omega
              by_cases hj3 : j < 3
              · have hjj : (j : Int) < 3 := by omega
                have ej : wr.cell? ⟨T, 3 + j, none⟩ = some (.bool (t (3 + j))) := by rw [cell_of_row _ _ _ _ _ _ HTV.out, bools_get _ (show 3 + j < 6 by omega)]
                have w0 : IntKind.i64.wrap (x + 1) = x + 1 := wraps_i64 _ (by omega) (by omega)
                have w3 : IntKind.i64.wrap (3 + (j : Int)) = 3 + (j : Int) := wraps_i64 _ (by omega) (by omega)
                have b3 : (0 : Int) ≤ 3 + (j : Int) ∧ 3 + (j : Int) < 6 := by omega
                have n3 : (3 + (j : Int)).toNat = 3 + j := by omega
                cases tj : t (3 + j)
                · rw [tj] at ej
                  have HC : Hid (cntS t 1 (j + 1) = cntS t 1 j) := by unfold Hid; rw [cntS_succ]; simp [tj]
                  go_wp2
                  go_roundw
                  case rel => exact ⟨j + 1, x, by omega, by go_num, rfl, by rw [HC.out]; exact Hx, trivial⟩
                  case measure => simp [intOf]; omega
                · rw [tj] at ej
                  have HC : Hid (cntS t 1 (j + 1) = cntS t 1 j + 1) := by unfold Hid; rw [cntS_succ]; simp [tj]
                  go_wp2
                  go_roundw
                  case rel => exact ⟨j + 1, x + 1, by omega, by go_num, rfl, by rw [HC.out]; unfold Hid; have h1 := Hx.out; omega, trivial⟩
                  case measure => simp [intOf]; omega
              · have hje : j = 3 := by omega
                subst hje
                have HX : Hid (c.fixed = true → touchesL ops 1 = true → ¬ x < 2) := fun h1 h2 => by
                  have h3 := most_shard1 (HFI.out.most h1) h2
                  have h4 := Hx.out
                  omega
                clear Hx hj hj3 bx
                have v1 := HLV.out.box.fixed
                cases tf : c.fixed
                · rw [tf] at v1
                  go_wp2_with fail
                  rw [rounds_succ]
                  obtain ⟨ap, cp, v97, hs97, _⟩ := HLV.out.box.deps
                  rw [HFI.out.deps] at v97 hs97
                  obtain ⟨a8, d8, e8, hs8⟩ := HIV.out.sl
                  subst e8
                  go_wp2_with fail
                  refine (keep_same_any ap cp d a8 d8 wr hs97.2.1 hs97.1 hs8.1).mono ?_
                  rintro e9 w9 ⟨rfl, hb9⟩
                  have HB9 : Hid (Below w.heap.size w w9) := (HBw1.out.trans (HBV.out.mono (by omega))).trans (hb9.mono (by have := HBV.out.size; omega))
                  clear hb9
                  go_wp2
                  go_ret
                  exact ⟨rfl, HB9.out⟩
                · rw [tf] at v1
                  have v2 : wr.cell? ⟨w.heap.size, 1, none⟩ = some (.slice a ops.length cap) := by rw [HBV.out.cell (p := ⟨w.heap.size, 1, none⟩) (show w.heap.size < w1.heap.size by omega)]; exact kn1
                  go_wp2_with fail
                  refine (touches_any a cap ops 1 wr HZo.out.2.1 (HZo.out.later (HBw1.out.trans (HBV.out.mono (by omega)))).1).mono ?_
                  rintro e5 w5 ⟨rfl, hb5⟩
                  have HL5 : Hid (OBox (fun b => b ≠ B ∧ b ≠ T) B w5 gr c) := HLV.out.later hb5
                  have HT5 : Hid (w5.heap[T]? = some (.cells (bools 6 t) 69 (0, 0))) := by unfold Hid; rw [hb5.block _ (Array.getElem?_eq_some_iff.1 HTV.out).1]; exact HTV.out
                  have HI5 : Hid (IsI (fun b => b ≠ B ∧ b ≠ T) w5 dv d) := HIV.out.later (SameOn.of_size hb5)
                  have HB5 : Hid (Below w1.heap.size w1 w5) := HBV.out.trans (hb5.mono (by have := HBV.out.size; omega))
                  clear hb5 v2
                  cases tq : touchesL ops 1
                  · go_wp2_with fail
                    rw [rounds_succ]
                    obtain ⟨ap, cp, v97, hs97, _⟩ := HL5.out.box.deps
                    rw [HFI.out.deps] at v97 hs97
                    obtain ⟨a8, d8, e8, hs8⟩ := HI5.out.sl
                    subst e8
                    go_wp2_with fail
                    refine (keep_same_any ap cp d a8 d8 w5 hs97.2.1 hs97.1 hs8.1).mono ?_
                    rintro e9 w9 ⟨rfl, hb9⟩
                    have HB9 : Hid (Below w.heap.size w w9) := (HBw1.out.trans (HB5.out.mono (by omega))).trans (hb9.mono (by have := HB5.out.size; omega))
                    clear hb9
                    go_wp2
                    go_ret
                    exact ⟨rfl, HB9.out⟩
                  · have hx2 : ¬ x < 2 := by have h9 := HX.out tf tq; omega
                    go_wp2_with fail
                    rw [rounds_succ]
                    obtain ⟨ap, cp, v97, hs97, _⟩ := HL5.out.box.deps
                    rw [HFI.out.deps] at v97 hs97
                    obtain ⟨a8, d8, e8, hs8⟩ := HI5.out.sl
                    subst e8
                    go_wp2_with fail
                    refine (keep_same_any ap cp d a8 d8 w5 hs97.2.1 hs97.1 hs8.1).mono ?_
                    rintro e9 w9 ⟨rfl, hb9⟩
                    have HB9 : Hid (Below w.heap.size w w9) := (HBw1.out.trans (HB5.out.mono (by omega))).trans (hb9.mono (by have := HB5.out.size; omega))
                    clear hb9
                    go_wp2
                    go_ret
                    exact ⟨rfl, HB9.out⟩
          · rw [tf] at v1
            have v2 : wr.cell? ⟨w.heap.size, 1, none⟩ = some (.slice a ops.length cap) := by rw [HBV.out.cell (p := ⟨w.heap.size, 1, none⟩) (show w.heap.size < w1.heap.size by omega)]; exact kn1
            go_wp2_with fail
            refine (touches_any a cap ops 0 wr HZo.out.2.1 (HZo.out.later (HBw1.out.trans (HBV.out.mono (by omega)))).1).mono ?_
            rintro e5 w5 ⟨rfl, hb5⟩
            have HL5 : Hid (OBox (fun b => b ≠ B ∧ b ≠ T) B w5 gr c) := HLV.out.later hb5
            have HT5 : Hid (w5.heap[T]? = some (.cells (bools 6 t) 69 (0, 0))) := by unfold Hid; rw [hb5.block _ (Array.getElem?_eq_some_iff.1 HTV.out).1]; exact HTV.out
            have HI5 : Hid (IsI (fun b => b ≠ B ∧ b ≠ T) w5 dv d) := HIV.out.later (SameOn.of_size hb5)
            have HB5 : Hid (Below w1.heap.size w1 w5) := HBV.out.trans (hb5.mono (by have := HBV.out.size; omega))
            clear hb5 v2
            cases tq : touchesL ops 0
            · go_wp2_with fail
              rw [rounds_succ]
              obtain ⟨V, hV⟩ : ∃ V, V = w5 := ⟨_, rfl⟩
              have HLV : Hid (OBox (fun b => b ≠ B ∧ b ≠ T) B V gr c) := by unfold Hid; rw [hV]; exact HL5.out
              have HTV : Hid (V.heap[T]? = some (.cells (bools 6 t) 69 (0, 0))) := by unfold Hid; rw [hV]; exact HT5.out
              have HIV : Hid (IsI (fun b => b ≠ B ∧ b ≠ T) V dv d) := by unfold Hid; rw [hV]; exact HI5.out
              have HBV : Hid (Below w1.heap.size w1 V) := by unfold Hid; rw [hV]; exact HB5.out
              rw [← hV]
              clear hV
              go_wp2_with fail
              go_loopw [17, 121] (fun nn kk wr3 => ∃ (j : Nat) (x : Int), j ≤ 3 ∧ kk = .int .i64 j ∧ nn = .int .i64 x ∧ Hid (((cntS t 1 j : Nat) : Int) = x) ∧ wr3 = V) (fun _ kk _ => 3 - (intOf kk).toNat)
              case atStart => exact ⟨0, 0, by omega, rfl, rfl, rfl, rfl⟩
              case round =>
                obtain ⟨j, x, hj, rfl, rfl, Hx, rfl⟩ := hrel
                have bx : 0 ≤ x ∧ x ≤ 3 := by have h1 := Hx.out; have h2 := cntS_le t 1 j; omega
                by_cases hj3 : j < 3
                · have hjj : (j : Int) < 3 := by omega
                  have ej : wr.cell? ⟨T, 3 + j, none⟩ = some (.bool (t (3 + j))) := by rw [cell_of_row _ _ _ _ _ _ HTV.out, bools_get _ (show 3 + j < 6 by omega)]
                  have w0 : IntKind.i64.wrap (x + 1) = x + 1 := wraps_i64 _ (by omega) (by omega)
                  have w3 : IntKind.i64.wrap (3 + (j : Int)) = 3 + (j : Int) := wraps_i64 _ (by omega) (by omega)
                  have b3 : (0 : Int) ≤ 3 + (j : Int) ∧ 3 + (j : Int) < 6 := by omega
                  have n3 : (3 + (j : Int)).toNat = 3 + j := by omega
                  cases tj : t (3 + j)
                  · rw [tj] at ej
                    have HC : Hid (cntS t 1 (j + 1) = cntS t 1 j) := by unfold Hid; rw [cntS_succ]; simp [tj]
                    go_wp2
                    go_roundw
                    case rel => exact ⟨j + 1, x, by omega, by go_num, rfl, by rw [HC.out]; exact Hx, trivial⟩
                    case measure => simp [intOf]; omega
                  · rw [tj] at ej
                    have HC : Hid (cntS t 1 (j + 1) = cntS t 1 j + 1) := by unfold Hid; rw [cntS_succ]; simp [tj]
                    go_wp2
                    go_roundw
                    case rel => exact ⟨j + 1, x + 1, by omega, by go_num, rfl, by rw [HC.out]; unfold Hid; have h1 := Hx.out; omega, trivial⟩
                    case measure => simp [intOf]; omega
                · have hje : j = 3 := by omega
                  subst hje
                  have HX : Hid (c.fixed = true → touchesL ops 1 = true → ¬ x < 2) := fun h1 h2 => by
                    have h3 := most_shard1 (HFI.out.most h1) h2
                    have h4 := Hx.out
                    omega
                  clear Hx hj hj3 bx
                  have v1 := HLV.out.box.fixed
                  cases tf : c.fixed
                  · rw [tf] at v1
                    go_wp2_with fail
                    rw [rounds_succ]
                    obtain ⟨ap, cp, v97, hs97, _⟩ := HLV.out.box.deps
                    rw [HFI.out.deps] at v97 hs97
                    obtain ⟨a8, d8, e8, hs8⟩ := HIV.out.sl
                    subst e8
                    go_wp2_with fail
                    refine (keep_same_any ap cp d a8 d8 wr hs97.2.1 hs97.1 hs8.1).mono ?_
                    rintro e9 w9 ⟨rfl, hb9⟩
                    have HB9 : Hid (Below w.heap.size w w9) := (HBw1.out.trans (HBV.out.mono (by omega))).trans (hb9.mono (by have := HBV.out.size; omega))
                    clear hb9
                    go_wp2
                    go_ret
                    exact ⟨rfl, HB9.out⟩
                  · rw [tf] at v1
                    have v2 : wr.cell? ⟨w.heap.size, 1, none⟩ = some (.slice a ops.length cap) := by rw [HBV.out.cell (p := ⟨w.heap.size, 1, none⟩) (show w.heap.size < w1.heap.size by omega)]; exact kn1
                    go_wp2_with fail
                    refine (touches_any a cap ops 1 wr HZo.out.2.1 (HZo.out.later (HBw1.out.trans (HBV.out.mono (by omega)))).1).mono ?_
                    rintro e5 w5 ⟨rfl, hb5⟩
                    have HL5 : Hid (OBox (fun b => b ≠ B ∧ b ≠ T) B w5 gr c) := HLV.out.later hb5
                    have HT5 : Hid (w5.heap[T]? = some (.cells (bools 6 t) 69 (0, 0))) := by unfold Hid; rw [hb5.block _ (Array.getElem?_eq_some_iff.1 HTV.out).1]; exact HTV.out
                    have HI5 : Hid (IsI (fun b => b ≠ B ∧ b ≠ T) w5 dv d) := HIV.out.later (SameOn.of_size hb5)
                    have HB5 : Hid (Below w1.heap.size w1 w5) := HBV.out.trans (hb5.mono (by have := HBV.out.size; omega))
                    clear hb5 v2
                    cases tq : touchesL ops 1
                    · go_wp2_with fail
                      rw [rounds_succ]
                      obtain ⟨ap, cp, v97, hs97, _⟩ := HL5.out.box.deps
                      rw [HFI.out.deps] at v97 hs97
                      obtain ⟨a8, d8, e8, hs8⟩ := HI5.out.sl
                      subst e8
                      go_wp2_with fail
                      refine (keep_same_any ap cp d a8 d8 w5 hs97.2.1 hs97.1 hs8.1).mono ?_
                      rintro e9 w9 ⟨rfl, hb9⟩
                      have HB9 : Hid (Below w.heap.size w w9) := (HBw1.out.trans (HB5.out.mono (by omega))).trans (hb9.mono (by have := HB5.out.size; omega))
                      clear hb9
                      go_wp2
                      go_ret
                      exact ⟨rfl, HB9.out⟩
                    · have hx2 : ¬ x < 2 := by have h9 := HX.out tf tq; omega
                      go_wp2_with fail
                      rw [rounds_succ]
                      obtain ⟨ap, cp, v97, hs97, _⟩ := HL5.out.box.deps
                      rw [HFI.out.deps] at v97 hs97
                      obtain ⟨a8, d8, e8, hs8⟩ := HI5.out.sl
                      subst e8
                      go_wp2_with fail
                      refine (keep_same_any ap cp d a8 d8 w5 hs97.2.1 hs97.1 hs8.1).mono ?_
                      rintro e9 w9 ⟨rfl, hb9⟩
                      have HB9 : Hid (Below w.heap.size w w9) := (HBw1.out.trans (HB5.out.mono (by omega))).trans (hb9.mono (by have := HB5.out.size; omega))
                      clear hb9
                      go_wp2
                      go_ret
                      exact ⟨rfl, HB9.out⟩
            · have hx2 : ¬ x < 2 := by have h9 := HX.out tf tq; omega
              go_wp2_with fail
              rw [rounds_succ]
              obtain ⟨V, hV⟩ : ∃ V, V = w5 := ⟨_, rfl⟩
              have HLV : Hid (OBox (fun b => b ≠ B ∧ b ≠ T) B V gr c) := by unfold Hid; rw [hV]; exact HL5.out
              have HTV : Hid (V.heap[T]? = some (.cells (bools 6 t) 69 (0, 0))) := by unfold Hid; rw [hV]; exact HT5.out
              have HIV : Hid (IsI (fun b => b ≠ B ∧ b ≠ T) V dv d) := by unfold Hid; rw [hV]; exact HI5.out
              have HBV : Hid (Below w1.heap.size w1 V) := by unfold Hid; rw [hV]; exact HB5.out
              rw [← hV]
              clear hV
              go_wp2_with fail
              go_loopw [17, 121] (fun nn kk wr3 => ∃ (j : Nat) (x : Int), j ≤ 3 ∧ kk = .int .i64 j ∧ nn = .int .i64 x ∧ Hid (((cntS t 1 j : Nat) : Int) = x) ∧ wr3 = V) (fun _ kk _ => 3 - (intOf kk).toNat)
              case atStart => exact ⟨0, 0, by omega, rfl, rfl, rfl, rfl⟩
              case round =>
                obtain ⟨j, x, hj, rfl, rfl, Hx, rfl⟩ := hrel
                have bx : 0 ≤ x ∧ x ≤ 3 := by have h1 := Hx.out; have h2 := cntS_le t 1 j; omega
                by_cases hj3 : j < 3
                · have hjj : (j : Int) < 3 := by omega
                  have ej : wr.cell? ⟨T, 3 + j, none⟩ = some (.bool (t (3 + j))) := by rw [cell_of_row _ _ _ _ _ _ HTV.out, bools_get _ (show 3 + j < 6 by omega)]
                  have w0 : IntKind.i64.wrap (x + 1) = x + 1 := wraps_i64 _ (by omega) (by omega)
                  have w3 : IntKind.i64.wrap (3 + (j : Int)) = 3 + (j : Int) := wraps_i64 _ (by omega) (by omega)
                  have b3 : (0 : Int) ≤ 3 + (j : Int) ∧ 3 + (j : Int) < 6 := by omega
                  have n3 : (3 + (j : Int)).toNat = 3 + j := by omega
                  cases tj : t (3 + j)
                  · rw [tj] at ej
                    have HC : Hid (cntS t 1 (j + 1) = cntS t 1 j) := by unfold Hid; rw [cntS_succ]; simp [tj]
                    go_wp2
                    go_roundw
                    case rel => exact ⟨j + 1, x, by omega, by go_num, rfl, by rw [HC.out]; exact Hx, trivial⟩
                    case measure => simp [intOf]; omega
                  · rw [tj] at ej
                    have HC : Hid (cntS t 1 (j + 1) = cntS t 1 j + 1) := by unfold Hid; rw [cntS_succ]; simp [tj]
                    go_wp2
                    go_roundw
                    case rel => exact ⟨j + 1, x + 1, by omega, by go_num, rfl, by rw [HC.out]; unfold Hid; have h1 := Hx.out; omega, trivial⟩
                    case measure => simp [intOf]; omega
                · have hje : j = 3 := by omega
                  subst hje
                  have HX : Hid (c.fixed = true → touchesL ops 1 = true → ¬ x < 2) := fun h1 h2 => by
                    have h3 := most_shard1 (HFI.out.most h1) h2
                    have h4 := Hx.out
                    omega
                  clear Hx hj hj3 bx
                  have v1 := HLV.out.box.fixed
                  cases tf : c.fixed
                  · rw [tf] at v1
                    go_wp2_with fail
                    rw [rounds_succ]
                    obtain ⟨ap, cp, v97, hs97, _⟩ := HLV.out.box.deps
                    rw [HFI.out.deps] at v97 hs97
                    obtain ⟨a8, d8, e8, hs8⟩ := HIV.out.sl
                    subst e8
                    go_wp2_with fail
                    refine (keep_same_any ap cp d a8 d8 wr hs97.2.1 hs97.1 hs8.1).mono ?_
                    rintro e9 w9 ⟨rfl, hb9⟩
                    have HB9 : Hid (Below w.heap.size w w9) := (HBw1.out.trans (HBV.out.mono (by omega))).trans (hb9.mono (by have := HBV.out.size; omega))
                    clear hb9
                    go_wp2
                    go_ret
                    exact ⟨rfl, HB9.out⟩
                  · rw [tf] at v1
                    have v2 : wr.cell? ⟨w.heap.size, 1, none⟩ = some (.slice a ops.length cap) := by rw [HBV.out.cell (p := ⟨w.heap.size, 1, none⟩) (show w.heap.size < w1.heap.size by omega)]; exact kn1
                    go_wp2_with fail
                    refine (touches_any a cap ops 1 wr HZo.out.2.1 (HZo.out.later (HBw1.out.trans (HBV.out.mono (by omega)))).1).mono ?_
                    rintro e5 w5 ⟨rfl, hb5⟩
                    have HL5 : Hid (OBox (fun b => b ≠ B ∧ b ≠ T) B w5 gr c) := HLV.out.later hb5
                    have HT5 : Hid (w5.heap[T]? = some (.cells (bools 6 t) 69 (0, 0))) := by unfold Hid; rw [hb5.block _ (Array.getElem?_eq_some_iff.1 HTV.out).1]; exact HTV.out
                    have HI5 : Hid (IsI (fun b => b ≠ B ∧ b ≠ T) w5 dv d) := HIV.out.later (SameOn.of_size hb5)
                    have HB5 : Hid (Below w1.heap.size w1 w5) := HBV.out.trans (hb5.mono (by have := HBV.out.size; omega))
                    clear hb5 v2
                    cases tq : touchesL ops 1
                    · go_wp2_with fail
                      rw [rounds_succ]
                      obtain ⟨ap, cp, v97, hs97, _⟩ := HL5.out.box.deps
                      rw [HFI.out.deps] at v97 hs97
                      obtain ⟨a8, d8, e8, hs8⟩ := HI5.out.sl
                      subst e8
                      go_wp2_with fail
                      refine (keep_same_any ap cp d a8 d8 w5 hs97.2.1 hs97.1 hs8.1).mono ?_
                      rintro e9 w9 ⟨rfl, hb9⟩
                      have HB9 : Hid (Below w.heap.size w w9) := (HBw1.out.trans (HB5.out.mono (by omega))).trans (hb9.mono (by have := HB5.out.size; omega))
                      clear hb9
                      go_wp2
                      go_ret
                      exact ⟨rfl, HB9.out⟩
                    · have hx2 : ¬ x < 2 := by have h9 := HX.out tf tq; omega
                      go_wp2_with fail
                      rw [rounds_succ]
                      obtain ⟨ap, cp, v97, hs97, _⟩ := HL5.out.box.deps
                      rw [HFI.out.deps] at v97 hs97
                      obtain ⟨a8, d8, e8, hs8⟩ := HI5.out.sl
                      subst e8
                      go_wp2_with fail
                      refine (keep_same_any ap cp d a8 d8 w5 hs97.2.1 hs97.1 hs8.1).mono ?_
                      rintro e9 w9 ⟨rfl, hb9⟩
                      have HB9 : Hid (Below w.heap.size w w9) := (HBw1.out.trans (HB5.out.mono (by omega))).trans (hb9.mono (by have := HB5.out.size; omega))
                      clear hb9
                      go_wp2
                      go_ret
                      exact ⟨rfl, HB9.out⟩

end Go.Proofs.Ytkoefoccbjhoiab
