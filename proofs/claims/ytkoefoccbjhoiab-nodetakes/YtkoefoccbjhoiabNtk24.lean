/-
  The walk of the statement NodeTakes.
-/
import Derived.Test.YtkoefoccbjhoiabNtk22
import Derived.Test.YtkoefoccbjhoiabNtk15
import Derived.Test.YtkoefoccbjhoiabNtk23
import Derived.Test.YtkoefoccbjhoiabNtk13
import Derived.Deep.CutRange
namespace Go.Proofs.Ytkoefoccbjhoiab
open Go.RowKit

theorem step_alloc_as {P : Program} {ops : Array Oper} {o : Oper} {a : Act} {w : World} {K : Act → World → Prop} {Q : Exit → Act → World → Prop} {E : Prop} (hgd : o.guard = none) (d : Option Tmp) (hd : o.dst = d) (ty : TypeId) (ho : o.op = .alloc ty) (cs : Array Value) (hz : (P.info? ty).map (·.zero) = some (some (.agg cs)))
    (h : K (a.put d (.pointer (some ⟨w.heap.size, 0, none⟩))) (w.alloc (.cells cs ty))) : if Region.wanted o (yielded ops a.tmps) = true then Oper.wp P o a w K Q else E := by
  have hw : Region.wanted o (yielded ops a.tmps) = true := by simp [Region.wanted, hgd]
  rw [if_pos hw]
  cases hq : P.info? ty with
  | none => simp [hq] at hz
  | some i =>
    have hzz : i.zero = some (.agg cs) := by simpa [hq] using hz
    unfold Oper.wp execOp
    simp [ho, hd, Instr.alloc, zeroValue, typeInfo, hq, hzz, newVar, newRow, Value.cells, go_sem]
    exact h
theorem Try.zeroFr : (Try.prog.info? 43).map (·.zero) = some (some (.agg #[.int .i64 0, .int .i64 0, .int .i64 0, .slice none 0 0, .slice none 0 0, .slice none 0 0, .slice none 0 0])) := by kernel_rfl
/-- A frame by value, its cells as one letter. -/
theorem frame_cells {w : World} {v : Value} {f : FrameL} (h : FrameV w v f) : ∃ cs : Array Value, v = .agg cs ∧ cs.size = 7 ∧ cs.all (·.oneCell') = true := by
  obtain ⟨a3, c3, a4, c4, a5, c5, a6, c6, rfl, _⟩ := h
  exact ⟨_, rfl, rfl, by simp [Value.oneCell']⟩


def FrameO (ok : Nat → Prop) (w : World) (v : Value) (f : FrameL) : Prop := ∃ a3 c3 a4 c4 a5 c5 a6 c6,
  v = .agg #[.int .i64 f.kind, .int .i64 f.node, .int .i64 f.id, .slice a3 f.ops.length c3, .slice a4 f.deps.length c4, .slice a5 f.ats.length c5, .slice a6 f.vals.length c6] ∧
  (SlOps w a3 c3 f.ops ∧ OpsIn ok w a3 f.ops) ∧ (SlInts w a4 c4 f.deps ∧ IntsIn ok w a4 f.deps) ∧ (SlInts w a5 c5 f.ats ∧ IntsIn ok w a5 f.ats) ∧ (SlInts w a6 c6 f.vals ∧ IntsIn ok w a6 f.vals)
theorem FrameO.v {ok : Nat → Prop} {w : World} {v : Value} {f : FrameL} (h : FrameO ok w v f) : FrameV w v f := by
  obtain ⟨a3, c3, a4, c4, a5, c5, a6, c6, e, h3, h4, h5, h6⟩ := h
  exact ⟨a3, c3, a4, c4, a5, c5, a6, c6, e, h3.1, h4.1, h5.1, h6.1⟩
theorem FrameO.later {ok : Nat → Prop} {w w' : World} {v : Value} {f : FrameL} (h : FrameO ok w v f) (hb : SameOn ok w w') : FrameO ok w' v f := by
  obtain ⟨a3, c3, a4, c4, a5, c5, a6, c6, e, h3, h4, h5, h6⟩ := h
  exact ⟨a3, c3, a4, c4, a5, c5, a6, c6, e, slO_same h3 hb, slI_same h4 hb, slI_same h5 hb, slI_same h6 hb⟩
theorem FrameO.mono {ok ok' : Nat → Prop} {w : World} {v : Value} {f : FrameL} (h : FrameO ok w v f) (hk : ∀ k, k < w.heap.size → ok k → ok' k) : FrameO ok' w v f := by
  obtain ⟨a3, c3, a4, c4, a5, c5, a6, c6, e, h3, h4, h5, h6⟩ := h
  exact ⟨a3, c3, a4, c4, a5, c5, a6, c6, e, ⟨h3.1, h3.2.mono hk⟩, ⟨h4.1, h4.2.mono hk⟩, ⟨h5.1, h5.2.mono hk⟩, ⟨h6.1, h6.2.mono hk⟩⟩
theorem FrameO.of {L : Nat} {w : World} {v : Value} {f : FrameL} (h : FrameV w v f) (hfar : FarV L v) : FrameO (fun b => L ≤ b ∧ b < w.heap.size) w v f := by
  obtain ⟨a3, c3, a4, c4, a5, c5, a6, c6, rfl, h3, h4, h5, h6⟩ := h
  exact ⟨a3, c3, a4, c4, a5, c5, a6, c6, rfl, ⟨h3, ops_far h3.1 (fun x e => hfar _ rfl 3 x f.ops.length c3 (by rw [e]; rfl))⟩, ⟨h4, ints_far h4.1 (fun x e => hfar _ rfl 4 x f.deps.length c4 (by rw [e]; rfl))⟩,
    ⟨h5, ints_far h5.1 (fun x e => hfar _ rfl 5 x f.ats.length c5 (by rw [e]; rfl))⟩, ⟨h6, ints_far h6.1 (fun x e => hfar _ rfl 6 x f.vals.length c6 (by rw [e]; rfl))⟩⟩
theorem arr_back (a : Array Value) : a.toList.toArray = a := by simp

/-- Behind the two copies: where they lie. -/
structure Tk (W : World) (s : NodeL) (f : FrameL) (A D : Nat) (nv1 : Nat → Value) (cs : Array Value) (w : World) : Prop where
  ad : A ≠ D
  la : W.heap.size ≤ A
  ld : W.heap.size ≤ D
  ra : w.heap[A]? = some (.cells (rowF 201 nv1) 41 (0, 0))
  rd : w.heap[D]? = some (.cells cs 43 (0, 0))
  node : NodeC (· < w.heap.size) w nv1 s
  fr : FrameV w (.agg cs) f
  size : cs.size = 7
  below : Below W.heap.size W w
theorem Tk.mk' {W z : World} {s : NodeL} {f : FrameL} {A D : Nat} {nv1 : Nat → Value} {cs oldA oldD : Array Value} (hAD : A ≠ D) (la : W.heap.size ≤ A) (ld : W.heap.size ≤ D)
    (rA : z.heap[A]? = some (.cells oldA 41 (0, 0))) (rD : z.heap[D]? = some (.cells oldD 43 (0, 0)))
    (hn : NodeC (fun b => b ≠ A ∧ b ≠ D) z nv1 s) (hf : FrameO (fun b => b ≠ A ∧ b ≠ D) z (.agg cs) f) (hs : cs.size = 7) (hb : Below W.heap.size W z) :
    Tk W s f A D nv1 cs ((z.setRow A (rowF 201 nv1)).setRow D cs) := by
  have hk : ∀ b, b ≠ A → b ≠ D → ((z.setRow A (rowF 201 nv1)).setRow D cs).heap[b]? = z.heap[b]? := fun b h1 h2 => by rw [setRow_other _ _ h2, setRow_other _ _ h1]
  refine ⟨hAD, la, ld, ?_, ?_, ?_, ?_, hs, setRow_below (setRow_below hb la _) ld _⟩
  · rw [setRow_other _ _ hAD]; exact heap_setRow rA
  · exact heap_setRow (by rw [setRow_other _ _ (Ne.symm hAD)]; exact rD)
  · exact (hn.later (fun b _ hb => hk b hb.1 hb.2)).any
  · exact (hf.later (fun b _ hb => hk b hb.1 hb.2)).v

set_option maxRecDepth 100000 in
set_option maxHeartbeats 40000000 in
theorem ntakes_walk (nv : Nat → Value) (s : NodeL) (who : Int) (v : Value) (f : FrameL) (w : World) (h : NodeC (· < w.heap.size) w nv s) (_h32 : ∀ n, 32 ≤ n → s.ent n = zeroE) (hf : FrameV w v f) (r3 : f.ops.length * 24 ≤ 140737488355328) (r4 : f.deps.length * 8 ≤ 140737488355328) (r5 : f.ats.length * 8 ≤ 140737488355328) (r6 : f.vals.length * 8 ≤ 140737488355328) :
    Calls Try.prog 6 #[.agg (rowF 201 nv), .int .i64 who, v] w fun r w' => r = .returned (.bool true) ∧ Below w.heap.size w w' := by
  obtain ⟨gr, hgr⟩ : ∃ gr, gr = rowF 201 nv := ⟨_, rfl⟩
  obtain ⟨zr, hzr⟩ : ∃ zr, zr = rowF 201 zv := ⟨_, rfl⟩
  obtain ⟨fc, rfl, hfs7, hfo⟩ := frame_cells hf
  have hz0 := Try.zeroNode
  rw [← hzr] at hz0
  have hsg : (Try.prog.info? 41).map (·.size) = some gr.size := by rw [hgr, rowF_size]; exact Try.infoNode
  have hsgl : (Try.prog.info? 41).map (·.size) = some gr.toList.length := by rw [Array.length_toList]; exact hsg
  have hsf : (Try.prog.info? 43).map (·.size) = some fc.size := by rw [hfs7]; exact Try.infoFrame7
  have hsfl : (Try.prog.info? 43).map (·.size) = some fc.toList.length := by rw [Array.length_toList]; exact hsf
  rw [← hgr]
  have HGR : Hid (gr = rowF 201 nv) := hgr
  have HZR : Hid (zr = rowF 201 zv) := hzr
  have HN : Hid (NodeC (· < w.heap.size) w nv s) := h
  have HFV : Hid (∀ x, Below w.heap.size w x → FrameV x (.agg fc) f) := fun x hx => hf.later hx
  have HRm : Hid ((f.ops.length * 24 ≤ 140737488355328 ∧ f.deps.length * 8 ≤ 140737488355328) ∧ f.ats.length * 8 ≤ 140737488355328 ∧ f.vals.length * 8 ≤ 140737488355328) := ⟨⟨r3, r4⟩, r5, r6⟩
  obtain ⟨W, hW⟩ : ∃ W, W = (w.alloc (.cells gr 41)).alloc (.cells fc 43) := ⟨_, rfl⟩
  obtain ⟨r0, r1⟩ := two_rows w (.cells gr 41) (.cells fc 43)
  rw [← hW] at r0 r1
  have hb : Below w.heap.size w W := by rw [hW]; exact ((Below.refl _ _).alloc (Nat.le_refl _) _).alloc (by rw [size_push]; omega) _
  have hzW : w.heap.size + 2 ≤ W.heap.size ∧ W.heap.size ≤ w.heap.size + 2 := by rw [hW, size_push, size_push]; omega
  have HW : Hid (W = (w.alloc (.cells gr 41)).alloc (.cells fc 43)) := hW
  have H7 : Hid (fc.size = 7) := hfs7
  clear hgr hzr h hW hf r3 r4 r5 r6 hfs7 hfo
  go_enter Try.func6, Try.ntmps6
  go_upto_region 1 with fail
  rw [← HW.out]
  clear HW
  go_cut [7, 8] from 15 (fun p q wc => ∃ A D nv1 cs, p = .pointer (some ⟨A, 0, none⟩) ∧ q = .pointer (some ⟨D, 0, none⟩) ∧ Hid (Tk W s f A D nv1 cs wc))
  case first =>
    refine wp_region_held_drew (S := fun w' => Below W.drew.heap.size W.drew w') (by kernel_rfl) (Below.refl _ _) ?_
    intro hH
    have hWd : Below W.heap.size W W.drew := (Below.refl _ _).drew
    have d0 : W.drew.heap[w.heap.size]? = some (.cells gr 41 (0, 0)) := r0
    have d1 : W.drew.heap[w.heap.size + 1]? = some (.cells fc 43 (0, 0)) := r1
    have hzd : W.heap.size ≤ W.drew.heap.size ∧ W.drew.heap.size ≤ W.heap.size := ⟨Nat.le_refl _, Nat.le_refl _⟩
    have hbd : Below w.heap.size w W.drew := hb.drew
    clear r0 r1 hb
    generalize W.drew = Z0 at *
    have K0 : Hid (∀ wx, Below Z0.heap.size Z0 wx → wx.heap[w.heap.size]? = some (.cells gr 41 (0, 0))) := fun wx hx => by rw [hx.block _ (by omega)]; exact d0
    have K1 : Hid (∀ wx, Below Z0.heap.size Z0 wx → wx.heap[w.heap.size + 1]? = some (.cells fc 43 (0, 0))) := fun wx hx => by rw [hx.block _ (by omega)]; exact d1
    clear d0 d1
    refine wpAnyH_takeD (i := 0) (d := some 15) (v := .agg gr.toList.toArray) rfl rfl (by kernel_rfl) (by kernel_rfl) (by kernel_rfl) (fun _ _ _ h => h) (yieldsIf_load_mid (by rfl) _ _ rfl _ _ rfl gr.toList _ (fun wx hx => rowR_range (K0.out wx hx)) Try.underlying41 rfl hsgl) hH ?_
    simp only [Act.put, List.setIfInBounds_toArray, List.set_cons_zero, List.set_cons_succ]
    refine wpAnyH_takeD (i := 2) (d := some 17) (v := .agg fc.toList.toArray) rfl rfl (by kernel_rfl) (by kernel_rfl) (by kernel_rfl) (fun _ _ _ h => h) (yieldsIf_load_mid (by rfl) _ _ rfl _ _ rfl fc.toList _ (fun wx hx => rowR_range (K1.out wx hx)) Try.underlying43 rfl hsfl) hH ?_
    simp only [Act.put, List.setIfInBounds_toArray, List.set_cons_zero, List.set_cons_succ]
    simp only [arr_back]
    have B0 : Below Z0.heap.size Z0 Z0 := Below.refl _ _
    clear hH
    have hH := B0
    refine wpAnyH_ready (rs := [1, 4, 5]) (by kernel_rfl) (by simp) ?_
    refine AllReadyH.cons rfl (fun K hK => ?_) (AllReadyH.cons rfl (fun K hK => ?_) (AllReadyH.cons rfl (fun K hK => ?_) AllReadyH.nil))
    · go_simp
      have hcp1 := copyNode_any nv s Z0 (HN.out.below (hbd.trans (B0.mono (by omega))))
      rw [← HGR.out] at hcp1
      refine hcp1.mono ?_
      clear hcp1
      rintro r Z1 ⟨nv1, rfl, hap1, hb1⟩
      obtain ⟨fa, hfa⟩ : ∃ fa, fa = rowF 201 nv1 := ⟨_, rfl⟩
      rw [← hfa]
      have HFA : Hid (fa = rowF 201 nv1) := hfa
      clear hfa
      go_wp2_with fail
      have B1 : Below Z0.heap.size Z0 Z1 := B0.trans (hb1.mono B0.size)
      have hz1 : Z0.heap.size ≤ Z1.heap.size := hb1.size
      have hsz1 := B0.size
      refine hK.out _ _ B1 (fun _ => ?_)
      clear hK K hH
      have HN1 : Hid (NodeC (fun b => Z0.heap.size ≤ b ∧ b < Z1.heap.size) Z1 nv1 s) := hap1.c.mono (fun b hb hk => ⟨hk, hb⟩)
      clear hap1 hb1
      have hH := B1
      try simp only [Act.put]
      try simp only [List.setIfInBounds_toArray]
      try simp only [List.set_cons_zero, List.set_cons_succ]
      refine wpAnyH_ready (rs := [3, 4, 5]) (by kernel_rfl) (by simp) ?_
      refine AllReadyH.cons rfl (fun K hK => ?_) (AllReadyH.cons rfl (fun K hK => ?_) (AllReadyH.cons rfl (fun K hK => ?_) AllReadyH.nil))
      · go_simp
        refine (lawFrame_new _ f Z1 (HFV.out Z1 (hbd.trans (B1.mono (by omega)))) HRm.out.1.1 HRm.out.1.2 HRm.out.2.1 HRm.out.2.2).mono ?_
        rintro r Z2 ⟨vc, rfl, hfv2, hfr2, hb2⟩
        obtain ⟨cs, rfl, hc7, hco⟩ := frame_cells hfv2
        have HC7 : Hid (cs.size = 7) := hc7
        have HCO : Hid (cs.all (·.oneCell') = true) := hco
        clear hc7 hco
        go_wp2_with fail
        have B2 : Below Z0.heap.size Z0 Z2 := B1.trans (hb2.mono B1.size)
        have hz2 : Z1.heap.size ≤ Z2.heap.size := hb2.size
        have hsz2 := B1.size
        refine hK.out _ _ B2 (fun _ => ?_)
        clear hK K hH
        have HF2 : Hid (FrameO (fun b => Z1.heap.size ≤ b ∧ b < Z2.heap.size) Z2 (.agg cs) f) := FrameO.of hfv2 hfr2
        have HN2 : Hid (NodeC (fun b => Z0.heap.size ≤ b ∧ b < Z1.heap.size) Z2 nv1 s) := HN1.out.later (SameOn.of_size hb2)
        clear HN1
        clear hfv2 hfr2 hb2
        have hH := B2
        try simp only [Act.put]
        try simp only [List.setIfInBounds_toArray]
        try simp only [List.set_cons_zero, List.set_cons_succ]
        refine wpAnyH_ready (rs := [4, 5]) (by kernel_rfl) (by simp) ?_
        refine AllReadyH.cons rfl (fun K hK => ?_) (AllReadyH.cons rfl (fun K hK => ?_) AllReadyH.nil)
        · refine step_alloc_as (by rfl) (some 7) (by rfl) 41 (by rfl) zr hz0 ?_
          have gA3 := (Below.refl Z2.heap.size Z2).alloc (Nat.le_refl _) (.cells zr 41)
          have hz3 : Z2.heap.size + 1 ≤ (Z2.alloc (.cells zr 41)).heap.size ∧ (Z2.alloc (.cells zr 41)).heap.size ≤ Z2.heap.size + 1 := by rw [size_push]; omega
          have B3 : Below Z0.heap.size Z0 (Z2.alloc (.cells zr 41)) := B2.trans (gA3.mono B2.size)
          have hsz3 := B2.size
          refine hK.out _ _ B3 (fun _ => ?_)
          clear hK K hH
          have rA3 : (Z2.alloc (.cells zr 41)).heap[Z2.heap.size]? = some (.cells zr 41 (0, 0)) := heap_new _ _
          have HN3 : Hid (NodeC (fun b => Z0.heap.size ≤ b ∧ b < Z1.heap.size) (Z2.alloc (.cells zr 41)) nv1 s) := HN2.out.later (SameOn.of_size gA3)
          have HF3 : Hid (FrameO (fun b => Z1.heap.size ≤ b ∧ b < Z2.heap.size) (Z2.alloc (.cells zr 41)) (.agg cs) f) := HF2.out.later (SameOn.of_size gA3)
          clear HN2 HF2
          clear gA3
          generalize Z2.alloc (.cells zr 41) = Z3 at *
          have hH := B3
          try simp only [Act.put]
          try simp only [List.setIfInBounds_toArray]
          try simp only [List.set_cons_zero, List.set_cons_succ]
          refine wpAnyH_ready (rs := [5]) (by kernel_rfl) (by simp) ?_
          refine AllReadyH.cons rfl (fun K hK => ?_) AllReadyH.nil
          refine step_alloc_as (by rfl) (some 8) (by rfl) 43 (by rfl) #[.int .i64 0, .int .i64 0, .int .i64 0, .slice none 0 0, .slice none 0 0, .slice none 0 0, .slice none 0 0] Try.zeroFr ?_
          have gA4 := (Below.refl Z3.heap.size Z3).alloc (Nat.le_refl _) (.cells #[.int .i64 0, .int .i64 0, .int .i64 0, .slice none 0 0, .slice none 0 0, .slice none 0 0, .slice none 0 0] 43)
          have hz4 : Z3.heap.size + 1 ≤ (Z3.alloc (.cells #[.int .i64 0, .int .i64 0, .int .i64 0, .slice none 0 0, .slice none 0 0, .slice none 0 0, .slice none 0 0] 43)).heap.size ∧ (Z3.alloc (.cells #[.int .i64 0, .int .i64 0, .int .i64 0, .slice none 0 0, .slice none 0 0, .slice none 0 0, .slice none 0 0] 43)).heap.size ≤ Z3.heap.size + 1 := by rw [size_push]; omega
          have B4 : Below Z0.heap.size Z0 (Z3.alloc (.cells #[.int .i64 0, .int .i64 0, .int .i64 0, .slice none 0 0, .slice none 0 0, .slice none 0 0, .slice none 0 0] 43)) := B3.trans (gA4.mono B3.size)
          have hsz4 := B3.size
          refine hK.out _ _ B4 (fun _ => ?_)
          clear hK K hH
          have rD4 : (Z3.alloc (.cells #[.int .i64 0, .int .i64 0, .int .i64 0, .slice none 0 0, .slice none 0 0, .slice none 0 0, .slice none 0 0] 43)).heap[Z3.heap.size]? = some (.cells #[.int .i64 0, .int .i64 0, .int .i64 0, .slice none 0 0, .slice none 0 0, .slice none 0 0, .slice none 0 0] 43 (0, 0)) := heap_new _ _
          have rA4 : (Z3.alloc (.cells #[.int .i64 0, .int .i64 0, .int .i64 0, .slice none 0 0, .slice none 0 0, .slice none 0 0, .slice none 0 0] 43)).heap[Z2.heap.size]? = some (.cells zr 41 (0, 0)) := by rw [gA4.block _ (by omega)]; exact rA3
          have HN4 : Hid (NodeC (fun b => Z0.heap.size ≤ b ∧ b < Z1.heap.size) (Z3.alloc (.cells #[.int .i64 0, .int .i64 0, .int .i64 0, .slice none 0 0, .slice none 0 0, .slice none 0 0, .slice none 0 0] 43)) nv1 s) := HN3.out.later (SameOn.of_size gA4)
          have HF4 : Hid (FrameO (fun b => Z1.heap.size ≤ b ∧ b < Z2.heap.size) (Z3.alloc (.cells #[.int .i64 0, .int .i64 0, .int .i64 0, .slice none 0 0, .slice none 0 0, .slice none 0 0, .slice none 0 0] 43)) (.agg cs) f) := HF3.out.later (SameOn.of_size gA4)
          clear rA3 HN3 HF3
          clear gA4
          generalize Z3.alloc (.cells #[.int .i64 0, .int .i64 0, .int .i64 0, .slice none 0 0, .slice none 0 0, .slice none 0 0, .slice none 0 0] 43) = Z4 at *
          have hH := B4
          try simp only [Act.put]
          try simp only [List.setIfInBounds_toArray]
          try simp only [List.set_cons_zero, List.set_cons_succ]
          have hsa : (Try.prog.info? 41).map (·.size) = some fa.size := by rw [HFA.out, rowF_size]; exact Try.infoNode
          have hza : zr.size = fa.size := by rw [HFA.out, HZR.out, rowF_size, rowF_size]
          have hoa : fa.all (·.oneCell') = true := by rw [HFA.out]; exact rowF_all HN4.out.one
          have hsc : (Try.prog.info? 43).map (·.size) = some cs.size := by rw [HC7.out]; exact Try.infoFrame7
          have HT : Hid (Tk W s f (Z2.heap.size) (Z3.heap.size) nv1 cs ((Z4.setRow (Z2.heap.size) fa).setRow (Z3.heap.size) cs)) := by
            rw [HFA.out]
            exact Tk.mk' (by omega) (by omega) (by omega) rA4 rD4 (HN4.out.mono (fun b _ hb => by constructor <;> omega)) (HF4.out.mono (fun b _ hb => by constructor <;> omega)) HC7.out (hWd.trans (B4.mono (by omega)))
          have rD' : (Z4.setRow (Z2.heap.size) fa).heap[Z3.heap.size]? = some (.cells #[.int .i64 0, .int .i64 0, .int .i64 0, .slice none 0 0, .slice none 0 0, .slice none 0 0, .slice none 0 0] 43 (0, 0)) := by rw [setRow_other _ _ (by omega)]; exact rD4
          refine wpAnyH_ready (rs := [6]) (by kernel_rfl) (by simp) ?_
          refine AllReadyH.cons rfl (fun K hK => ?_) AllReadyH.nil
          refine step_store_row (by rfl) 41 _ _ (by rfl) (Z2.heap.size) fa (by rfl) (by rfl) 41 zr rA4 hsa hza hoa ?_
          refine hK.out _ _ (setRow_below B4 (by omega) _) (fun hH2 => ?_)
          clear hK K hH
          have hH := hH2
          clear hH2
          try simp only [Act.put]
          try simp only [List.setIfInBounds_toArray]
          try simp only [List.set_cons_zero, List.set_cons_succ]
          refine wpAnyH_ready (rs := [7]) (by kernel_rfl) (by simp) ?_
          refine AllReadyH.cons rfl (fun K hK => ?_) AllReadyH.nil
          refine step_store_row (by rfl) 43 _ _ (by rfl) (Z3.heap.size) cs (by rfl) (by rfl) 43 _ rD' hsc HC7.out.symm HCO.out ?_
          refine hK.out _ _ (setRow_below hH (by omega) _) (fun hH2 => ?_)
          clear hK K hH hH2 rD' rA4 rD4 HN4 HF4
          refine wpAnyH_done (by kernel_rfl) ?_ _
          go_wp2
          go_meet
          case rel => exact ⟨_, _, nv1, cs, rfl, rfl, HT⟩
        · refine step_alloc_as (by rfl) (some 8) (by rfl) 43 (by rfl) #[.int .i64 0, .int .i64 0, .int .i64 0, .slice none 0 0, .slice none 0 0, .slice none 0 0, .slice none 0 0] Try.zeroFr ?_
          have gA3 := (Below.refl Z2.heap.size Z2).alloc (Nat.le_refl _) (.cells #[.int .i64 0, .int .i64 0, .int .i64 0, .slice none 0 0, .slice none 0 0, .slice none 0 0, .slice none 0 0] 43)
          have hz3 : Z2.heap.size + 1 ≤ (Z2.alloc (.cells #[.int .i64 0, .int .i64 0, .int .i64 0, .slice none 0 0, .slice none 0 0, .slice none 0 0, .slice none 0 0] 43)).heap.size ∧ (Z2.alloc (.cells #[.int .i64 0, .int .i64 0, .int .i64 0, .slice none 0 0, .slice none 0 0, .slice none 0 0, .slice none 0 0] 43)).heap.size ≤ Z2.heap.size + 1 := by rw [size_push]; omega
          have B3 : Below Z0.heap.size Z0 (Z2.alloc (.cells #[.int .i64 0, .int .i64 0, .int .i64 0, .slice none 0 0, .slice none 0 0, .slice none 0 0, .slice none 0 0] 43)) := B2.trans (gA3.mono B2.size)
          have hsz3 := B2.size
          refine hK.out _ _ B3 (fun _ => ?_)
          clear hK K hH
          have rD3 : (Z2.alloc (.cells #[.int .i64 0, .int .i64 0, .int .i64 0, .slice none 0 0, .slice none 0 0, .slice none 0 0, .slice none 0 0] 43)).heap[Z2.heap.size]? = some (.cells #[.int .i64 0, .int .i64 0, .int .i64 0, .slice none 0 0, .slice none 0 0, .slice none 0 0, .slice none 0 0] 43 (0, 0)) := heap_new _ _
          have HN3 : Hid (NodeC (fun b => Z0.heap.size ≤ b ∧ b < Z1.heap.size) (Z2.alloc (.cells #[.int .i64 0, .int .i64 0, .int .i64 0, .slice none 0 0, .slice none 0 0, .slice none 0 0, .slice none 0 0] 43)) nv1 s) := HN2.out.later (SameOn.of_size gA3)
          have HF3 : Hid (FrameO (fun b => Z1.heap.size ≤ b ∧ b < Z2.heap.size) (Z2.alloc (.cells #[.int .i64 0, .int .i64 0, .int .i64 0, .slice none 0 0, .slice none 0 0, .slice none 0 0, .slice none 0 0] 43)) (.agg cs) f) := HF2.out.later (SameOn.of_size gA3)
          clear HN2 HF2
          clear gA3
          generalize Z2.alloc (.cells #[.int .i64 0, .int .i64 0, .int .i64 0, .slice none 0 0, .slice none 0 0, .slice none 0 0, .slice none 0 0] 43) = Z3 at *
          have hH := B3
          try simp only [Act.put]
          try simp only [List.setIfInBounds_toArray]
          try simp only [List.set_cons_zero, List.set_cons_succ]
          refine wpAnyH_ready (rs := [4]) (by kernel_rfl) (by simp) ?_
          refine AllReadyH.cons rfl (fun K hK => ?_) AllReadyH.nil
          refine step_alloc_as (by rfl) (some 7) (by rfl) 41 (by rfl) zr hz0 ?_
          have gA4 := (Below.refl Z3.heap.size Z3).alloc (Nat.le_refl _) (.cells zr 41)
          have hz4 : Z3.heap.size + 1 ≤ (Z3.alloc (.cells zr 41)).heap.size ∧ (Z3.alloc (.cells zr 41)).heap.size ≤ Z3.heap.size + 1 := by rw [size_push]; omega
          have B4 : Below Z0.heap.size Z0 (Z3.alloc (.cells zr 41)) := B3.trans (gA4.mono B3.size)
          have hsz4 := B3.size
          refine hK.out _ _ B4 (fun _ => ?_)
          clear hK K hH
          have rA4 : (Z3.alloc (.cells zr 41)).heap[Z3.heap.size]? = some (.cells zr 41 (0, 0)) := heap_new _ _
          have rD4 : (Z3.alloc (.cells zr 41)).heap[Z2.heap.size]? = some (.cells #[.int .i64 0, .int .i64 0, .int .i64 0, .slice none 0 0, .slice none 0 0, .slice none 0 0, .slice none 0 0] 43 (0, 0)) := by rw [gA4.block _ (by omega)]; exact rD3
          have HN4 : Hid (NodeC (fun b => Z0.heap.size ≤ b ∧ b < Z1.heap.size) (Z3.alloc (.cells zr 41)) nv1 s) := HN3.out.later (SameOn.of_size gA4)
          have HF4 : Hid (FrameO (fun b => Z1.heap.size ≤ b ∧ b < Z2.heap.size) (Z3.alloc (.cells zr 41)) (.agg cs) f) := HF3.out.later (SameOn.of_size gA4)
          clear rD3 HN3 HF3
          clear gA4
          generalize Z3.alloc (.cells zr 41) = Z4 at *
          have hH := B4
          try simp only [Act.put]
          try simp only [List.setIfInBounds_toArray]
          try simp only [List.set_cons_zero, List.set_cons_succ]
          have hsa : (Try.prog.info? 41).map (·.size) = some fa.size := by rw [HFA.out, rowF_size]; exact Try.infoNode
          have hza : zr.size = fa.size := by rw [HFA.out, HZR.out, rowF_size, rowF_size]
          have hoa : fa.all (·.oneCell') = true := by rw [HFA.out]; exact rowF_all HN4.out.one
          have hsc : (Try.prog.info? 43).map (·.size) = some cs.size := by rw [HC7.out]; exact Try.infoFrame7
          have HT : Hid (Tk W s f (Z3.heap.size) (Z2.heap.size) nv1 cs ((Z4.setRow (Z3.heap.size) fa).setRow (Z2.heap.size) cs)) := by
            rw [HFA.out]
            exact Tk.mk' (by omega) (by omega) (by omega) rA4 rD4 (HN4.out.mono (fun b _ hb => by constructor <;> omega)) (HF4.out.mono (fun b _ hb => by constructor <;> omega)) HC7.out (hWd.trans (B4.mono (by omega)))
          have rD' : (Z4.setRow (Z3.heap.size) fa).heap[Z2.heap.size]? = some (.cells #[.int .i64 0, .int .i64 0, .int .i64 0, .slice none 0 0, .slice none 0 0, .slice none 0 0, .slice none 0 0] 43 (0, 0)) := by rw [setRow_other _ _ (by omega)]; exact rD4
          refine wpAnyH_ready (rs := [6]) (by kernel_rfl) (by simp) ?_
          refine AllReadyH.cons rfl (fun K hK => ?_) AllReadyH.nil
          refine step_store_row (by rfl) 41 _ _ (by rfl) (Z3.heap.size) fa (by rfl) (by rfl) 41 zr rA4 hsa hza hoa ?_
          refine hK.out _ _ (setRow_below B4 (by omega) _) (fun hH2 => ?_)
          clear hK K hH
          have hH := hH2
          clear hH2
          try simp only [Act.put]
          try simp only [List.setIfInBounds_toArray]
          try simp only [List.set_cons_zero, List.set_cons_succ]
          refine wpAnyH_ready (rs := [7]) (by kernel_rfl) (by simp) ?_
          refine AllReadyH.cons rfl (fun K hK => ?_) AllReadyH.nil
          refine step_store_row (by rfl) 43 _ _ (by rfl) (Z2.heap.size) cs (by rfl) (by rfl) 43 _ rD' hsc HC7.out.symm HCO.out ?_
          refine hK.out _ _ (setRow_below hH (by omega) _) (fun hH2 => ?_)
          clear hK K hH hH2 rD' rA4 rD4 HN4 HF4
          refine wpAnyH_done (by kernel_rfl) ?_ _
          go_wp2
          go_meet
          case rel => exact ⟨_, _, nv1, cs, rfl, rfl, HT⟩
      · refine step_alloc_as (by rfl) (some 7) (by rfl) 41 (by rfl) zr hz0 ?_
        have gA2 := (Below.refl Z1.heap.size Z1).alloc (Nat.le_refl _) (.cells zr 41)
        have hz2 : Z1.heap.size + 1 ≤ (Z1.alloc (.cells zr 41)).heap.size ∧ (Z1.alloc (.cells zr 41)).heap.size ≤ Z1.heap.size + 1 := by rw [size_push]; omega
        have B2 : Below Z0.heap.size Z0 (Z1.alloc (.cells zr 41)) := B1.trans (gA2.mono B1.size)
        have hsz2 := B1.size
        refine hK.out _ _ B2 (fun _ => ?_)
        clear hK K hH
        have rA2 : (Z1.alloc (.cells zr 41)).heap[Z1.heap.size]? = some (.cells zr 41 (0, 0)) := heap_new _ _
        have HN2 : Hid (NodeC (fun b => Z0.heap.size ≤ b ∧ b < Z1.heap.size) (Z1.alloc (.cells zr 41)) nv1 s) := HN1.out.later (SameOn.of_size gA2)
        clear HN1
        clear gA2
        generalize Z1.alloc (.cells zr 41) = Z2 at *
        have hH := B2
        try simp only [Act.put]
        try simp only [List.setIfInBounds_toArray]
        try simp only [List.set_cons_zero, List.set_cons_succ]
        refine wpAnyH_ready (rs := [3, 5]) (by kernel_rfl) (by simp) ?_
        refine AllReadyH.cons rfl (fun K hK => ?_) (AllReadyH.cons rfl (fun K hK => ?_) AllReadyH.nil)
        · go_simp
          refine (lawFrame_new _ f Z2 (HFV.out Z2 (hbd.trans (B2.mono (by omega)))) HRm.out.1.1 HRm.out.1.2 HRm.out.2.1 HRm.out.2.2).mono ?_
          rintro r Z3 ⟨vc, rfl, hfv3, hfr3, hb3⟩
          obtain ⟨cs, rfl, hc7, hco⟩ := frame_cells hfv3
          have HC7 : Hid (cs.size = 7) := hc7
          have HCO : Hid (cs.all (·.oneCell') = true) := hco
          clear hc7 hco
          go_wp2_with fail
          have B3 : Below Z0.heap.size Z0 Z3 := B2.trans (hb3.mono B2.size)
          have hz3 : Z2.heap.size ≤ Z3.heap.size := hb3.size
          have hsz3 := B2.size
          refine hK.out _ _ B3 (fun _ => ?_)
          clear hK K hH
          have HF3 : Hid (FrameO (fun b => Z2.heap.size ≤ b ∧ b < Z3.heap.size) Z3 (.agg cs) f) := FrameO.of hfv3 hfr3
          have rA3 : Z3.heap[Z1.heap.size]? = some (.cells zr 41 (0, 0)) := by rw [hb3.block _ (by omega)]; exact rA2
          have HN3 : Hid (NodeC (fun b => Z0.heap.size ≤ b ∧ b < Z1.heap.size) Z3 nv1 s) := HN2.out.later (SameOn.of_size hb3)
          clear rA2 HN2
          clear hfv3 hfr3 hb3
          have hH := B3
          try simp only [Act.put]
          try simp only [List.setIfInBounds_toArray]
          try simp only [List.set_cons_zero, List.set_cons_succ]
          refine wpAnyH_ready (rs := [5]) (by kernel_rfl) (by simp) ?_
          refine AllReadyH.cons rfl (fun K hK => ?_) AllReadyH.nil
          refine step_alloc_as (by rfl) (some 8) (by rfl) 43 (by rfl) #[.int .i64 0, .int .i64 0, .int .i64 0, .slice none 0 0, .slice none 0 0, .slice none 0 0, .slice none 0 0] Try.zeroFr ?_
          have gA4 := (Below.refl Z3.heap.size Z3).alloc (Nat.le_refl _) (.cells #[.int .i64 0, .int .i64 0, .int .i64 0, .slice none 0 0, .slice none 0 0, .slice none 0 0, .slice none 0 0] 43)
          have hz4 : Z3.heap.size + 1 ≤ (Z3.alloc (.cells #[.int .i64 0, .int .i64 0, .int .i64 0, .slice none 0 0, .slice none 0 0, .slice none 0 0, .slice none 0 0] 43)).heap.size ∧ (Z3.alloc (.cells #[.int .i64 0, .int .i64 0, .int .i64 0, .slice none 0 0, .slice none 0 0, .slice none 0 0, .slice none 0 0] 43)).heap.size ≤ Z3.heap.size + 1 := by rw [size_push]; omega
          have B4 : Below Z0.heap.size Z0 (Z3.alloc (.cells #[.int .i64 0, .int .i64 0, .int .i64 0, .slice none 0 0, .slice none 0 0, .slice none 0 0, .slice none 0 0] 43)) := B3.trans (gA4.mono B3.size)
          have hsz4 := B3.size
          refine hK.out _ _ B4 (fun _ => ?_)
          clear hK K hH
          have rD4 : (Z3.alloc (.cells #[.int .i64 0, .int .i64 0, .int .i64 0, .slice none 0 0, .slice none 0 0, .slice none 0 0, .slice none 0 0] 43)).heap[Z3.heap.size]? = some (.cells #[.int .i64 0, .int .i64 0, .int .i64 0, .slice none 0 0, .slice none 0 0, .slice none 0 0, .slice none 0 0] 43 (0, 0)) := heap_new _ _
          have rA4 : (Z3.alloc (.cells #[.int .i64 0, .int .i64 0, .int .i64 0, .slice none 0 0, .slice none 0 0, .slice none 0 0, .slice none 0 0] 43)).heap[Z1.heap.size]? = some (.cells zr 41 (0, 0)) := by rw [gA4.block _ (by omega)]; exact rA3
          have HN4 : Hid (NodeC (fun b => Z0.heap.size ≤ b ∧ b < Z1.heap.size) (Z3.alloc (.cells #[.int .i64 0, .int .i64 0, .int .i64 0, .slice none 0 0, .slice none 0 0, .slice none 0 0, .slice none 0 0] 43)) nv1 s) := HN3.out.later (SameOn.of_size gA4)
          have HF4 : Hid (FrameO (fun b => Z2.heap.size ≤ b ∧ b < Z3.heap.size) (Z3.alloc (.cells #[.int .i64 0, .int .i64 0, .int .i64 0, .slice none 0 0, .slice none 0 0, .slice none 0 0, .slice none 0 0] 43)) (.agg cs) f) := HF3.out.later (SameOn.of_size gA4)
          clear rA3 HN3 HF3
          clear gA4
          generalize Z3.alloc (.cells #[.int .i64 0, .int .i64 0, .int .i64 0, .slice none 0 0, .slice none 0 0, .slice none 0 0, .slice none 0 0] 43) = Z4 at *
          have hH := B4
          try simp only [Act.put]
          try simp only [List.setIfInBounds_toArray]
          try simp only [List.set_cons_zero, List.set_cons_succ]
          have hsa : (Try.prog.info? 41).map (·.size) = some fa.size := by rw [HFA.out, rowF_size]; exact Try.infoNode
          have hza : zr.size = fa.size := by rw [HFA.out, HZR.out, rowF_size, rowF_size]
          have hoa : fa.all (·.oneCell') = true := by rw [HFA.out]; exact rowF_all HN4.out.one
          have hsc : (Try.prog.info? 43).map (·.size) = some cs.size := by rw [HC7.out]; exact Try.infoFrame7
          have HT : Hid (Tk W s f (Z1.heap.size) (Z3.heap.size) nv1 cs ((Z4.setRow (Z1.heap.size) fa).setRow (Z3.heap.size) cs)) := by
            rw [HFA.out]
            exact Tk.mk' (by omega) (by omega) (by omega) rA4 rD4 (HN4.out.mono (fun b _ hb => by constructor <;> omega)) (HF4.out.mono (fun b _ hb => by constructor <;> omega)) HC7.out (hWd.trans (B4.mono (by omega)))
          have rD' : (Z4.setRow (Z1.heap.size) fa).heap[Z3.heap.size]? = some (.cells #[.int .i64 0, .int .i64 0, .int .i64 0, .slice none 0 0, .slice none 0 0, .slice none 0 0, .slice none 0 0] 43 (0, 0)) := by rw [setRow_other _ _ (by omega)]; exact rD4
          refine wpAnyH_ready (rs := [6]) (by kernel_rfl) (by simp) ?_
          refine AllReadyH.cons rfl (fun K hK => ?_) AllReadyH.nil
          refine step_store_row (by rfl) 41 _ _ (by rfl) (Z1.heap.size) fa (by rfl) (by rfl) 41 zr rA4 hsa hza hoa ?_
          refine hK.out _ _ (setRow_below B4 (by omega) _) (fun hH2 => ?_)
          clear hK K hH
          have hH := hH2
          clear hH2
          try simp only [Act.put]
          try simp only [List.setIfInBounds_toArray]
          try simp only [List.set_cons_zero, List.set_cons_succ]
          refine wpAnyH_ready (rs := [7]) (by kernel_rfl) (by simp) ?_
          refine AllReadyH.cons rfl (fun K hK => ?_) AllReadyH.nil
          refine step_store_row (by rfl) 43 _ _ (by rfl) (Z3.heap.size) cs (by rfl) (by rfl) 43 _ rD' hsc HC7.out.symm HCO.out ?_
          refine hK.out _ _ (setRow_below hH (by omega) _) (fun hH2 => ?_)
          clear hK K hH hH2 rD' rA4 rD4 HN4 HF4
          refine wpAnyH_done (by kernel_rfl) ?_ _
          go_wp2
          go_meet
          case rel => exact ⟨_, _, nv1, cs, rfl, rfl, HT⟩
        · refine step_alloc_as (by rfl) (some 8) (by rfl) 43 (by rfl) #[.int .i64 0, .int .i64 0, .int .i64 0, .slice none 0 0, .slice none 0 0, .slice none 0 0, .slice none 0 0] Try.zeroFr ?_
          have gA3 := (Below.refl Z2.heap.size Z2).alloc (Nat.le_refl _) (.cells #[.int .i64 0, .int .i64 0, .int .i64 0, .slice none 0 0, .slice none 0 0, .slice none 0 0, .slice none 0 0] 43)
          have hz3 : Z2.heap.size + 1 ≤ (Z2.alloc (.cells #[.int .i64 0, .int .i64 0, .int .i64 0, .slice none 0 0, .slice none 0 0, .slice none 0 0, .slice none 0 0] 43)).heap.size ∧ (Z2.alloc (.cells #[.int .i64 0, .int .i64 0, .int .i64 0, .slice none 0 0, .slice none 0 0, .slice none 0 0, .slice none 0 0] 43)).heap.size ≤ Z2.heap.size + 1 := by rw [size_push]; omega
          have B3 : Below Z0.heap.size Z0 (Z2.alloc (.cells #[.int .i64 0, .int .i64 0, .int .i64 0, .slice none 0 0, .slice none 0 0, .slice none 0 0, .slice none 0 0] 43)) := B2.trans (gA3.mono B2.size)
          have hsz3 := B2.size
          refine hK.out _ _ B3 (fun _ => ?_)
          clear hK K hH
          have rD3 : (Z2.alloc (.cells #[.int .i64 0, .int .i64 0, .int .i64 0, .slice none 0 0, .slice none 0 0, .slice none 0 0, .slice none 0 0] 43)).heap[Z2.heap.size]? = some (.cells #[.int .i64 0, .int .i64 0, .int .i64 0, .slice none 0 0, .slice none 0 0, .slice none 0 0, .slice none 0 0] 43 (0, 0)) := heap_new _ _
          have rA3 : (Z2.alloc (.cells #[.int .i64 0, .int .i64 0, .int .i64 0, .slice none 0 0, .slice none 0 0, .slice none 0 0, .slice none 0 0] 43)).heap[Z1.heap.size]? = some (.cells zr 41 (0, 0)) := by rw [gA3.block _ (by omega)]; exact rA2
          have HN3 : Hid (NodeC (fun b => Z0.heap.size ≤ b ∧ b < Z1.heap.size) (Z2.alloc (.cells #[.int .i64 0, .int .i64 0, .int .i64 0, .slice none 0 0, .slice none 0 0, .slice none 0 0, .slice none 0 0] 43)) nv1 s) := HN2.out.later (SameOn.of_size gA3)
          clear rA2 HN2
          clear gA3
          generalize Z2.alloc (.cells #[.int .i64 0, .int .i64 0, .int .i64 0, .slice none 0 0, .slice none 0 0, .slice none 0 0, .slice none 0 0] 43) = Z3 at *
          have hH := B3
          try simp only [Act.put]
          try simp only [List.setIfInBounds_toArray]
          try simp only [List.set_cons_zero, List.set_cons_succ]
          refine wpAnyH_ready (rs := [3]) (by kernel_rfl) (by simp) ?_
          refine AllReadyH.cons rfl (fun K hK => ?_) AllReadyH.nil
          go_simp
          refine (lawFrame_new _ f Z3 (HFV.out Z3 (hbd.trans (B3.mono (by omega)))) HRm.out.1.1 HRm.out.1.2 HRm.out.2.1 HRm.out.2.2).mono ?_
          rintro r Z4 ⟨vc, rfl, hfv4, hfr4, hb4⟩
          obtain ⟨cs, rfl, hc7, hco⟩ := frame_cells hfv4
          have HC7 : Hid (cs.size = 7) := hc7
          have HCO : Hid (cs.all (·.oneCell') = true) := hco
          clear hc7 hco
          go_wp2_with fail
          have B4 : Below Z0.heap.size Z0 Z4 := B3.trans (hb4.mono B3.size)
          have hz4 : Z3.heap.size ≤ Z4.heap.size := hb4.size
          have hsz4 := B3.size
          refine hK.out _ _ B4 (fun _ => ?_)
          clear hK K hH
          have HF4 : Hid (FrameO (fun b => Z3.heap.size ≤ b ∧ b < Z4.heap.size) Z4 (.agg cs) f) := FrameO.of hfv4 hfr4
          have rA4 : Z4.heap[Z1.heap.size]? = some (.cells zr 41 (0, 0)) := by rw [hb4.block _ (by omega)]; exact rA3
          have rD4 : Z4.heap[Z2.heap.size]? = some (.cells #[.int .i64 0, .int .i64 0, .int .i64 0, .slice none 0 0, .slice none 0 0, .slice none 0 0, .slice none 0 0] 43 (0, 0)) := by rw [hb4.block _ (by omega)]; exact rD3
          have HN4 : Hid (NodeC (fun b => Z0.heap.size ≤ b ∧ b < Z1.heap.size) Z4 nv1 s) := HN3.out.later (SameOn.of_size hb4)
          clear rA3 rD3 HN3
          clear hfv4 hfr4 hb4
          have hH := B4
          try simp only [Act.put]
          try simp only [List.setIfInBounds_toArray]
          try simp only [List.set_cons_zero, List.set_cons_succ]
          have hsa : (Try.prog.info? 41).map (·.size) = some fa.size := by rw [HFA.out, rowF_size]; exact Try.infoNode
          have hza : zr.size = fa.size := by rw [HFA.out, HZR.out, rowF_size, rowF_size]
          have hoa : fa.all (·.oneCell') = true := by rw [HFA.out]; exact rowF_all HN4.out.one
          have hsc : (Try.prog.info? 43).map (·.size) = some cs.size := by rw [HC7.out]; exact Try.infoFrame7
          have HT : Hid (Tk W s f (Z1.heap.size) (Z2.heap.size) nv1 cs ((Z4.setRow (Z1.heap.size) fa).setRow (Z2.heap.size) cs)) := by
            rw [HFA.out]
            exact Tk.mk' (by omega) (by omega) (by omega) rA4 rD4 (HN4.out.mono (fun b _ hb => by constructor <;> omega)) (HF4.out.mono (fun b _ hb => by constructor <;> omega)) HC7.out (hWd.trans (B4.mono (by omega)))
          have rD' : (Z4.setRow (Z1.heap.size) fa).heap[Z2.heap.size]? = some (.cells #[.int .i64 0, .int .i64 0, .int .i64 0, .slice none 0 0, .slice none 0 0, .slice none 0 0, .slice none 0 0] 43 (0, 0)) := by rw [setRow_other _ _ (by omega)]; exact rD4
          refine wpAnyH_ready (rs := [6]) (by kernel_rfl) (by simp) ?_
          refine AllReadyH.cons rfl (fun K hK => ?_) AllReadyH.nil
          refine step_store_row (by rfl) 41 _ _ (by rfl) (Z1.heap.size) fa (by rfl) (by rfl) 41 zr rA4 hsa hza hoa ?_
          refine hK.out _ _ (setRow_below B4 (by omega) _) (fun hH2 => ?_)
          clear hK K hH
          have hH := hH2
          clear hH2
          try simp only [Act.put]
          try simp only [List.setIfInBounds_toArray]
          try simp only [List.set_cons_zero, List.set_cons_succ]
          refine wpAnyH_ready (rs := [7]) (by kernel_rfl) (by simp) ?_
          refine AllReadyH.cons rfl (fun K hK => ?_) AllReadyH.nil
          refine step_store_row (by rfl) 43 _ _ (by rfl) (Z2.heap.size) cs (by rfl) (by rfl) 43 _ rD' hsc HC7.out.symm HCO.out ?_
          refine hK.out _ _ (setRow_below hH (by omega) _) (fun hH2 => ?_)
          clear hK K hH hH2 rD' rA4 rD4 HN4 HF4
          refine wpAnyH_done (by kernel_rfl) ?_ _
          go_wp2
          go_meet
          case rel => exact ⟨_, _, nv1, cs, rfl, rfl, HT⟩
      · refine step_alloc_as (by rfl) (some 8) (by rfl) 43 (by rfl) #[.int .i64 0, .int .i64 0, .int .i64 0, .slice none 0 0, .slice none 0 0, .slice none 0 0, .slice none 0 0] Try.zeroFr ?_
        have gA2 := (Below.refl Z1.heap.size Z1).alloc (Nat.le_refl _) (.cells #[.int .i64 0, .int .i64 0, .int .i64 0, .slice none 0 0, .slice none 0 0, .slice none 0 0, .slice none 0 0] 43)
        have hz2 : Z1.heap.size + 1 ≤ (Z1.alloc (.cells #[.int .i64 0, .int .i64 0, .int .i64 0, .slice none 0 0, .slice none 0 0, .slice none 0 0, .slice none 0 0] 43)).heap.size ∧ (Z1.alloc (.cells #[.int .i64 0, .int .i64 0, .int .i64 0, .slice none 0 0, .slice none 0 0, .slice none 0 0, .slice none 0 0] 43)).heap.size ≤ Z1.heap.size + 1 := by rw [size_push]; omega
        have B2 : Below Z0.heap.size Z0 (Z1.alloc (.cells #[.int .i64 0, .int .i64 0, .int .i64 0, .slice none 0 0, .slice none 0 0, .slice none 0 0, .slice none 0 0] 43)) := B1.trans (gA2.mono B1.size)
        have hsz2 := B1.size
        refine hK.out _ _ B2 (fun _ => ?_)
        clear hK K hH
        have rD2 : (Z1.alloc (.cells #[.int .i64 0, .int .i64 0, .int .i64 0, .slice none 0 0, .slice none 0 0, .slice none 0 0, .slice none 0 0] 43)).heap[Z1.heap.size]? = some (.cells #[.int .i64 0, .int .i64 0, .int .i64 0, .slice none 0 0, .slice none 0 0, .slice none 0 0, .slice none 0 0] 43 (0, 0)) := heap_new _ _
        have HN2 : Hid (NodeC (fun b => Z0.heap.size ≤ b ∧ b < Z1.heap.size) (Z1.alloc (.cells #[.int .i64 0, .int .i64 0, .int .i64 0, .slice none 0 0, .slice none 0 0, .slice none 0 0, .slice none 0 0] 43)) nv1 s) := HN1.out.later (SameOn.of_size gA2)
        clear HN1
        clear gA2
        generalize Z1.alloc (.cells #[.int .i64 0, .int .i64 0, .int .i64 0, .slice none 0 0, .slice none 0 0, .slice none 0 0, .slice none 0 0] 43) = Z2 at *
        have hH := B2
        try simp only [Act.put]
        try simp only [List.setIfInBounds_toArray]
        try simp only [List.set_cons_zero, List.set_cons_succ]
        refine wpAnyH_ready (rs := [3, 4]) (by kernel_rfl) (by simp) ?_
        refine AllReadyH.cons rfl (fun K hK => ?_) (AllReadyH.cons rfl (fun K hK => ?_) AllReadyH.nil)
        · go_simp
          refine (lawFrame_new _ f Z2 (HFV.out Z2 (hbd.trans (B2.mono (by omega)))) HRm.out.1.1 HRm.out.1.2 HRm.out.2.1 HRm.out.2.2).mono ?_
          rintro r Z3 ⟨vc, rfl, hfv3, hfr3, hb3⟩
          obtain ⟨cs, rfl, hc7, hco⟩ := frame_cells hfv3
          have HC7 : Hid (cs.size = 7) := hc7
          have HCO : Hid (cs.all (·.oneCell') = true) := hco
          clear hc7 hco
          go_wp2_with fail
          have B3 : Below Z0.heap.size Z0 Z3 := B2.trans (hb3.mono B2.size)
          have hz3 : Z2.heap.size ≤ Z3.heap.size := hb3.size
          have hsz3 := B2.size
          refine hK.out _ _ B3 (fun _ => ?_)
          clear hK K hH
          have HF3 : Hid (FrameO (fun b => Z2.heap.size ≤ b ∧ b < Z3.heap.size) Z3 (.agg cs) f) := FrameO.of hfv3 hfr3
          have rD3 : Z3.heap[Z1.heap.size]? = some (.cells #[.int .i64 0, .int .i64 0, .int .i64 0, .slice none 0 0, .slice none 0 0, .slice none 0 0, .slice none 0 0] 43 (0, 0)) := by rw [hb3.block _ (by omega)]; exact rD2
          have HN3 : Hid (NodeC (fun b => Z0.heap.size ≤ b ∧ b < Z1.heap.size) Z3 nv1 s) := HN2.out.later (SameOn.of_size hb3)
          clear rD2 HN2
          clear hfv3 hfr3 hb3
          have hH := B3
          try simp only [Act.put]
          try simp only [List.setIfInBounds_toArray]
          try simp only [List.set_cons_zero, List.set_cons_succ]
          refine wpAnyH_ready (rs := [4]) (by kernel_rfl) (by simp) ?_
          refine AllReadyH.cons rfl (fun K hK => ?_) AllReadyH.nil
          refine step_alloc_as (by rfl) (some 7) (by rfl) 41 (by rfl) zr hz0 ?_
          have gA4 := (Below.refl Z3.heap.size Z3).alloc (Nat.le_refl _) (.cells zr 41)
          have hz4 : Z3.heap.size + 1 ≤ (Z3.alloc (.cells zr 41)).heap.size ∧ (Z3.alloc (.cells zr 41)).heap.size ≤ Z3.heap.size + 1 := by rw [size_push]; omega
          have B4 : Below Z0.heap.size Z0 (Z3.alloc (.cells zr 41)) := B3.trans (gA4.mono B3.size)
          have hsz4 := B3.size
          refine hK.out _ _ B4 (fun _ => ?_)
          clear hK K hH
          have rA4 : (Z3.alloc (.cells zr 41)).heap[Z3.heap.size]? = some (.cells zr 41 (0, 0)) := heap_new _ _
          have rD4 : (Z3.alloc (.cells zr 41)).heap[Z1.heap.size]? = some (.cells #[.int .i64 0, .int .i64 0, .int .i64 0, .slice none 0 0, .slice none 0 0, .slice none 0 0, .slice none 0 0] 43 (0, 0)) := by rw [gA4.block _ (by omega)]; exact rD3
          have HN4 : Hid (NodeC (fun b => Z0.heap.size ≤ b ∧ b < Z1.heap.size) (Z3.alloc (.cells zr 41)) nv1 s) := HN3.out.later (SameOn.of_size gA4)
          have HF4 : Hid (FrameO (fun b => Z2.heap.size ≤ b ∧ b < Z3.heap.size) (Z3.alloc (.cells zr 41)) (.agg cs) f) := HF3.out.later (SameOn.of_size gA4)
          clear rD3 HN3 HF3
          clear gA4
          generalize Z3.alloc (.cells zr 41) = Z4 at *
          have hH := B4
          try simp only [Act.put]
          try simp only [List.setIfInBounds_toArray]
          try simp only [List.set_cons_zero, List.set_cons_succ]
          have hsa : (Try.prog.info? 41).map (·.size) = some fa.size := by rw [HFA.out, rowF_size]; exact Try.infoNode
          have hza : zr.size = fa.size := by rw [HFA.out, HZR.out, rowF_size, rowF_size]
          have hoa : fa.all (·.oneCell') = true := by rw [HFA.out]; exact rowF_all HN4.out.one
          have hsc : (Try.prog.info? 43).map (·.size) = some cs.size := by rw [HC7.out]; exact Try.infoFrame7
          have HT : Hid (Tk W s f (Z3.heap.size) (Z1.heap.size) nv1 cs ((Z4.setRow (Z3.heap.size) fa).setRow (Z1.heap.size) cs)) := by
            rw [HFA.out]
            exact Tk.mk' (by omega) (by omega) (by omega) rA4 rD4 (HN4.out.mono (fun b _ hb => by constructor <;> omega)) (HF4.out.mono (fun b _ hb => by constructor <;> omega)) HC7.out (hWd.trans (B4.mono (by omega)))
          have rD' : (Z4.setRow (Z3.heap.size) fa).heap[Z1.heap.size]? = some (.cells #[.int .i64 0, .int .i64 0, .int .i64 0, .slice none 0 0, .slice none 0 0, .slice none 0 0, .slice none 0 0] 43 (0, 0)) := by rw [setRow_other _ _ (by omega)]; exact rD4
          refine wpAnyH_ready (rs := [6]) (by kernel_rfl) (by simp) ?_
          refine AllReadyH.cons rfl (fun K hK => ?_) AllReadyH.nil
          refine step_store_row (by rfl) 41 _ _ (by rfl) (Z3.heap.size) fa (by rfl) (by rfl) 41 zr rA4 hsa hza hoa ?_
          refine hK.out _ _ (setRow_below B4 (by omega) _) (fun hH2 => ?_)
          clear hK K hH
          have hH := hH2
          clear hH2
          try simp only [Act.put]
          try simp only [List.setIfInBounds_toArray]
          try simp only [List.set_cons_zero, List.set_cons_succ]
          refine wpAnyH_ready (rs := [7]) (by kernel_rfl) (by simp) ?_
          refine AllReadyH.cons rfl (fun K hK => ?_) AllReadyH.nil
          refine step_store_row (by rfl) 43 _ _ (by rfl) (Z1.heap.size) cs (by rfl) (by rfl) 43 _ rD' hsc HC7.out.symm HCO.out ?_
          refine hK.out _ _ (setRow_below hH (by omega) _) (fun hH2 => ?_)
          clear hK K hH hH2 rD' rA4 rD4 HN4 HF4
          refine wpAnyH_done (by kernel_rfl) ?_ _
          go_wp2
          go_meet
          case rel => exact ⟨_, _, nv1, cs, rfl, rfl, HT⟩
        · refine step_alloc_as (by rfl) (some 7) (by rfl) 41 (by rfl) zr hz0 ?_
          have gA3 := (Below.refl Z2.heap.size Z2).alloc (Nat.le_refl _) (.cells zr 41)
          have hz3 : Z2.heap.size + 1 ≤ (Z2.alloc (.cells zr 41)).heap.size ∧ (Z2.alloc (.cells zr 41)).heap.size ≤ Z2.heap.size + 1 := by rw [size_push]; omega
          have B3 : Below Z0.heap.size Z0 (Z2.alloc (.cells zr 41)) := B2.trans (gA3.mono B2.size)
          have hsz3 := B2.size
          refine hK.out _ _ B3 (fun _ => ?_)
          clear hK K hH
          have rA3 : (Z2.alloc (.cells zr 41)).heap[Z2.heap.size]? = some (.cells zr 41 (0, 0)) := heap_new _ _
          have rD3 : (Z2.alloc (.cells zr 41)).heap[Z1.heap.size]? = some (.cells #[.int .i64 0, .int .i64 0, .int .i64 0, .slice none 0 0, .slice none 0 0, .slice none 0 0, .slice none 0 0] 43 (0, 0)) := by rw [gA3.block _ (by omega)]; exact rD2
          have HN3 : Hid (NodeC (fun b => Z0.heap.size ≤ b ∧ b < Z1.heap.size) (Z2.alloc (.cells zr 41)) nv1 s) := HN2.out.later (SameOn.of_size gA3)
          clear rD2 HN2
          clear gA3
          generalize Z2.alloc (.cells zr 41) = Z3 at *
          have hH := B3
          try simp only [Act.put]
          try simp only [List.setIfInBounds_toArray]
          try simp only [List.set_cons_zero, List.set_cons_succ]
          refine wpAnyH_ready (rs := [3]) (by kernel_rfl) (by simp) ?_
          refine AllReadyH.cons rfl (fun K hK => ?_) AllReadyH.nil
          go_simp
          refine (lawFrame_new _ f Z3 (HFV.out Z3 (hbd.trans (B3.mono (by omega)))) HRm.out.1.1 HRm.out.1.2 HRm.out.2.1 HRm.out.2.2).mono ?_
          rintro r Z4 ⟨vc, rfl, hfv4, hfr4, hb4⟩
          obtain ⟨cs, rfl, hc7, hco⟩ := frame_cells hfv4
          have HC7 : Hid (cs.size = 7) := hc7
          have HCO : Hid (cs.all (·.oneCell') = true) := hco
          clear hc7 hco
          go_wp2_with fail
          have B4 : Below Z0.heap.size Z0 Z4 := B3.trans (hb4.mono B3.size)
          have hz4 : Z3.heap.size ≤ Z4.heap.size := hb4.size
          have hsz4 := B3.size
          refine hK.out _ _ B4 (fun _ => ?_)
          clear hK K hH
          have HF4 : Hid (FrameO (fun b => Z3.heap.size ≤ b ∧ b < Z4.heap.size) Z4 (.agg cs) f) := FrameO.of hfv4 hfr4
          have rA4 : Z4.heap[Z2.heap.size]? = some (.cells zr 41 (0, 0)) := by rw [hb4.block _ (by omega)]; exact rA3
          have rD4 : Z4.heap[Z1.heap.size]? = some (.cells #[.int .i64 0, .int .i64 0, .int .i64 0, .slice none 0 0, .slice none 0 0, .slice none 0 0, .slice none 0 0] 43 (0, 0)) := by rw [hb4.block _ (by omega)]; exact rD3
          have HN4 : Hid (NodeC (fun b => Z0.heap.size ≤ b ∧ b < Z1.heap.size) Z4 nv1 s) := HN3.out.later (SameOn.of_size hb4)
          clear rA3 rD3 HN3
          clear hfv4 hfr4 hb4
          have hH := B4
          try simp only [Act.put]
          try simp only [List.setIfInBounds_toArray]
          try simp only [List.set_cons_zero, List.set_cons_succ]
          have hsa : (Try.prog.info? 41).map (·.size) = some fa.size := by rw [HFA.out, rowF_size]; exact Try.infoNode
          have hza : zr.size = fa.size := by rw [HFA.out, HZR.out, rowF_size, rowF_size]
          have hoa : fa.all (·.oneCell') = true := by rw [HFA.out]; exact rowF_all HN4.out.one
          have hsc : (Try.prog.info? 43).map (·.size) = some cs.size := by rw [HC7.out]; exact Try.infoFrame7
          have HT : Hid (Tk W s f (Z2.heap.size) (Z1.heap.size) nv1 cs ((Z4.setRow (Z2.heap.size) fa).setRow (Z1.heap.size) cs)) := by
            rw [HFA.out]
            exact Tk.mk' (by omega) (by omega) (by omega) rA4 rD4 (HN4.out.mono (fun b _ hb => by constructor <;> omega)) (HF4.out.mono (fun b _ hb => by constructor <;> omega)) HC7.out (hWd.trans (B4.mono (by omega)))
          have rD' : (Z4.setRow (Z2.heap.size) fa).heap[Z1.heap.size]? = some (.cells #[.int .i64 0, .int .i64 0, .int .i64 0, .slice none 0 0, .slice none 0 0, .slice none 0 0, .slice none 0 0] 43 (0, 0)) := by rw [setRow_other _ _ (by omega)]; exact rD4
          refine wpAnyH_ready (rs := [6]) (by kernel_rfl) (by simp) ?_
          refine AllReadyH.cons rfl (fun K hK => ?_) AllReadyH.nil
          refine step_store_row (by rfl) 41 _ _ (by rfl) (Z2.heap.size) fa (by rfl) (by rfl) 41 zr rA4 hsa hza hoa ?_
          refine hK.out _ _ (setRow_below B4 (by omega) _) (fun hH2 => ?_)
          clear hK K hH
          have hH := hH2
          clear hH2
          try simp only [Act.put]
          try simp only [List.setIfInBounds_toArray]
          try simp only [List.set_cons_zero, List.set_cons_succ]
          refine wpAnyH_ready (rs := [7]) (by kernel_rfl) (by simp) ?_
          refine AllReadyH.cons rfl (fun K hK => ?_) AllReadyH.nil
          refine step_store_row (by rfl) 43 _ _ (by rfl) (Z1.heap.size) cs (by rfl) (by rfl) 43 _ rD' hsc HC7.out.symm HCO.out ?_
          refine hK.out _ _ (setRow_below hH (by omega) _) (fun hH2 => ?_)
          clear hK K hH hH2 rD' rA4 rD4 HN4 HF4
          refine wpAnyH_done (by kernel_rfl) ?_ _
          go_wp2
          go_meet
          case rel => exact ⟨_, _, nv1, cs, rfl, rfl, HT⟩
    · refine step_alloc_as (by rfl) (some 7) (by rfl) 41 (by rfl) zr hz0 ?_
      have gA1 := (Below.refl Z0.heap.size Z0).alloc (Nat.le_refl _) (.cells zr 41)
      have hz1 : Z0.heap.size + 1 ≤ (Z0.alloc (.cells zr 41)).heap.size ∧ (Z0.alloc (.cells zr 41)).heap.size ≤ Z0.heap.size + 1 := by rw [size_push]; omega
      have B1 : Below Z0.heap.size Z0 (Z0.alloc (.cells zr 41)) := B0.trans (gA1.mono B0.size)
      have hsz1 := B0.size
      refine hK.out _ _ B1 (fun _ => ?_)
      clear hK K hH
      have rA1 : (Z0.alloc (.cells zr 41)).heap[Z0.heap.size]? = some (.cells zr 41 (0, 0)) := heap_new _ _
      clear gA1
      generalize Z0.alloc (.cells zr 41) = Z1 at *
      have hH := B1
      try simp only [Act.put]
      try simp only [List.setIfInBounds_toArray]
      try simp only [List.set_cons_zero, List.set_cons_succ]
      refine wpAnyH_ready (rs := [1, 5]) (by kernel_rfl) (by simp) ?_
      refine AllReadyH.cons rfl (fun K hK => ?_) (AllReadyH.cons rfl (fun K hK => ?_) AllReadyH.nil)
      · go_simp
        have hcp2 := copyNode_any nv s Z1 (HN.out.below (hbd.trans (B1.mono (by omega))))
        rw [← HGR.out] at hcp2
        refine hcp2.mono ?_
        clear hcp2
        rintro r Z2 ⟨nv1, rfl, hap2, hb2⟩
        obtain ⟨fa, hfa⟩ : ∃ fa, fa = rowF 201 nv1 := ⟨_, rfl⟩
        rw [← hfa]
        have HFA : Hid (fa = rowF 201 nv1) := hfa
        clear hfa
        go_wp2_with fail
        have B2 : Below Z0.heap.size Z0 Z2 := B1.trans (hb2.mono B1.size)
        have hz2 : Z1.heap.size ≤ Z2.heap.size := hb2.size
        have hsz2 := B1.size
        refine hK.out _ _ B2 (fun _ => ?_)
        clear hK K hH
        have HN2 : Hid (NodeC (fun b => Z1.heap.size ≤ b ∧ b < Z2.heap.size) Z2 nv1 s) := hap2.c.mono (fun b hb hk => ⟨hk, hb⟩)
        have rA2 : Z2.heap[Z0.heap.size]? = some (.cells zr 41 (0, 0)) := by rw [hb2.block _ (by omega)]; exact rA1
        clear rA1
        clear hap2 hb2
        have hH := B2
        try simp only [Act.put]
        try simp only [List.setIfInBounds_toArray]
        try simp only [List.set_cons_zero, List.set_cons_succ]
        refine wpAnyH_ready (rs := [3, 5]) (by kernel_rfl) (by simp) ?_
        refine AllReadyH.cons rfl (fun K hK => ?_) (AllReadyH.cons rfl (fun K hK => ?_) AllReadyH.nil)
        · go_simp
          refine (lawFrame_new _ f Z2 (HFV.out Z2 (hbd.trans (B2.mono (by omega)))) HRm.out.1.1 HRm.out.1.2 HRm.out.2.1 HRm.out.2.2).mono ?_
          rintro r Z3 ⟨vc, rfl, hfv3, hfr3, hb3⟩
          obtain ⟨cs, rfl, hc7, hco⟩ := frame_cells hfv3
          have HC7 : Hid (cs.size = 7) := hc7
          have HCO : Hid (cs.all (·.oneCell') = true) := hco
          clear hc7 hco
          go_wp2_with fail
          have B3 : Below Z0.heap.size Z0 Z3 := B2.trans (hb3.mono B2.size)
          have hz3 : Z2.heap.size ≤ Z3.heap.size := hb3.size
          have hsz3 := B2.size
          refine hK.out _ _ B3 (fun _ => ?_)
          clear hK K hH
          have HF3 : Hid (FrameO (fun b => Z2.heap.size ≤ b ∧ b < Z3.heap.size) Z3 (.agg cs) f) := FrameO.of hfv3 hfr3
          have rA3 : Z3.heap[Z0.heap.size]? = some (.cells zr 41 (0, 0)) := by rw [hb3.block _ (by omega)]; exact rA2
          have HN3 : Hid (NodeC (fun b => Z1.heap.size ≤ b ∧ b < Z2.heap.size) Z3 nv1 s) := HN2.out.later (SameOn.of_size hb3)
          clear rA2 HN2
          clear hfv3 hfr3 hb3
          have hH := B3
          try simp only [Act.put]
          try simp only [List.setIfInBounds_toArray]
          try simp only [List.set_cons_zero, List.set_cons_succ]
          refine wpAnyH_ready (rs := [5]) (by kernel_rfl) (by simp) ?_
          refine AllReadyH.cons rfl (fun K hK => ?_) AllReadyH.nil
          refine step_alloc_as (by rfl) (some 8) (by rfl) 43 (by rfl) #[.int .i64 0, .int .i64 0, .int .i64 0, .slice none 0 0, .slice none 0 0, .slice none 0 0, .slice none 0 0] Try.zeroFr ?_
          have gA4 := (Below.refl Z3.heap.size Z3).alloc (Nat.le_refl _) (.cells #[.int .i64 0, .int .i64 0, .int .i64 0, .slice none 0 0, .slice none 0 0, .slice none 0 0, .slice none 0 0] 43)
          have hz4 : Z3.heap.size + 1 ≤ (Z3.alloc (.cells #[.int .i64 0, .int .i64 0, .int .i64 0, .slice none 0 0, .slice none 0 0, .slice none 0 0, .slice none 0 0] 43)).heap.size ∧ (Z3.alloc (.cells #[.int .i64 0, .int .i64 0, .int .i64 0, .slice none 0 0, .slice none 0 0, .slice none 0 0, .slice none 0 0] 43)).heap.size ≤ Z3.heap.size + 1 := by rw [size_push]; omega
          have B4 : Below Z0.heap.size Z0 (Z3.alloc (.cells #[.int .i64 0, .int .i64 0, .int .i64 0, .slice none 0 0, .slice none 0 0, .slice none 0 0, .slice none 0 0] 43)) := B3.trans (gA4.mono B3.size)
          have hsz4 := B3.size
          refine hK.out _ _ B4 (fun _ => ?_)
          clear hK K hH
          have rD4 : (Z3.alloc (.cells #[.int .i64 0, .int .i64 0, .int .i64 0, .slice none 0 0, .slice none 0 0, .slice none 0 0, .slice none 0 0] 43)).heap[Z3.heap.size]? = some (.cells #[.int .i64 0, .int .i64 0, .int .i64 0, .slice none 0 0, .slice none 0 0, .slice none 0 0, .slice none 0 0] 43 (0, 0)) := heap_new _ _
          have rA4 : (Z3.alloc (.cells #[.int .i64 0, .int .i64 0, .int .i64 0, .slice none 0 0, .slice none 0 0, .slice none 0 0, .slice none 0 0] 43)).heap[Z0.heap.size]? = some (.cells zr 41 (0, 0)) := by rw [gA4.block _ (by omega)]; exact rA3
          have HN4 : Hid (NodeC (fun b => Z1.heap.size ≤ b ∧ b < Z2.heap.size) (Z3.alloc (.cells #[.int .i64 0, .int .i64 0, .int .i64 0, .slice none 0 0, .slice none 0 0, .slice none 0 0, .slice none 0 0] 43)) nv1 s) := HN3.out.later (SameOn.of_size gA4)
          have HF4 : Hid (FrameO (fun b => Z2.heap.size ≤ b ∧ b < Z3.heap.size) (Z3.alloc (.cells #[.int .i64 0, .int .i64 0, .int .i64 0, .slice none 0 0, .slice none 0 0, .slice none 0 0, .slice none 0 0] 43)) (.agg cs) f) := HF3.out.later (SameOn.of_size gA4)
          clear rA3 HN3 HF3
          clear gA4
          generalize Z3.alloc (.cells #[.int .i64 0, .int .i64 0, .int .i64 0, .slice none 0 0, .slice none 0 0, .slice none 0 0, .slice none 0 0] 43) = Z4 at *
          have hH := B4
          try simp only [Act.put]
          try simp only [List.setIfInBounds_toArray]
          try simp only [List.set_cons_zero, List.set_cons_succ]
          have hsa : (Try.prog.info? 41).map (·.size) = some fa.size := by rw [HFA.out, rowF_size]; exact Try.infoNode
          have hza : zr.size = fa.size := by rw [HFA.out, HZR.out, rowF_size, rowF_size]
          have hoa : fa.all (·.oneCell') = true := by rw [HFA.out]; exact rowF_all HN4.out.one
          have hsc : (Try.prog.info? 43).map (·.size) = some cs.size := by rw [HC7.out]; exact Try.infoFrame7
          have HT : Hid (Tk W s f (Z0.heap.size) (Z3.heap.size) nv1 cs ((Z4.setRow (Z0.heap.size) fa).setRow (Z3.heap.size) cs)) := by
            rw [HFA.out]
            exact Tk.mk' (by omega) (by omega) (by omega) rA4 rD4 (HN4.out.mono (fun b _ hb => by constructor <;> omega)) (HF4.out.mono (fun b _ hb => by constructor <;> omega)) HC7.out (hWd.trans (B4.mono (by omega)))
          have rD' : (Z4.setRow (Z0.heap.size) fa).heap[Z3.heap.size]? = some (.cells #[.int .i64 0, .int .i64 0, .int .i64 0, .slice none 0 0, .slice none 0 0, .slice none 0 0, .slice none 0 0] 43 (0, 0)) := by rw [setRow_other _ _ (by omega)]; exact rD4
          refine wpAnyH_ready (rs := [6]) (by kernel_rfl) (by simp) ?_
          refine AllReadyH.cons rfl (fun K hK => ?_) AllReadyH.nil
          refine step_store_row (by rfl) 41 _ _ (by rfl) (Z0.heap.size) fa (by rfl) (by rfl) 41 zr rA4 hsa hza hoa ?_
          refine hK.out _ _ (setRow_below B4 (by omega) _) (fun hH2 => ?_)
          clear hK K hH
          have hH := hH2
          clear hH2
          try simp only [Act.put]
          try simp only [List.setIfInBounds_toArray]
          try simp only [List.set_cons_zero, List.set_cons_succ]
          refine wpAnyH_ready (rs := [7]) (by kernel_rfl) (by simp) ?_
          refine AllReadyH.cons rfl (fun K hK => ?_) AllReadyH.nil
          refine step_store_row (by rfl) 43 _ _ (by rfl) (Z3.heap.size) cs (by rfl) (by rfl) 43 _ rD' hsc HC7.out.symm HCO.out ?_
          refine hK.out _ _ (setRow_below hH (by omega) _) (fun hH2 => ?_)
          clear hK K hH hH2 rD' rA4 rD4 HN4 HF4
          refine wpAnyH_done (by kernel_rfl) ?_ _
          go_wp2
          go_meet
          case rel => exact ⟨_, _, nv1, cs, rfl, rfl, HT⟩
        · refine step_alloc_as (by rfl) (some 8) (by rfl) 43 (by rfl) #[.int .i64 0, .int .i64 0, .int .i64 0, .slice none 0 0, .slice none 0 0, .slice none 0 0, .slice none 0 0] Try.zeroFr ?_
          have gA3 := (Below.refl Z2.heap.size Z2).alloc (Nat.le_refl _) (.cells #[.int .i64 0, .int .i64 0, .int .i64 0, .slice none 0 0, .slice none 0 0, .slice none 0 0, .slice none 0 0] 43)
          have hz3 : Z2.heap.size + 1 ≤ (Z2.alloc (.cells #[.int .i64 0, .int .i64 0, .int .i64 0, .slice none 0 0, .slice none 0 0, .slice none 0 0, .slice none 0 0] 43)).heap.size ∧ (Z2.alloc (.cells #[.int .i64 0, .int .i64 0, .int .i64 0, .slice none 0 0, .slice none 0 0, .slice none 0 0, .slice none 0 0] 43)).heap.size ≤ Z2.heap.size + 1 := by rw [size_push]; omega
          have B3 : Below Z0.heap.size Z0 (Z2.alloc (.cells #[.int .i64 0, .int .i64 0, .int .i64 0, .slice none 0 0, .slice none 0 0, .slice none 0 0, .slice none 0 0] 43)) := B2.trans (gA3.mono B2.size)
          have hsz3 := B2.size
          refine hK.out _ _ B3 (fun _ => ?_)
          clear hK K hH
          have rD3 : (Z2.alloc (.cells #[.int .i64 0, .int .i64 0, .int .i64 0, .slice none 0 0, .slice none 0 0, .slice none 0 0, .slice none 0 0] 43)).heap[Z2.heap.size]? = some (.cells #[.int .i64 0, .int .i64 0, .int .i64 0, .slice none 0 0, .slice none 0 0, .slice none 0 0, .slice none 0 0] 43 (0, 0)) := heap_new _ _
          have rA3 : (Z2.alloc (.cells #[.int .i64 0, .int .i64 0, .int .i64 0, .slice none 0 0, .slice none 0 0, .slice none 0 0, .slice none 0 0] 43)).heap[Z0.heap.size]? = some (.cells zr 41 (0, 0)) := by rw [gA3.block _ (by omega)]; exact rA2
          have HN3 : Hid (NodeC (fun b => Z1.heap.size ≤ b ∧ b < Z2.heap.size) (Z2.alloc (.cells #[.int .i64 0, .int .i64 0, .int .i64 0, .slice none 0 0, .slice none 0 0, .slice none 0 0, .slice none 0 0] 43)) nv1 s) := HN2.out.later (SameOn.of_size gA3)
          clear rA2 HN2
          clear gA3
          generalize Z2.alloc (.cells #[.int .i64 0, .int .i64 0, .int .i64 0, .slice none 0 0, .slice none 0 0, .slice none 0 0, .slice none 0 0] 43) = Z3 at *
          have hH := B3
          try simp only [Act.put]
          try simp only [List.setIfInBounds_toArray]
          try simp only [List.set_cons_zero, List.set_cons_succ]
          refine wpAnyH_ready (rs := [3]) (by kernel_rfl) (by simp) ?_
          refine AllReadyH.cons rfl (fun K hK => ?_) AllReadyH.nil
          go_simp
          refine (lawFrame_new _ f Z3 (HFV.out Z3 (hbd.trans (B3.mono (by omega)))) HRm.out.1.1 HRm.out.1.2 HRm.out.2.1 HRm.out.2.2).mono ?_
          rintro r Z4 ⟨vc, rfl, hfv4, hfr4, hb4⟩
          obtain ⟨cs, rfl, hc7, hco⟩ := frame_cells hfv4
          have HC7 : Hid (cs.size = 7) := hc7
          have HCO : Hid (cs.all (·.oneCell') = true) := hco
          clear hc7 hco
          go_wp2_with fail
          have B4 : Below Z0.heap.size Z0 Z4 := B3.trans (hb4.mono B3.size)
          have hz4 : Z3.heap.size ≤ Z4.heap.size := hb4.size
          have hsz4 := B3.size
          refine hK.out _ _ B4 (fun _ => ?_)
          clear hK K hH
          have HF4 : Hid (FrameO (fun b => Z3.heap.size ≤ b ∧ b < Z4.heap.size) Z4 (.agg cs) f) := FrameO.of hfv4 hfr4
          have rA4 : Z4.heap[Z0.heap.size]? = some (.cells zr 41 (0, 0)) := by rw [hb4.block _ (by omega)]; exact rA3
          have rD4 : Z4.heap[Z2.heap.size]? = some (.cells #[.int .i64 0, .int .i64 0, .int .i64 0, .slice none 0 0, .slice none 0 0, .slice none 0 0, .slice none 0 0] 43 (0, 0)) := by rw [hb4.block _ (by omega)]; exact rD3
          have HN4 : Hid (NodeC (fun b => Z1.heap.size ≤ b ∧ b < Z2.heap.size) Z4 nv1 s) := HN3.out.later (SameOn.of_size hb4)
          clear rA3 rD3 HN3
          clear hfv4 hfr4 hb4
          have hH := B4
          try simp only [Act.put]
          try simp only [List.setIfInBounds_toArray]
          try simp only [List.set_cons_zero, List.set_cons_succ]
          have hsa : (Try.prog.info? 41).map (·.size) = some fa.size := by rw [HFA.out, rowF_size]; exact Try.infoNode
          have hza : zr.size = fa.size := by rw [HFA.out, HZR.out, rowF_size, rowF_size]
          have hoa : fa.all (·.oneCell') = true := by rw [HFA.out]; exact rowF_all HN4.out.one
          have hsc : (Try.prog.info? 43).map (·.size) = some cs.size := by rw [HC7.out]; exact Try.infoFrame7
          have HT : Hid (Tk W s f (Z0.heap.size) (Z2.heap.size) nv1 cs ((Z4.setRow (Z0.heap.size) fa).setRow (Z2.heap.size) cs)) := by
            rw [HFA.out]
            exact Tk.mk' (by omega) (by omega) (by omega) rA4 rD4 (HN4.out.mono (fun b _ hb => by constructor <;> omega)) (HF4.out.mono (fun b _ hb => by constructor <;> omega)) HC7.out (hWd.trans (B4.mono (by omega)))
          have rD' : (Z4.setRow (Z0.heap.size) fa).heap[Z2.heap.size]? = some (.cells #[.int .i64 0, .int .i64 0, .int .i64 0, .slice none 0 0, .slice none 0 0, .slice none 0 0, .slice none 0 0] 43 (0, 0)) := by rw [setRow_other _ _ (by omega)]; exact rD4
          refine wpAnyH_ready (rs := [6]) (by kernel_rfl) (by simp) ?_
          refine AllReadyH.cons rfl (fun K hK => ?_) AllReadyH.nil
          refine step_store_row (by rfl) 41 _ _ (by rfl) (Z0.heap.size) fa (by rfl) (by rfl) 41 zr rA4 hsa hza hoa ?_
          refine hK.out _ _ (setRow_below B4 (by omega) _) (fun hH2 => ?_)
          clear hK K hH
          have hH := hH2
          clear hH2
          try simp only [Act.put]
          try simp only [List.setIfInBounds_toArray]
          try simp only [List.set_cons_zero, List.set_cons_succ]
          refine wpAnyH_ready (rs := [7]) (by kernel_rfl) (by simp) ?_
          refine AllReadyH.cons rfl (fun K hK => ?_) AllReadyH.nil
          refine step_store_row (by rfl) 43 _ _ (by rfl) (Z2.heap.size) cs (by rfl) (by rfl) 43 _ rD' hsc HC7.out.symm HCO.out ?_
          refine hK.out _ _ (setRow_below hH (by omega) _) (fun hH2 => ?_)
          clear hK K hH hH2 rD' rA4 rD4 HN4 HF4
          refine wpAnyH_done (by kernel_rfl) ?_ _
          go_wp2
          go_meet
          case rel => exact ⟨_, _, nv1, cs, rfl, rfl, HT⟩
      · refine step_alloc_as (by rfl) (some 8) (by rfl) 43 (by rfl) #[.int .i64 0, .int .i64 0, .int .i64 0, .slice none 0 0, .slice none 0 0, .slice none 0 0, .slice none 0 0] Try.zeroFr ?_
        have gA2 := (Below.refl Z1.heap.size Z1).alloc (Nat.le_refl _) (.cells #[.int .i64 0, .int .i64 0, .int .i64 0, .slice none 0 0, .slice none 0 0, .slice none 0 0, .slice none 0 0] 43)
        have hz2 : Z1.heap.size + 1 ≤ (Z1.alloc (.cells #[.int .i64 0, .int .i64 0, .int .i64 0, .slice none 0 0, .slice none 0 0, .slice none 0 0, .slice none 0 0] 43)).heap.size ∧ (Z1.alloc (.cells #[.int .i64 0, .int .i64 0, .int .i64 0, .slice none 0 0, .slice none 0 0, .slice none 0 0, .slice none 0 0] 43)).heap.size ≤ Z1.heap.size + 1 := by rw [size_push]; omega
        have B2 : Below Z0.heap.size Z0 (Z1.alloc (.cells #[.int .i64 0, .int .i64 0, .int .i64 0, .slice none 0 0, .slice none 0 0, .slice none 0 0, .slice none 0 0] 43)) := B1.trans (gA2.mono B1.size)
        have hsz2 := B1.size
        refine hK.out _ _ B2 (fun _ => ?_)
        clear hK K hH
        have rD2 : (Z1.alloc (.cells #[.int .i64 0, .int .i64 0, .int .i64 0, .slice none 0 0, .slice none 0 0, .slice none 0 0, .slice none 0 0] 43)).heap[Z1.heap.size]? = some (.cells #[.int .i64 0, .int .i64 0, .int .i64 0, .slice none 0 0, .slice none 0 0, .slice none 0 0, .slice none 0 0] 43 (0, 0)) := heap_new _ _
        have rA2 : (Z1.alloc (.cells #[.int .i64 0, .int .i64 0, .int .i64 0, .slice none 0 0, .slice none 0 0, .slice none 0 0, .slice none 0 0] 43)).heap[Z0.heap.size]? = some (.cells zr 41 (0, 0)) := by rw [gA2.block _ (by omega)]; exact rA1
        clear rA1
        clear gA2
        generalize Z1.alloc (.cells #[.int .i64 0, .int .i64 0, .int .i64 0, .slice none 0 0, .slice none 0 0, .slice none 0 0, .slice none 0 0] 43) = Z2 at *
        have hH := B2
        try simp only [Act.put]
        try simp only [List.setIfInBounds_toArray]
        try simp only [List.set_cons_zero, List.set_cons_succ]
        refine wpAnyH_ready (rs := [1]) (by kernel_rfl) (by simp) ?_
        refine AllReadyH.cons rfl (fun K hK => ?_) AllReadyH.nil
        go_simp
        have hcp3 := copyNode_any nv s Z2 (HN.out.below (hbd.trans (B2.mono (by omega))))
        rw [← HGR.out] at hcp3
        refine hcp3.mono ?_
        clear hcp3
        rintro r Z3 ⟨nv1, rfl, hap3, hb3⟩
        obtain ⟨fa, hfa⟩ : ∃ fa, fa = rowF 201 nv1 := ⟨_, rfl⟩
        rw [← hfa]
        have HFA : Hid (fa = rowF 201 nv1) := hfa
        clear hfa
        go_wp2_with fail
        have B3 : Below Z0.heap.size Z0 Z3 := B2.trans (hb3.mono B2.size)
        have hz3 : Z2.heap.size ≤ Z3.heap.size := hb3.size
        have hsz3 := B2.size
        refine hK.out _ _ B3 (fun _ => ?_)
        clear hK K hH
        have HN3 : Hid (NodeC (fun b => Z2.heap.size ≤ b ∧ b < Z3.heap.size) Z3 nv1 s) := hap3.c.mono (fun b hb hk => ⟨hk, hb⟩)
        have rA3 : Z3.heap[Z0.heap.size]? = some (.cells zr 41 (0, 0)) := by rw [hb3.block _ (by omega)]; exact rA2
        have rD3 : Z3.heap[Z1.heap.size]? = some (.cells #[.int .i64 0, .int .i64 0, .int .i64 0, .slice none 0 0, .slice none 0 0, .slice none 0 0, .slice none 0 0] 43 (0, 0)) := by rw [hb3.block _ (by omega)]; exact rD2
        clear rA2 rD2
        clear hap3 hb3
        have hH := B3
        try simp only [Act.put]
        try simp only [List.setIfInBounds_toArray]
        try simp only [List.set_cons_zero, List.set_cons_succ]
        refine wpAnyH_ready (rs := [3]) (by kernel_rfl) (by simp) ?_
        refine AllReadyH.cons rfl (fun K hK => ?_) AllReadyH.nil
        go_simp
        refine (lawFrame_new _ f Z3 (HFV.out Z3 (hbd.trans (B3.mono (by omega)))) HRm.out.1.1 HRm.out.1.2 HRm.out.2.1 HRm.out.2.2).mono ?_
        rintro r Z4 ⟨vc, rfl, hfv4, hfr4, hb4⟩
        obtain ⟨cs, rfl, hc7, hco⟩ := frame_cells hfv4
        have HC7 : Hid (cs.size = 7) := hc7
        have HCO : Hid (cs.all (·.oneCell') = true) := hco
        clear hc7 hco
        go_wp2_with fail
        have B4 : Below Z0.heap.size Z0 Z4 := B3.trans (hb4.mono B3.size)
        have hz4 : Z3.heap.size ≤ Z4.heap.size := hb4.size
        have hsz4 := B3.size
        refine hK.out _ _ B4 (fun _ => ?_)
        clear hK K hH
        have HF4 : Hid (FrameO (fun b => Z3.heap.size ≤ b ∧ b < Z4.heap.size) Z4 (.agg cs) f) := FrameO.of hfv4 hfr4
        have rA4 : Z4.heap[Z0.heap.size]? = some (.cells zr 41 (0, 0)) := by rw [hb4.block _ (by omega)]; exact rA3
        have rD4 : Z4.heap[Z1.heap.size]? = some (.cells #[.int .i64 0, .int .i64 0, .int .i64 0, .slice none 0 0, .slice none 0 0, .slice none 0 0, .slice none 0 0] 43 (0, 0)) := by rw [hb4.block _ (by omega)]; exact rD3
        have HN4 : Hid (NodeC (fun b => Z2.heap.size ≤ b ∧ b < Z3.heap.size) Z4 nv1 s) := HN3.out.later (SameOn.of_size hb4)
        clear rA3 rD3 HN3
        clear hfv4 hfr4 hb4
        have hH := B4
        try simp only [Act.put]
        try simp only [List.setIfInBounds_toArray]
        try simp only [List.set_cons_zero, List.set_cons_succ]
        have hsa : (Try.prog.info? 41).map (·.size) = some fa.size := by rw [HFA.out, rowF_size]; exact Try.infoNode
        have hza : zr.size = fa.size := by rw [HFA.out, HZR.out, rowF_size, rowF_size]
        have hoa : fa.all (·.oneCell') = true := by rw [HFA.out]; exact rowF_all HN4.out.one
        have hsc : (Try.prog.info? 43).map (·.size) = some cs.size := by rw [HC7.out]; exact Try.infoFrame7
        have HT : Hid (Tk W s f (Z0.heap.size) (Z1.heap.size) nv1 cs ((Z4.setRow (Z0.heap.size) fa).setRow (Z1.heap.size) cs)) := by
          rw [HFA.out]
          exact Tk.mk' (by omega) (by omega) (by omega) rA4 rD4 (HN4.out.mono (fun b _ hb => by constructor <;> omega)) (HF4.out.mono (fun b _ hb => by constructor <;> omega)) HC7.out (hWd.trans (B4.mono (by omega)))
        have rD' : (Z4.setRow (Z0.heap.size) fa).heap[Z1.heap.size]? = some (.cells #[.int .i64 0, .int .i64 0, .int .i64 0, .slice none 0 0, .slice none 0 0, .slice none 0 0, .slice none 0 0] 43 (0, 0)) := by rw [setRow_other _ _ (by omega)]; exact rD4
        refine wpAnyH_ready (rs := [6]) (by kernel_rfl) (by simp) ?_
        refine AllReadyH.cons rfl (fun K hK => ?_) AllReadyH.nil
        refine step_store_row (by rfl) 41 _ _ (by rfl) (Z0.heap.size) fa (by rfl) (by rfl) 41 zr rA4 hsa hza hoa ?_
        refine hK.out _ _ (setRow_below B4 (by omega) _) (fun hH2 => ?_)
        clear hK K hH
        have hH := hH2
        clear hH2
        try simp only [Act.put]
        try simp only [List.setIfInBounds_toArray]
        try simp only [List.set_cons_zero, List.set_cons_succ]
        refine wpAnyH_ready (rs := [7]) (by kernel_rfl) (by simp) ?_
        refine AllReadyH.cons rfl (fun K hK => ?_) AllReadyH.nil
        refine step_store_row (by rfl) 43 _ _ (by rfl) (Z1.heap.size) cs (by rfl) (by rfl) 43 _ rD' hsc HC7.out.symm HCO.out ?_
        refine hK.out _ _ (setRow_below hH (by omega) _) (fun hH2 => ?_)
        clear hK K hH hH2 rD' rA4 rD4 HN4 HF4
        refine wpAnyH_done (by kernel_rfl) ?_ _
        go_wp2
        go_meet
        case rel => exact ⟨_, _, nv1, cs, rfl, rfl, HT⟩
    · refine step_alloc_as (by rfl) (some 8) (by rfl) 43 (by rfl) #[.int .i64 0, .int .i64 0, .int .i64 0, .slice none 0 0, .slice none 0 0, .slice none 0 0, .slice none 0 0] Try.zeroFr ?_
      have gA1 := (Below.refl Z0.heap.size Z0).alloc (Nat.le_refl _) (.cells #[.int .i64 0, .int .i64 0, .int .i64 0, .slice none 0 0, .slice none 0 0, .slice none 0 0, .slice none 0 0] 43)
      have hz1 : Z0.heap.size + 1 ≤ (Z0.alloc (.cells #[.int .i64 0, .int .i64 0, .int .i64 0, .slice none 0 0, .slice none 0 0, .slice none 0 0, .slice none 0 0] 43)).heap.size ∧ (Z0.alloc (.cells #[.int .i64 0, .int .i64 0, .int .i64 0, .slice none 0 0, .slice none 0 0, .slice none 0 0, .slice none 0 0] 43)).heap.size ≤ Z0.heap.size + 1 := by rw [size_push]; omega
      have B1 : Below Z0.heap.size Z0 (Z0.alloc (.cells #[.int .i64 0, .int .i64 0, .int .i64 0, .slice none 0 0, .slice none 0 0, .slice none 0 0, .slice none 0 0] 43)) := B0.trans (gA1.mono B0.size)
      have hsz1 := B0.size
      refine hK.out _ _ B1 (fun _ => ?_)
      clear hK K hH
      have rD1 : (Z0.alloc (.cells #[.int .i64 0, .int .i64 0, .int .i64 0, .slice none 0 0, .slice none 0 0, .slice none 0 0, .slice none 0 0] 43)).heap[Z0.heap.size]? = some (.cells #[.int .i64 0, .int .i64 0, .int .i64 0, .slice none 0 0, .slice none 0 0, .slice none 0 0, .slice none 0 0] 43 (0, 0)) := heap_new _ _
      clear gA1
      generalize Z0.alloc (.cells #[.int .i64 0, .int .i64 0, .int .i64 0, .slice none 0 0, .slice none 0 0, .slice none 0 0, .slice none 0 0] 43) = Z1 at *
      have hH := B1
      try simp only [Act.put]
      try simp only [List.setIfInBounds_toArray]
      try simp only [List.set_cons_zero, List.set_cons_succ]
      refine wpAnyH_ready (rs := [1, 4]) (by kernel_rfl) (by simp) ?_
      refine AllReadyH.cons rfl (fun K hK => ?_) (AllReadyH.cons rfl (fun K hK => ?_) AllReadyH.nil)
      · go_simp
        have hcp2 := copyNode_any nv s Z1 (HN.out.below (hbd.trans (B1.mono (by omega))))
        rw [← HGR.out] at hcp2
        refine hcp2.mono ?_
        clear hcp2
        rintro r Z2 ⟨nv1, rfl, hap2, hb2⟩
        obtain ⟨fa, hfa⟩ : ∃ fa, fa = rowF 201 nv1 := ⟨_, rfl⟩
        rw [← hfa]
        have HFA : Hid (fa = rowF 201 nv1) := hfa
        clear hfa
        go_wp2_with fail
        have B2 : Below Z0.heap.size Z0 Z2 := B1.trans (hb2.mono B1.size)
        have hz2 : Z1.heap.size ≤ Z2.heap.size := hb2.size
        have hsz2 := B1.size
        refine hK.out _ _ B2 (fun _ => ?_)
        clear hK K hH
        have HN2 : Hid (NodeC (fun b => Z1.heap.size ≤ b ∧ b < Z2.heap.size) Z2 nv1 s) := hap2.c.mono (fun b hb hk => ⟨hk, hb⟩)
        have rD2 : Z2.heap[Z0.heap.size]? = some (.cells #[.int .i64 0, .int .i64 0, .int .i64 0, .slice none 0 0, .slice none 0 0, .slice none 0 0, .slice none 0 0] 43 (0, 0)) := by rw [hb2.block _ (by omega)]; exact rD1
        clear rD1
        clear hap2 hb2
        have hH := B2
        try simp only [Act.put]
        try simp only [List.setIfInBounds_toArray]
        try simp only [List.set_cons_zero, List.set_cons_succ]
        refine wpAnyH_ready (rs := [3, 4]) (by kernel_rfl) (by simp) ?_
        refine AllReadyH.cons rfl (fun K hK => ?_) (AllReadyH.cons rfl (fun K hK => ?_) AllReadyH.nil)
        · go_simp
          refine (lawFrame_new _ f Z2 (HFV.out Z2 (hbd.trans (B2.mono (by omega)))) HRm.out.1.1 HRm.out.1.2 HRm.out.2.1 HRm.out.2.2).mono ?_
          rintro r Z3 ⟨vc, rfl, hfv3, hfr3, hb3⟩
          obtain ⟨cs, rfl, hc7, hco⟩ := frame_cells hfv3
          have HC7 : Hid (cs.size = 7) := hc7
          have HCO : Hid (cs.all (·.oneCell') = true) := hco
          clear hc7 hco
          go_wp2_with fail
          have B3 : Below Z0.heap.size Z0 Z3 := B2.trans (hb3.mono B2.size)
          have hz3 : Z2.heap.size ≤ Z3.heap.size := hb3.size
          have hsz3 := B2.size
          refine hK.out _ _ B3 (fun _ => ?_)
          clear hK K hH
          have HF3 : Hid (FrameO (fun b => Z2.heap.size ≤ b ∧ b < Z3.heap.size) Z3 (.agg cs) f) := FrameO.of hfv3 hfr3
          have rD3 : Z3.heap[Z0.heap.size]? = some (.cells #[.int .i64 0, .int .i64 0, .int .i64 0, .slice none 0 0, .slice none 0 0, .slice none 0 0, .slice none 0 0] 43 (0, 0)) := by rw [hb3.block _ (by omega)]; exact rD2
          have HN3 : Hid (NodeC (fun b => Z1.heap.size ≤ b ∧ b < Z2.heap.size) Z3 nv1 s) := HN2.out.later (SameOn.of_size hb3)
          clear rD2 HN2
          clear hfv3 hfr3 hb3
          have hH := B3
          try simp only [Act.put]
          try simp only [List.setIfInBounds_toArray]
          try simp only [List.set_cons_zero, List.set_cons_succ]
          refine wpAnyH_ready (rs := [4]) (by kernel_rfl) (by simp) ?_
          refine AllReadyH.cons rfl (fun K hK => ?_) AllReadyH.nil
          refine step_alloc_as (by rfl) (some 7) (by rfl) 41 (by rfl) zr hz0 ?_
          have gA4 := (Below.refl Z3.heap.size Z3).alloc (Nat.le_refl _) (.cells zr 41)
          have hz4 : Z3.heap.size + 1 ≤ (Z3.alloc (.cells zr 41)).heap.size ∧ (Z3.alloc (.cells zr 41)).heap.size ≤ Z3.heap.size + 1 := by rw [size_push]; omega
          have B4 : Below Z0.heap.size Z0 (Z3.alloc (.cells zr 41)) := B3.trans (gA4.mono B3.size)
          have hsz4 := B3.size
          refine hK.out _ _ B4 (fun _ => ?_)
          clear hK K hH
          have rA4 : (Z3.alloc (.cells zr 41)).heap[Z3.heap.size]? = some (.cells zr 41 (0, 0)) := heap_new _ _
          have rD4 : (Z3.alloc (.cells zr 41)).heap[Z0.heap.size]? = some (.cells #[.int .i64 0, .int .i64 0, .int .i64 0, .slice none 0 0, .slice none 0 0, .slice none 0 0, .slice none 0 0] 43 (0, 0)) := by rw [gA4.block _ (by omega)]; exact rD3
          have HN4 : Hid (NodeC (fun b => Z1.heap.size ≤ b ∧ b < Z2.heap.size) (Z3.alloc (.cells zr 41)) nv1 s) := HN3.out.later (SameOn.of_size gA4)
          have HF4 : Hid (FrameO (fun b => Z2.heap.size ≤ b ∧ b < Z3.heap.size) (Z3.alloc (.cells zr 41)) (.agg cs) f) := HF3.out.later (SameOn.of_size gA4)
          clear rD3 HN3 HF3
          clear gA4
          generalize Z3.alloc (.cells zr 41) = Z4 at *
          have hH := B4
          try simp only [Act.put]
          try simp only [List.setIfInBounds_toArray]
          try simp only [List.set_cons_zero, List.set_cons_succ]
          have hsa : (Try.prog.info? 41).map (·.size) = some fa.size := by rw [HFA.out, rowF_size]; exact Try.infoNode
          have hza : zr.size = fa.size := by rw [HFA.out, HZR.out, rowF_size, rowF_size]
          have hoa : fa.all (·.oneCell') = true := by rw [HFA.out]; exact rowF_all HN4.out.one
          have hsc : (Try.prog.info? 43).map (·.size) = some cs.size := by rw [HC7.out]; exact Try.infoFrame7
          have HT : Hid (Tk W s f (Z3.heap.size) (Z0.heap.size) nv1 cs ((Z4.setRow (Z3.heap.size) fa).setRow (Z0.heap.size) cs)) := by
            rw [HFA.out]
            exact Tk.mk' (by omega) (by omega) (by omega) rA4 rD4 (HN4.out.mono (fun b _ hb => by constructor <;> omega)) (HF4.out.mono (fun b _ hb => by constructor <;> omega)) HC7.out (hWd.trans (B4.mono (by omega)))
          have rD' : (Z4.setRow (Z3.heap.size) fa).heap[Z0.heap.size]? = some (.cells #[.int .i64 0, .int .i64 0, .int .i64 0, .slice none 0 0, .slice none 0 0, .slice none 0 0, .slice none 0 0] 43 (0, 0)) := by rw [setRow_other _ _ (by omega)]; exact rD4
          refine wpAnyH_ready (rs := [6]) (by kernel_rfl) (by simp) ?_
          refine AllReadyH.cons rfl (fun K hK => ?_) AllReadyH.nil
          refine step_store_row (by rfl) 41 _ _ (by rfl) (Z3.heap.size) fa (by rfl) (by rfl) 41 zr rA4 hsa hza hoa ?_
          refine hK.out _ _ (setRow_below B4 (by omega) _) (fun hH2 => ?_)
          clear hK K hH
          have hH := hH2
          clear hH2
          try simp only [Act.put]
          try simp only [List.setIfInBounds_toArray]
          try simp only [List.set_cons_zero, List.set_cons_succ]
          refine wpAnyH_ready (rs := [7]) (by kernel_rfl) (by simp) ?_
          refine AllReadyH.cons rfl (fun K hK => ?_) AllReadyH.nil
          refine step_store_row (by rfl) 43 _ _ (by rfl) (Z0.heap.size) cs (by rfl) (by rfl) 43 _ rD' hsc HC7.out.symm HCO.out ?_
          refine hK.out _ _ (setRow_below hH (by omega) _) (fun hH2 => ?_)
          clear hK K hH hH2 rD' rA4 rD4 HN4 HF4
          refine wpAnyH_done (by kernel_rfl) ?_ _
          go_wp2
          go_meet
          case rel => exact ⟨_, _, nv1, cs, rfl, rfl, HT⟩
        · refine step_alloc_as (by rfl) (some 7) (by rfl) 41 (by rfl) zr hz0 ?_
          have gA3 := (Below.refl Z2.heap.size Z2).alloc (Nat.le_refl _) (.cells zr 41)
          have hz3 : Z2.heap.size + 1 ≤ (Z2.alloc (.cells zr 41)).heap.size ∧ (Z2.alloc (.cells zr 41)).heap.size ≤ Z2.heap.size + 1 := by rw [size_push]; omega
          have B3 : Below Z0.heap.size Z0 (Z2.alloc (.cells zr 41)) := B2.trans (gA3.mono B2.size)
          have hsz3 := B2.size
          refine hK.out _ _ B3 (fun _ => ?_)
          clear hK K hH
          have rA3 : (Z2.alloc (.cells zr 41)).heap[Z2.heap.size]? = some (.cells zr 41 (0, 0)) := heap_new _ _
          have rD3 : (Z2.alloc (.cells zr 41)).heap[Z0.heap.size]? = some (.cells #[.int .i64 0, .int .i64 0, .int .i64 0, .slice none 0 0, .slice none 0 0, .slice none 0 0, .slice none 0 0] 43 (0, 0)) := by rw [gA3.block _ (by omega)]; exact rD2
          have HN3 : Hid (NodeC (fun b => Z1.heap.size ≤ b ∧ b < Z2.heap.size) (Z2.alloc (.cells zr 41)) nv1 s) := HN2.out.later (SameOn.of_size gA3)
          clear rD2 HN2
          clear gA3
          generalize Z2.alloc (.cells zr 41) = Z3 at *
          have hH := B3
          try simp only [Act.put]
          try simp only [List.setIfInBounds_toArray]
          try simp only [List.set_cons_zero, List.set_cons_succ]
          refine wpAnyH_ready (rs := [3]) (by kernel_rfl) (by simp) ?_
          refine AllReadyH.cons rfl (fun K hK => ?_) AllReadyH.nil
          go_simp
          refine (lawFrame_new _ f Z3 (HFV.out Z3 (hbd.trans (B3.mono (by omega)))) HRm.out.1.1 HRm.out.1.2 HRm.out.2.1 HRm.out.2.2).mono ?_
          rintro r Z4 ⟨vc, rfl, hfv4, hfr4, hb4⟩
          obtain ⟨cs, rfl, hc7, hco⟩ := frame_cells hfv4
          have HC7 : Hid (cs.size = 7) := hc7
          have HCO : Hid (cs.all (·.oneCell') = true) := hco
          clear hc7 hco
          go_wp2_with fail
          have B4 : Below Z0.heap.size Z0 Z4 := B3.trans (hb4.mono B3.size)
          have hz4 : Z3.heap.size ≤ Z4.heap.size := hb4.size
          have hsz4 := B3.size
          refine hK.out _ _ B4 (fun _ => ?_)
          clear hK K hH
          have HF4 : Hid (FrameO (fun b => Z3.heap.size ≤ b ∧ b < Z4.heap.size) Z4 (.agg cs) f) := FrameO.of hfv4 hfr4
          have rA4 : Z4.heap[Z2.heap.size]? = some (.cells zr 41 (0, 0)) := by rw [hb4.block _ (by omega)]; exact rA3
          have rD4 : Z4.heap[Z0.heap.size]? = some (.cells #[.int .i64 0, .int .i64 0, .int .i64 0, .slice none 0 0, .slice none 0 0, .slice none 0 0, .slice none 0 0] 43 (0, 0)) := by rw [hb4.block _ (by omega)]; exact rD3
          have HN4 : Hid (NodeC (fun b => Z1.heap.size ≤ b ∧ b < Z2.heap.size) Z4 nv1 s) := HN3.out.later (SameOn.of_size hb4)
          clear rA3 rD3 HN3
          clear hfv4 hfr4 hb4
          have hH := B4
          try simp only [Act.put]
          try simp only [List.setIfInBounds_toArray]
          try simp only [List.set_cons_zero, List.set_cons_succ]
          have hsa : (Try.prog.info? 41).map (·.size) = some fa.size := by rw [HFA.out, rowF_size]; exact Try.infoNode
          have hza : zr.size = fa.size := by rw [HFA.out, HZR.out, rowF_size, rowF_size]
          have hoa : fa.all (·.oneCell') = true := by rw [HFA.out]; exact rowF_all HN4.out.one
          have hsc : (Try.prog.info? 43).map (·.size) = some cs.size := by rw [HC7.out]; exact Try.infoFrame7
          have HT : Hid (Tk W s f (Z2.heap.size) (Z0.heap.size) nv1 cs ((Z4.setRow (Z2.heap.size) fa).setRow (Z0.heap.size) cs)) := by
            rw [HFA.out]
            exact Tk.mk' (by omega) (by omega) (by omega) rA4 rD4 (HN4.out.mono (fun b _ hb => by constructor <;> omega)) (HF4.out.mono (fun b _ hb => by constructor <;> omega)) HC7.out (hWd.trans (B4.mono (by omega)))
          have rD' : (Z4.setRow (Z2.heap.size) fa).heap[Z0.heap.size]? = some (.cells #[.int .i64 0, .int .i64 0, .int .i64 0, .slice none 0 0, .slice none 0 0, .slice none 0 0, .slice none 0 0] 43 (0, 0)) := by rw [setRow_other _ _ (by omega)]; exact rD4
          refine wpAnyH_ready (rs := [6]) (by kernel_rfl) (by simp) ?_
          refine AllReadyH.cons rfl (fun K hK => ?_) AllReadyH.nil
          refine step_store_row (by rfl) 41 _ _ (by rfl) (Z2.heap.size) fa (by rfl) (by rfl) 41 zr rA4 hsa hza hoa ?_
          refine hK.out _ _ (setRow_below B4 (by omega) _) (fun hH2 => ?_)
          clear hK K hH
          have hH := hH2
          clear hH2
          try simp only [Act.put]
          try simp only [List.setIfInBounds_toArray]
          try simp only [List.set_cons_zero, List.set_cons_succ]
          refine wpAnyH_ready (rs := [7]) (by kernel_rfl) (by simp) ?_
          refine AllReadyH.cons rfl (fun K hK => ?_) AllReadyH.nil
          refine step_store_row (by rfl) 43 _ _ (by rfl) (Z0.heap.size) cs (by rfl) (by rfl) 43 _ rD' hsc HC7.out.symm HCO.out ?_
          refine hK.out _ _ (setRow_below hH (by omega) _) (fun hH2 => ?_)
          clear hK K hH hH2 rD' rA4 rD4 HN4 HF4
          refine wpAnyH_done (by kernel_rfl) ?_ _
          go_wp2
          go_meet
          case rel => exact ⟨_, _, nv1, cs, rfl, rfl, HT⟩
      · refine step_alloc_as (by rfl) (some 7) (by rfl) 41 (by rfl) zr hz0 ?_
        have gA2 := (Below.refl Z1.heap.size Z1).alloc (Nat.le_refl _) (.cells zr 41)
        have hz2 : Z1.heap.size + 1 ≤ (Z1.alloc (.cells zr 41)).heap.size ∧ (Z1.alloc (.cells zr 41)).heap.size ≤ Z1.heap.size + 1 := by rw [size_push]; omega
        have B2 : Below Z0.heap.size Z0 (Z1.alloc (.cells zr 41)) := B1.trans (gA2.mono B1.size)
        have hsz2 := B1.size
        refine hK.out _ _ B2 (fun _ => ?_)
        clear hK K hH
        have rA2 : (Z1.alloc (.cells zr 41)).heap[Z1.heap.size]? = some (.cells zr 41 (0, 0)) := heap_new _ _
        have rD2 : (Z1.alloc (.cells zr 41)).heap[Z0.heap.size]? = some (.cells #[.int .i64 0, .int .i64 0, .int .i64 0, .slice none 0 0, .slice none 0 0, .slice none 0 0, .slice none 0 0] 43 (0, 0)) := by rw [gA2.block _ (by omega)]; exact rD1
        clear rD1
        clear gA2
        generalize Z1.alloc (.cells zr 41) = Z2 at *
        have hH := B2
        try simp only [Act.put]
        try simp only [List.setIfInBounds_toArray]
        try simp only [List.set_cons_zero, List.set_cons_succ]
        refine wpAnyH_ready (rs := [1]) (by kernel_rfl) (by simp) ?_
        refine AllReadyH.cons rfl (fun K hK => ?_) AllReadyH.nil
        go_simp
        have hcp3 := copyNode_any nv s Z2 (HN.out.below (hbd.trans (B2.mono (by omega))))
        rw [← HGR.out] at hcp3
        refine hcp3.mono ?_
        clear hcp3
        rintro r Z3 ⟨nv1, rfl, hap3, hb3⟩
        obtain ⟨fa, hfa⟩ : ∃ fa, fa = rowF 201 nv1 := ⟨_, rfl⟩
        rw [← hfa]
        have HFA : Hid (fa = rowF 201 nv1) := hfa
        clear hfa
        go_wp2_with fail
        have B3 : Below Z0.heap.size Z0 Z3 := B2.trans (hb3.mono B2.size)
        have hz3 : Z2.heap.size ≤ Z3.heap.size := hb3.size
        have hsz3 := B2.size
        refine hK.out _ _ B3 (fun _ => ?_)
        clear hK K hH
        have HN3 : Hid (NodeC (fun b => Z2.heap.size ≤ b ∧ b < Z3.heap.size) Z3 nv1 s) := hap3.c.mono (fun b hb hk => ⟨hk, hb⟩)
        have rA3 : Z3.heap[Z1.heap.size]? = some (.cells zr 41 (0, 0)) := by rw [hb3.block _ (by omega)]; exact rA2
        have rD3 : Z3.heap[Z0.heap.size]? = some (.cells #[.int .i64 0, .int .i64 0, .int .i64 0, .slice none 0 0, .slice none 0 0, .slice none 0 0, .slice none 0 0] 43 (0, 0)) := by rw [hb3.block _ (by omega)]; exact rD2
        clear rA2 rD2
        clear hap3 hb3
        have hH := B3
        try simp only [Act.put]
        try simp only [List.setIfInBounds_toArray]
        try simp only [List.set_cons_zero, List.set_cons_succ]
        refine wpAnyH_ready (rs := [3]) (by kernel_rfl) (by simp) ?_
        refine AllReadyH.cons rfl (fun K hK => ?_) AllReadyH.nil
        go_simp
        refine (lawFrame_new _ f Z3 (HFV.out Z3 (hbd.trans (B3.mono (by omega)))) HRm.out.1.1 HRm.out.1.2 HRm.out.2.1 HRm.out.2.2).mono ?_
        rintro r Z4 ⟨vc, rfl, hfv4, hfr4, hb4⟩
        obtain ⟨cs, rfl, hc7, hco⟩ := frame_cells hfv4
        have HC7 : Hid (cs.size = 7) := hc7
        have HCO : Hid (cs.all (·.oneCell') = true) := hco
        clear hc7 hco
        go_wp2_with fail
        have B4 : Below Z0.heap.size Z0 Z4 := B3.trans (hb4.mono B3.size)
        have hz4 : Z3.heap.size ≤ Z4.heap.size := hb4.size
        have hsz4 := B3.size
        refine hK.out _ _ B4 (fun _ => ?_)
        clear hK K hH
        have HF4 : Hid (FrameO (fun b => Z3.heap.size ≤ b ∧ b < Z4.heap.size) Z4 (.agg cs) f) := FrameO.of hfv4 hfr4
        have rA4 : Z4.heap[Z1.heap.size]? = some (.cells zr 41 (0, 0)) := by rw [hb4.block _ (by omega)]; exact rA3
        have rD4 : Z4.heap[Z0.heap.size]? = some (.cells #[.int .i64 0, .int .i64 0, .int .i64 0, .slice none 0 0, .slice none 0 0, .slice none 0 0, .slice none 0 0] 43 (0, 0)) := by rw [hb4.block _ (by omega)]; exact rD3
        have HN4 : Hid (NodeC (fun b => Z2.heap.size ≤ b ∧ b < Z3.heap.size) Z4 nv1 s) := HN3.out.later (SameOn.of_size hb4)
        clear rA3 rD3 HN3
        clear hfv4 hfr4 hb4
        have hH := B4
        try simp only [Act.put]
        try simp only [List.setIfInBounds_toArray]
        try simp only [List.set_cons_zero, List.set_cons_succ]
        have hsa : (Try.prog.info? 41).map (·.size) = some fa.size := by rw [HFA.out, rowF_size]; exact Try.infoNode
        have hza : zr.size = fa.size := by rw [HFA.out, HZR.out, rowF_size, rowF_size]
        have hoa : fa.all (·.oneCell') = true := by rw [HFA.out]; exact rowF_all HN4.out.one
        have hsc : (Try.prog.info? 43).map (·.size) = some cs.size := by rw [HC7.out]; exact Try.infoFrame7
        have HT : Hid (Tk W s f (Z1.heap.size) (Z0.heap.size) nv1 cs ((Z4.setRow (Z1.heap.size) fa).setRow (Z0.heap.size) cs)) := by
          rw [HFA.out]
          exact Tk.mk' (by omega) (by omega) (by omega) rA4 rD4 (HN4.out.mono (fun b _ hb => by constructor <;> omega)) (HF4.out.mono (fun b _ hb => by constructor <;> omega)) HC7.out (hWd.trans (B4.mono (by omega)))
        have rD' : (Z4.setRow (Z1.heap.size) fa).heap[Z0.heap.size]? = some (.cells #[.int .i64 0, .int .i64 0, .int .i64 0, .slice none 0 0, .slice none 0 0, .slice none 0 0, .slice none 0 0] 43 (0, 0)) := by rw [setRow_other _ _ (by omega)]; exact rD4
        refine wpAnyH_ready (rs := [6]) (by kernel_rfl) (by simp) ?_
        refine AllReadyH.cons rfl (fun K hK => ?_) AllReadyH.nil
        refine step_store_row (by rfl) 41 _ _ (by rfl) (Z1.heap.size) fa (by rfl) (by rfl) 41 zr rA4 hsa hza hoa ?_
        refine hK.out _ _ (setRow_below B4 (by omega) _) (fun hH2 => ?_)
        clear hK K hH
        have hH := hH2
        clear hH2
        try simp only [Act.put]
        try simp only [List.setIfInBounds_toArray]
        try simp only [List.set_cons_zero, List.set_cons_succ]
        refine wpAnyH_ready (rs := [7]) (by kernel_rfl) (by simp) ?_
        refine AllReadyH.cons rfl (fun K hK => ?_) AllReadyH.nil
        refine step_store_row (by rfl) 43 _ _ (by rfl) (Z0.heap.size) cs (by rfl) (by rfl) 43 _ rD' hsc HC7.out.symm HCO.out ?_
        refine hK.out _ _ (setRow_below hH (by omega) _) (fun hH2 => ?_)
        clear hK K hH hH2 rD' rA4 rD4 HN4 HF4
        refine wpAnyH_done (by kernel_rfl) ?_ _
        go_wp2
        go_meet
        case rel => exact ⟨_, _, nv1, cs, rfl, rfl, HT⟩
  case rest =>
    obtain ⟨A, D, nv1, cs, rfl, rfl, HT⟩ := hcut
    obtain ⟨fa, hfa⟩ : ∃ fa, fa = rowF 201 nv1 := ⟨_, rfl⟩
    have HFA : Hid (fa = rowF 201 nv1) := hfa
    have hsa : (Try.prog.info? 41).map (·.size) = some fa.size := by rw [hfa, rowF_size]; exact Try.infoNode
    have hsal : (Try.prog.info? 41).map (·.size) = some fa.toList.length := by rw [Array.length_toList]; exact hsa
    have hsc : (Try.prog.info? 43).map (·.size) = some cs.size := by rw [HT.out.size]; exact Try.infoFrame7
    have hscl : (Try.prog.info? 43).map (·.size) = some cs.toList.length := by rw [Array.length_toList]; exact hsc
    have ra := HT.out.ra
    rw [← hfa] at ra
    have rd := HT.out.rd
    have hla := HT.out.la
    have hld := HT.out.ld
    have hlta : A < wc.heap.size := (Array.getElem?_eq_some_iff.1 ra).1
    have hltd : D < wc.heap.size := (Array.getElem?_eq_some_iff.1 rd).1
    have hWc := HT.out.below
    have hbc : Below w.heap.size w wc := hb.trans (hWc.mono (by omega))
    have c0 : wc.heap[w.heap.size]? = some (.cells gr 41 (0, 0)) := by rw [hWc.block _ (by omega)]; exact r0
    have c1 : wc.heap[w.heap.size + 1]? = some (.cells fc 43 (0, 0)) := by rw [hWc.block _ (by omega)]; exact r1
    have HN1 : Hid (NodeC (· < wc.heap.size) wc nv1 s) := HT.out.node
    have HF1 : Hid (∀ x, Below wc.heap.size wc x → FrameV x (.agg cs) f) := fun x hx => HT.out.fr.later hx
    obtain ⟨T, hT⟩ : ∃ T, T = takeN s who f := ⟨_, rfl⟩
    have HTT : Hid (T = takeN s who f) := hT
    clear hfa hT HT hb r0 r1
    go_wp2_with (first
      | (refine wpList_load_row rfl 41 _ rfl A rfl 41 fa (0, 0) _ ra Try.underlying41 rfl hsa ?_)
      | (refine wpList_load_row rfl 43 _ rfl D rfl 43 cs (0, 0) _ rd Try.underlying43 rfl hsc ?_)
      | fail)
    have hta := take_any nv1 s who (.agg cs) f wc HN1.out (HF1.out wc (Below.refl _ _))
    rw [← HFA.out, ← HTT.out] at hta
    refine hta.mono ?_
    clear hta
    rintro r w1 ⟨nv2, x, rfl, hnc, hfs, hb1⟩
    obtain ⟨fe, hfe⟩ : ∃ fe, fe = rowF 201 nv2 := ⟨_, rfl⟩
    rw [← hfe]
    have hse : (Try.prog.info? 41).map (·.size) = some fe.size := by rw [hfe, rowF_size]; exact Try.infoNode
    have hsel : (Try.prog.info? 41).map (·.size) = some fe.toList.length := by rw [Array.length_toList]; exact hse
    have hze : zr.size = fe.size := by rw [hfe, HZR.out, rowF_size, rowF_size]
    have hoe : fe.all (·.oneCell') = true := by rw [hfe]; exact rowF_all hnc.one
    have hre : (w1.alloc (.cells zr 41)).heap[w1.heap.size]? = some (.cells zr 41 (0, 0)) := heap_new _ _
    obtain ⟨X, hX⟩ : ∃ X, X = (w1.alloc (.cells zr 41)).setRow w1.heap.size fe := ⟨_, rfl⟩
    have hbX : Below w1.heap.size w1 X := by rw [hX]; exact setRow_below ((Below.refl _ _).alloc (Nat.le_refl _) _) (Nat.le_refl _) _
    have rX : X.heap[w1.heap.size]? = some (.cells fe 41 (0, 0)) := by rw [hX]; exact heap_setRow hre
    have hzX : w1.heap.size + 1 ≤ X.heap.size ∧ X.heap.size ≤ w1.heap.size + 1 := by rw [hX, size_setRow, size_push]; omega
    have HFE : Hid (fe = rowF 201 nv2) := hfe
    have HX : Hid (X = (w1.alloc (.cells zr 41)).setRow w1.heap.size fe) := hX
    have hz1 := hb1.size
    have hcX : Below wc.heap.size wc X := hb1.trans (hbX.mono (by omega))
    have HNX : Hid (NodeC (· < X.heap.size) X nv2 T.1) := hnc.below hbX
    have HFX : Hid (FramesV wc.heap.size X x T.2.1) := hfs.later hbX
    have hbX' : Below w.heap.size w X := hbc.trans (hcX.mono (by omega))
    have x0 : X.heap[w.heap.size]? = some (.cells gr 41 (0, 0)) := by rw [hcX.block _ (by omega)]; exact c0
    have x1 : X.heap[w.heap.size + 1]? = some (.cells fc 43 (0, 0)) := by rw [hcX.block _ (by omega)]; exact c1
    have xa : X.heap[A]? = some (.cells fa 41 (0, 0)) := by rw [hcX.block _ (by omega)]; exact ra
    have xd : X.heap[D]? = some (.cells cs 43 (0, 0)) := by rw [hcX.block _ (by omega)]; exact rd
    have HN1X : Hid (NodeC (· < X.heap.size) X nv1 s) := HN1.out.below hcX
    have HF1X : Hid (∀ x', Below X.heap.size X x' → FrameV x' (.agg cs) f) := fun x' hx => HF1.out x' (hcX.trans (hx.mono hcX.size))
    clear hfe hX hnc hfs hb1 hbX hcX c0 c1 ra rd hbc HN1 HF1 hWc
    go_upto_region 3 with (first
      | (refine wpList_alloc_as rfl 41 rfl zr hz0 ?_)
      | (refine wpList_store_row rfl 41 _ _ rfl w1.heap.size fe rfl rfl 41 _ hre hse hze hoe ?_)
      | fail)
    rw [← HX.out]
    clear HX hre
    obtain ⟨ax, cx, ex⟩ := HFX.out.form
    subst ex
    go_wp2_with (first
      | (refine wpList_load_row rfl 41 _ rfl w.heap.size rfl 41 gr (0, 0) _ x0 Try.underlying41 rfl hsg ?_)
      | (refine wpList_load_row rfl 43 _ rfl (w.heap.size + 1) rfl 43 fc (0, 0) _ x1 Try.underlying43 rfl hsf ?_)
      | fail)
    have htb := takeFrame_any 0 nv s who (.agg fc) f X (Nat.zero_le _) ((HN.out.below hbX').mono (fun b _ hb => ⟨Nat.zero_le _, hb⟩)) (HFV.out X hbX') (fun _ _ _ _ _ _ _ => Nat.zero_le _)
    rw [← HGR.out, ← HTT.out] at htb
    refine htb.mono ?_
    clear htb
    rintro r w3 ⟨nv3, y, rfl, hnc, hfs, hb3⟩
    obtain ⟨fb, hfb⟩ : ∃ fb, fb = rowF 201 nv3 := ⟨_, rfl⟩
    rw [← hfb]
    have hsb : (Try.prog.info? 41).map (·.size) = some fb.size := by rw [hfb, rowF_size]; exact Try.infoNode
    have hsbl : (Try.prog.info? 41).map (·.size) = some fb.toList.length := by rw [Array.length_toList]; exact hsb
    have hzb : zr.size = fb.size := by rw [hfb, HZR.out, rowF_size, rowF_size]
    have hob : fb.all (·.oneCell') = true := by rw [hfb]; exact rowF_all hnc.one
    have hrb : (w3.alloc (.cells zr 41)).heap[w3.heap.size]? = some (.cells zr 41 (0, 0)) := heap_new _ _
    obtain ⟨Y, hY⟩ : ∃ Y, Y = (w3.alloc (.cells zr 41)).setRow w3.heap.size fb := ⟨_, rfl⟩
    have hbY : Below w3.heap.size w3 Y := by rw [hY]; exact setRow_below ((Below.refl _ _).alloc (Nat.le_refl _) _) (Nat.le_refl _) _
    have rY : Y.heap[w3.heap.size]? = some (.cells fb 41 (0, 0)) := by rw [hY]; exact heap_setRow hrb
    have hzY : w3.heap.size + 1 ≤ Y.heap.size ∧ Y.heap.size ≤ w3.heap.size + 1 := by rw [hY, size_setRow, size_push]; omega
    have HFBr : Hid (fb = rowF 201 nv3) := hfb
    have HY : Hid (Y = (w3.alloc (.cells zr 41)).setRow w3.heap.size fb) := hY
    have hz3 := hb3.size
    have hXY : Below X.heap.size X Y := hb3.trans (hbY.mono hz3)
    have HNb : Hid (NodeC (· < Y.heap.size) Y nv3 T.1) := hnc.any.below hbY
    have HNa : Hid (NodeC (· < Y.heap.size) Y nv2 T.1) := HNX.out.below hXY
    have HFa : Hid (FramesV wc.heap.size Y (.slice ax T.2.1.length cx) T.2.1) := HFX.out.later hXY
    have HFb : Hid (FramesV 0 Y y T.2.1) := hfs.later hbY
    have hbY' : Below w.heap.size w Y := hbX'.trans (hXY.mono (by omega))
    have y0 : Y.heap[w.heap.size]? = some (.cells gr 41 (0, 0)) := by rw [hXY.block _ (by omega)]; exact x0
    have y1 : Y.heap[w.heap.size + 1]? = some (.cells fc 43 (0, 0)) := by rw [hXY.block _ (by omega)]; exact x1
    have ya : Y.heap[A]? = some (.cells fa 41 (0, 0)) := by rw [hXY.block _ (by omega)]; exact xa
    have yd : Y.heap[D]? = some (.cells cs 43 (0, 0)) := by rw [hXY.block _ (by omega)]; exact xd
    have ye : Y.heap[w1.heap.size]? = some (.cells fe 41 (0, 0)) := by rw [hXY.block _ (by omega)]; exact rX
    have HN1Y : Hid (NodeC (· < Y.heap.size) Y nv1 s) := HN1X.out.below hXY
    have HF1Y : Hid (∀ x', Below Y.heap.size Y x' → FrameV x' (.agg cs) f) := fun x' hx => HF1X.out x' (hXY.trans (hx.mono hXY.size))
    clear hfb hY hnc hfs hb3 hbY hXY x0 x1 xa xd rX HNX HFX HN1X HF1X hbX'
    go_upto_region 4 with (first
      | (refine wpList_alloc_as rfl 41 rfl zr hz0 ?_)
      | (refine wpList_store_row rfl 41 _ _ rfl w3.heap.size fb rfl rfl 41 _ hrb hsb hzb hob ?_)
      | fail)
    rw [← HY.out]
    clear HY hrb
    obtain ⟨ay, cy, ey⟩ := HFb.out.form
    subst ey
    have HLn : Hid (T.2.1.length ≤ maxLen) := HFa.out.len
    obtain ⟨fs, hfs⟩ : ∃ fs, fs = T.2.1 := ⟨_, rfl⟩
    obtain ⟨T1, hT1⟩ : ∃ T1, T1 = T.1 := ⟨_, rfl⟩
    obtain ⟨te, hte⟩ : ∃ te, te = T.2.2 := ⟨_, rfl⟩
    obtain ⟨GB, hGB⟩ : ∃ GB, GB = goodNB s := ⟨_, rfl⟩
    rw [← hfs] at HFa HFb HLn ⊢
    rw [← hT1] at HNa HNb
    rw [← hte]
    have HGB : Hid (GB = goodNB s) := hGB
    clear hfs hT1 hte hGB HTT
    have ee : (te == te) = true := by simp
    have gg : (GB == GB) = true := by simp
    have KB : Hid (∀ wx, Below Y.drew.heap.size Y.drew wx → Below Y.heap.size Y wx) := fun wx hx => (below_drewN (Below.refl _ _) 1).trans hx
    refine wp_region_held_drew (S := fun w' => Below Y.drew.heap.size Y.drew w') (by kernel_rfl) (Below.refl _ _) ?_
    intro hH
    have Ld : Below Y.drew.heap.size Y.drew Y.drew := Below.refl _ _
    have hYd : Y.heap.size ≤ Y.drew.heap.size ∧ Y.drew.heap.size ≤ Y.heap.size := ⟨Nat.le_refl _, Nat.le_refl _⟩
    have R0 : Hid (∀ wx, Below Y.drew.heap.size Y.drew wx → wx.heap[w.heap.size]? = some (.cells gr 41 (0, 0))) := fun wx hx => by rw [(KB.out wx hx).block _ (by omega)]; exact y0
    have R1 : Hid (∀ wx, Below Y.drew.heap.size Y.drew wx → wx.heap[w.heap.size + 1]? = some (.cells fc 43 (0, 0))) := fun wx hx => by rw [(KB.out wx hx).block _ (by omega)]; exact y1
    have RA : Hid (∀ wx, Below Y.drew.heap.size Y.drew wx → wx.heap[A]? = some (.cells fa 41 (0, 0))) := fun wx hx => by rw [(KB.out wx hx).block _ (by omega)]; exact ya
    have RD : Hid (∀ wx, Below Y.drew.heap.size Y.drew wx → wx.heap[D]? = some (.cells cs 43 (0, 0))) := fun wx hx => by rw [(KB.out wx hx).block _ (by omega)]; exact yd
    have RE : Hid (∀ wx, Below Y.drew.heap.size Y.drew wx → wx.heap[w1.heap.size]? = some (.cells fe 41 (0, 0))) := fun wx hx => by rw [(KB.out wx hx).block _ (by omega)]; exact ye
    have RB : Hid (∀ wx, Below Y.drew.heap.size Y.drew wx → wx.heap[w3.heap.size]? = some (.cells fb 41 (0, 0))) := fun wx hx => by rw [(KB.out wx hx).block _ (by omega)]; exact rY
    have CS : Hid (∀ wx, Below Y.drew.heap.size Y.drew wx → Calls Try.prog 25 #[.agg fe, .agg fb] wx fun e w' => e = .returned (.bool true) ∧ Below wx.heap.size wx w') := fun wx hx => by
      rw [HFE.out, HFBr.out]
      exact ref_sameNode nv2 nv3 T1 wx (HNa.out.below (KB.out wx hx)) (HNb.out.below (KB.out wx hx))
    have CF : Hid (∀ wx, Below Y.drew.heap.size Y.drew wx → Calls Try.prog 26 #[.slice ax fs.length cx, .slice ay fs.length cy] wx fun e w' => e = .returned (.bool true) ∧ Below wx.heap.size wx w') := fun wx hx =>
      ref_sameFrames_any ax cx ay cy fs wx HLn.out (HFa.out.later (KB.out wx hx)).frsIn (HFb.out.later (KB.out wx hx)).frsIn
    have CG : Hid (∀ wx, Below Y.drew.heap.size Y.drew wx → Calls Try.prog 27 #[.agg fa] wx fun e w' => e = .returned (.bool GB) ∧ Below wx.heap.size wx w') := fun wx hx => by
      rw [HFA.out, HGB.out]
      exact good_any nv1 s wx (HN1Y.out.below (KB.out wx hx))
    have CI : Hid (∀ wx, Below Y.drew.heap.size Y.drew wx → Calls Try.prog 28 #[.agg gr] wx fun e w' => e = .returned (.bool GB) ∧ Below wx.heap.size wx w') := fun wx hx => by
      rw [HGR.out, HGB.out]
      exact isNode_ref nv s wx (HN.out.below (hbY'.trans ((KB.out wx hx).mono (by omega))))
    have CT : Hid (∀ wx, Below Y.drew.heap.size Y.drew wx → Calls Try.prog 25 #[.agg fa, .agg gr] wx fun e w' => e = .returned (.bool true) ∧ Below wx.heap.size wx w') := fun wx hx => by
      rw [HFA.out, HGR.out]
      exact ref_sameNode nv1 nv s wx (HN1Y.out.below (KB.out wx hx)) (HN.out.below (hbY'.trans ((KB.out wx hx).mono (by omega))))
    have CH : Hid (∀ wx, Below Y.drew.heap.size Y.drew wx → Calls Try.prog 29 #[.agg cs, .agg fc] wx fun e w' => e = .returned (.bool true) ∧ Below wx.heap.size wx w') := fun wx hx =>
      ref_sameFrame_any _ _ f wx (HF1Y.out wx (KB.out wx hx)) (HFV.out wx (hbY'.trans ((KB.out wx hx).mono (by omega))))
    have HBY : Hid (Below w.heap.size w Y) := hbY'
    clear y0 y1 ya yd ye rY HNa HNb HFa HFb HN1Y HF1Y hbY' hH
    generalize Y.drew = Y0 at *
    have hH := Ld
    refine wpAnyH_takeD (i := 0) (d := some 35) (v := .agg fe.toList.toArray) rfl rfl (by kernel_rfl) (by kernel_rfl) (by kernel_rfl) (fun _ _ _ h => h) (yieldsIf_load_mid (by rfl) _ _ rfl _ _ rfl fe.toList _ (fun wx hx => rowR_range (RE.out wx hx)) Try.underlying41 rfl hsel) hH ?_
    simp only [Act.put, List.setIfInBounds_toArray, List.set_cons_zero, List.set_cons_succ]
    try simp only [arr_back]
    refine wpAnyH_takeD (i := 1) (d := some 36) (v := .agg fb.toList.toArray) rfl rfl (by kernel_rfl) (by kernel_rfl) (by kernel_rfl) (fun _ _ _ h => h) (yieldsIf_load_mid (by rfl) _ _ rfl _ _ rfl fb.toList _ (fun wx hx => rowR_range (RB.out wx hx)) Try.underlying41 rfl hsbl) hH ?_
    simp only [Act.put, List.setIfInBounds_toArray, List.set_cons_zero, List.set_cons_succ]
    try simp only [arr_back]
    refine wpAnyH_ready (rs := [2]) (by kernel_rfl) (by simp) ?_
    refine AllReadyH.cons rfl (fun K hK => ?_) AllReadyH.nil
    go_simp
    refine (CS.out Y0 Ld).mono ?_
    rintro e v1 ⟨rfl, hv1⟩
    have L1 : Below Y0.heap.size Y0 v1 := Ld.trans (hv1.mono Ld.size)
    go_wp2_with fail
    refine hK.out _ _ L1 (fun _ => ?_)
    clear hK K hH hv1
    have hH := L1
    refine wpAnyH_takeD (i := 3) (d := some 38) (v := .bool true) rfl rfl (by kernel_rfl) (by kernel_rfl) (by kernel_rfl) (fun _ _ _ h => h) (Or.inl ⟨by rfl, fun _ _ => by go_simp⟩) hH ?_
    simp only [Act.put, List.setIfInBounds_toArray, List.set_cons_zero, List.set_cons_succ]
    refine wpAnyH_takeD (i := 4) (d := some 39) (v := .slice ax fs.length cx) rfl rfl (by kernel_rfl) (by kernel_rfl) (by kernel_rfl) (fun _ _ _ h => h) (Or.inl ⟨by rfl, fun _ _ => by go_simp⟩) hH ?_
    simp only [Act.put, List.setIfInBounds_toArray, List.set_cons_zero, List.set_cons_succ]
    refine wpAnyH_takeD (i := 5) (d := some 40) (v := .slice ay fs.length cy) rfl rfl (by kernel_rfl) (by kernel_rfl) (by kernel_rfl) (fun _ _ _ h => h) (Or.inl ⟨by rfl, fun _ _ => by go_simp⟩) hH ?_
    simp only [Act.put, List.setIfInBounds_toArray, List.set_cons_zero, List.set_cons_succ]
    refine wpAnyH_ready (rs := [6]) (by kernel_rfl) (by simp) ?_
    refine AllReadyH.cons rfl (fun K hK => ?_) AllReadyH.nil
    go_simp
    refine (CF.out v1 L1).mono ?_
    rintro e v2 ⟨rfl, hv2⟩
    have L2 : Below Y0.heap.size Y0 v2 := L1.trans (hv2.mono L1.size)
    go_wp2_with fail
    refine hK.out _ _ L2 (fun _ => ?_)
    clear hK K hH hv2
    have hH := L2
    refine wpAnyH_takeD (i := 7) (d := some 42) (v := .bool true) rfl rfl (by kernel_rfl) (by kernel_rfl) (by kernel_rfl) (fun _ _ _ h => h) (Or.inl ⟨by rfl, fun _ _ => by go_simp⟩) hH ?_
    simp only [Act.put, List.setIfInBounds_toArray, List.set_cons_zero, List.set_cons_succ]
    refine wpAnyH_takeD (i := 8) (d := some 43) (v := .bool true) rfl rfl (by kernel_rfl) (by kernel_rfl) (by kernel_rfl) (fun _ _ _ h => h) (Or.inl ⟨by rfl, fun _ _ => by go_simp⟩) hH ?_
    simp only [Act.put, List.setIfInBounds_toArray, List.set_cons_zero, List.set_cons_succ]
    refine wpAnyH_takeD (i := 9) (d := some 44) (v := .int .i64 te) rfl rfl (by kernel_rfl) (by kernel_rfl) (by kernel_rfl) (fun _ _ _ h => h) (Or.inl ⟨by rfl, fun _ _ => by go_simp⟩) hH ?_
    simp only [Act.put, List.setIfInBounds_toArray, List.set_cons_zero, List.set_cons_succ]
    refine wpAnyH_takeD (i := 10) (d := some 45) (v := .int .i64 te) rfl rfl (by kernel_rfl) (by kernel_rfl) (by kernel_rfl) (fun _ _ _ h => h) (Or.inl ⟨by rfl, fun _ _ => by go_simp⟩) hH ?_
    simp only [Act.put, List.setIfInBounds_toArray, List.set_cons_zero, List.set_cons_succ]
    refine wpAnyH_takeD (i := 11) (d := some 46) (v := .bool true) rfl rfl (by kernel_rfl) (by kernel_rfl) (by kernel_rfl) (fun _ _ _ h => h) (Or.inl ⟨by rfl, fun _ _ => by go_simp⟩) hH ?_
    simp only [Act.put, List.setIfInBounds_toArray, List.set_cons_zero, List.set_cons_succ]
    refine wpAnyH_takeD (i := 12) (d := some 47) (v := .bool true) rfl rfl (by kernel_rfl) (by kernel_rfl) (by kernel_rfl) (fun _ _ _ h => h) (Or.inl ⟨by rfl, fun _ _ => by go_simp⟩) hH ?_
    simp only [Act.put, List.setIfInBounds_toArray, List.set_cons_zero, List.set_cons_succ]
    refine wpAnyH_takeD (i := 13) (d := some 48) (v := .bool true) rfl rfl (by kernel_rfl) (by kernel_rfl) (by kernel_rfl) (fun _ _ _ h => h) (Or.inl ⟨by rfl, fun _ _ => by go_simp⟩) hH ?_
    simp only [Act.put, List.setIfInBounds_toArray, List.set_cons_zero, List.set_cons_succ]
    refine wpAnyH_takeD (i := 14) (d := some 49) (v := .agg fa.toList.toArray) rfl rfl (by kernel_rfl) (by kernel_rfl) (by kernel_rfl) (fun _ _ _ h => h) (yieldsIf_load_mid (by rfl) _ _ rfl _ _ rfl fa.toList _ (fun wx hx => rowR_range (RA.out wx hx)) Try.underlying41 rfl hsal) hH ?_
    simp only [Act.put, List.setIfInBounds_toArray, List.set_cons_zero, List.set_cons_succ]
    try simp only [arr_back]
    refine wpAnyH_takeD (i := 16) (d := some 51) (v := .agg gr.toList.toArray) rfl rfl (by kernel_rfl) (by kernel_rfl) (by kernel_rfl) (fun _ _ _ h => h) (yieldsIf_load_mid (by rfl) _ _ rfl _ _ rfl gr.toList _ (fun wx hx => rowR_range (R0.out wx hx)) Try.underlying41 rfl hsgl) hH ?_
    simp only [Act.put, List.setIfInBounds_toArray, List.set_cons_zero, List.set_cons_succ]
    try simp only [arr_back]
    refine wpAnyH_ready (rs := [15]) (by kernel_rfl) (by simp) ?_
    refine AllReadyH.cons rfl (fun K hK => ?_) AllReadyH.nil
    go_simp
    refine (CG.out v2 L2).mono ?_
    rintro e v3 ⟨rfl, hv3⟩
    have L3 : Below Y0.heap.size Y0 v3 := L2.trans (hv3.mono L2.size)
    go_wp2_with fail
    refine hK.out _ _ L3 (fun _ => ?_)
    clear hK K hH hv3
    have hH := L3
    refine wpAnyH_ready (rs := [17]) (by kernel_rfl) (by simp) ?_
    refine AllReadyH.cons rfl (fun K hK => ?_) AllReadyH.nil
    go_simp
    refine (CI.out v3 L3).mono ?_
    rintro e v4 ⟨rfl, hv4⟩
    have L4 : Below Y0.heap.size Y0 v4 := L3.trans (hv4.mono L3.size)
    go_wp2_with fail
    refine hK.out _ _ L4 (fun _ => ?_)
    clear hK K hH hv4
    have hH := L4
    refine wpAnyH_takeD (i := 18) (d := some 53) (v := .bool true) rfl rfl (by kernel_rfl) (by kernel_rfl) (by kernel_rfl) (fun _ _ _ h => h) (Or.inl ⟨by rfl, fun _ _ => by go_simp⟩) hH ?_
    simp only [Act.put, List.setIfInBounds_toArray, List.set_cons_zero, List.set_cons_succ]
    refine wpAnyH_takeD (i := 19) (d := some 54) (v := .bool true) rfl rfl (by kernel_rfl) (by kernel_rfl) (by kernel_rfl) (fun _ _ _ h => h) (Or.inl ⟨by rfl, fun _ _ => by go_simp⟩) hH ?_
    simp only [Act.put, List.setIfInBounds_toArray, List.set_cons_zero, List.set_cons_succ]
    refine wpAnyH_takeD (i := 20) (d := some 55) (v := .bool true) rfl rfl (by kernel_rfl) (by kernel_rfl) (by kernel_rfl) (fun _ _ _ h => h) (Or.inl ⟨by rfl, fun _ _ => by go_simp⟩) hH ?_
    simp only [Act.put, List.setIfInBounds_toArray, List.set_cons_zero, List.set_cons_succ]
    refine wpAnyH_takeD (i := 21) (d := some 56) (v := .agg fa.toList.toArray) rfl rfl (by kernel_rfl) (by kernel_rfl) (by kernel_rfl) (fun _ _ _ h => h) (yieldsIf_load_mid (by rfl) _ _ rfl _ _ rfl fa.toList _ (fun wx hx => rowR_range (RA.out wx hx)) Try.underlying41 rfl hsal) hH ?_
    simp only [Act.put, List.setIfInBounds_toArray, List.set_cons_zero, List.set_cons_succ]
    try simp only [arr_back]
    refine wpAnyH_takeD (i := 22) (d := some 57) (v := .agg gr.toList.toArray) rfl rfl (by kernel_rfl) (by kernel_rfl) (by kernel_rfl) (fun _ _ _ h => h) (yieldsIf_load_mid (by rfl) _ _ rfl _ _ rfl gr.toList _ (fun wx hx => rowR_range (R0.out wx hx)) Try.underlying41 rfl hsgl) hH ?_
    simp only [Act.put, List.setIfInBounds_toArray, List.set_cons_zero, List.set_cons_succ]
    try simp only [arr_back]
    refine wpAnyH_ready (rs := [23]) (by kernel_rfl) (by simp) ?_
    refine AllReadyH.cons rfl (fun K hK => ?_) AllReadyH.nil
    go_simp
    refine (CT.out v4 L4).mono ?_
    rintro e v5 ⟨rfl, hv5⟩
    have L5 : Below Y0.heap.size Y0 v5 := L4.trans (hv5.mono L4.size)
    go_wp2_with fail
    refine hK.out _ _ L5 (fun _ => ?_)
    clear hK K hH hv5
    have hH := L5
    refine wpAnyH_takeD (i := 24) (d := some 59) (v := .bool true) rfl rfl (by kernel_rfl) (by kernel_rfl) (by kernel_rfl) (fun _ _ _ h => h) (Or.inl ⟨by rfl, fun _ _ => by go_simp⟩) hH ?_
    simp only [Act.put, List.setIfInBounds_toArray, List.set_cons_zero, List.set_cons_succ]
    refine wpAnyH_takeD (i := 25) (d := some 60) (v := .bool true) rfl rfl (by kernel_rfl) (by kernel_rfl) (by kernel_rfl) (fun _ _ _ h => h) (Or.inl ⟨by rfl, fun _ _ => by go_simp⟩) hH ?_
    simp only [Act.put, List.setIfInBounds_toArray, List.set_cons_zero, List.set_cons_succ]
    refine wpAnyH_takeD (i := 26) (d := some 61) (v := .agg cs.toList.toArray) rfl rfl (by kernel_rfl) (by kernel_rfl) (by kernel_rfl) (fun _ _ _ h => h) (yieldsIf_load_mid (by rfl) _ _ rfl _ _ rfl cs.toList _ (fun wx hx => rowR_range (RD.out wx hx)) Try.underlying43 rfl hscl) hH ?_
    simp only [Act.put, List.setIfInBounds_toArray, List.set_cons_zero, List.set_cons_succ]
    try simp only [arr_back]
    refine wpAnyH_takeD (i := 27) (d := some 62) (v := .agg fc.toList.toArray) rfl rfl (by kernel_rfl) (by kernel_rfl) (by kernel_rfl) (fun _ _ _ h => h) (yieldsIf_load_mid (by rfl) _ _ rfl _ _ rfl fc.toList _ (fun wx hx => rowR_range (R1.out wx hx)) Try.underlying43 rfl hsfl) hH ?_
    simp only [Act.put, List.setIfInBounds_toArray, List.set_cons_zero, List.set_cons_succ]
    try simp only [arr_back]
    refine wpAnyH_ready (rs := [28]) (by kernel_rfl) (by simp) ?_
    refine AllReadyH.cons rfl (fun K hK => ?_) AllReadyH.nil
    go_simp
    refine (CH.out v5 L5).mono ?_
    rintro e v6 ⟨rfl, hv6⟩
    have L6 : Below Y0.heap.size Y0 v6 := L5.trans (hv6.mono L5.size)
    go_wp2_with fail
    refine hK.out _ _ L6 (fun _ => ?_)
    clear hK K hH hv6
    have hH := L6
    refine wpAnyH_takeD (i := 29) (d := some 64) (v := .bool true) rfl rfl (by kernel_rfl) (by kernel_rfl) (by kernel_rfl) (fun _ _ _ h => h) (Or.inl ⟨by rfl, fun _ _ => by go_simp⟩) hH ?_
    simp only [Act.put, List.setIfInBounds_toArray, List.set_cons_zero, List.set_cons_succ]
    refine wpAnyH_takeD (i := 30) (d := some 65) (v := .bool true) rfl rfl (by kernel_rfl) (by kernel_rfl) (by kernel_rfl) (fun _ _ _ h => h) (Or.inl ⟨by rfl, fun _ _ => by go_simp⟩) hH ?_
    simp only [Act.put, List.setIfInBounds_toArray, List.set_cons_zero, List.set_cons_succ]
    refine wpAnyH_ready (rs := [31]) (by kernel_rfl) (by simp) ?_
    refine AllReadyH.cons rfl (fun K hK => ?_) AllReadyH.nil
    go_simp
    refine (law_takes v6).mono ?_
    rintro e v7 ⟨rfl, hv7⟩
    have L7 : Below Y0.heap.size Y0 v7 := L6.trans (hv7.mono L6.size)
    go_wp2_with fail
    refine hK.out _ _ L7 (fun _ => ?_)
    clear hK K hH hv7
    have hH := L7
    refine wpAnyH_takeD (i := 32) (d := some 67) (v := .bool true) rfl rfl (by kernel_rfl) (by kernel_rfl) (by kernel_rfl) (fun _ _ _ h => h) (Or.inl ⟨by rfl, fun _ _ => by go_simp⟩) hH ?_
    simp only [Act.put, List.setIfInBounds_toArray, List.set_cons_zero, List.set_cons_succ]
    refine wpAnyH_takeD (i := 33) (d := some 6) (v := .bool true) rfl rfl (by kernel_rfl) (by kernel_rfl) (by kernel_rfl) (fun _ _ _ h => h) (Or.inl ⟨by rfl, fun _ _ => by go_simp⟩) hH ?_
    simp only [Act.put, List.setIfInBounds_toArray, List.set_cons_zero, List.set_cons_succ]
    refine wpAnyH_done (by kernel_rfl) ?_ _
    have hFin : Below w.heap.size w v7 := HBY.out.trans ((KB.out v7 L7).mono (by omega))
    clear hH
    go_wp2
    go_ret
    exact ⟨rfl, hFin⟩

end Go.Proofs.Ytkoefoccbjhoiab
