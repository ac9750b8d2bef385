/-
  The contract of post's message.
  The contract of post's Again.
  The contract of post's Begin.
-/
import Derived.Test.YtkoefoccbjhoiabPbg6
set_option linter.unusedVariables false
set_option linter.unusedSimpArgs false
namespace Go.Proofs.Ytkoefoccbjhoiab
open Go.RowKit

theorem frame7_one (k n i : Int) (a3 : Option Addr) (l3 c3 : Nat) (a4 : Option Addr) (l4 c4 : Nat) (a5 : Option Addr) (l5 c5 : Nat) (a6 : Option Addr) (l6 c6 : Nat) : (#[Value.int .i64 k, .int .i64 n, .int .i64 i, .slice a3 l3 c3, .slice a4 l4 c4, .slice a5 l5 c5, .slice a6 l6 c6] : Array Value).all (·.oneCell') = true := by simp [Value.oneCell']

set_option maxRecDepth 100000 in
set_option maxHeartbeats 1000000 in
theorem p_message (gr : Array Value) (c : CaseL) (id : Int) (n : Nat) (w : World) (h : CaseV w gr c) :
    Calls Try.prog 95 #[.agg gr, .int .i64 n, .int .i64 id] w fun e w' => ∃ cs : List Value, e = .returned (.agg cs.toArray) ∧ FrameIn (w.heap.size ≤ ·) w' (.agg cs.toArray) (c.msg id n) ∧ Below w.heap.size w w' := by
  obtain ⟨W, hW⟩ : ∃ W, W = (w.alloc (.cells gr 73)).alloc (.cells #[.int .i64 0, .int .i64 0, .int .i64 0, .slice none 0 0, .slice none 0 0, .slice none 0 0, .slice none 0 0] 43) := ⟨_, rfl⟩
  have hb : Below w.heap.size w W := by rw [hW]; exact ((Below.refl _ _).alloc (Nat.le_refl _) _).alloc (by rw [size_push]; omega) _
  have hzW : W.heap.size = w.heap.size + 2 := by rw [hW, size_push, size_push]
  have hB : InBox w.heap.size W gr c := by rw [hW]; exact (InBox.new h).later ((Below.refl _ _).alloc (Nat.le_refl _) _)
  have hR : W.heap[w.heap.size + 1]? = some (.cells #[.int .i64 0, .int .i64 0, .int .i64 0, .slice none 0 0, .slice none 0 0, .slice none 0 0, .slice none 0 0] 43 (0, 0)) := by rw [hW]; exact (two_rows w _ _).2
  have HB : Hid (InBox w.heap.size W gr c) := hB
  have HW : Hid (W = (w.alloc (.cells gr 73)).alloc (.cells #[.int .i64 0, .int .i64 0, .int .i64 0, .slice none 0 0, .slice none 0 0, .slice none 0 0, .slice none 0 0] 43)) := hW
  obtain ⟨a2, c2, q2, hs2, hl2⟩ := hB.ops
  clear hW hB h
  go_enter Try.func95, Try.ntmps95
  go_upto_region 1 with fail
  rw [← HW.out]
  clear HW
  go_wp2_with fail
  refine (cloneO_any a2 c2 c.ops W hs2 hl2).mono ?_
  rintro e w1 ⟨v, rfl, hown, _, hb1⟩
  obtain ⟨ao, co, rfl, _, _⟩ := own_form hown
  have hlo : w1.heap.size < (w1.alloc (.cells #[.int .i64 1, .int .i64 n, .int .i64 id, .slice ao c.ops.length co, .slice none 0 0, .slice none 0 0, .slice none 0 0] 43)).heap.size := by rw [size_push]; omega
  have hz1 := hb1.size
  obtain ⟨X, hX⟩ : ∃ X, X = w1.alloc (.cells #[.int .i64 1, .int .i64 n, .int .i64 id, .slice ao c.ops.length co, .slice none 0 0, .slice none 0 0, .slice none 0 0] 43) := ⟨_, rfl⟩
  have HX : Hid (X = w1.alloc (.cells #[.int .i64 1, .int .i64 n, .int .i64 id, .slice ao c.ops.length co, .slice none 0 0, .slice none 0 0, .slice none 0 0] 43)) := hX
  have hzX : X.heap.size = w1.heap.size + 1 := by rw [hX]; exact size_push _ _
  have hbX : Below W.heap.size W X := by rw [hX]; exact hb1.alloc hz1 _
  have hX1 : Below w1.heap.size w1 X := by rw [hX]; exact (Below.refl _ _).alloc (Nat.le_refl _) _
  have r1 : X.heap[w1.heap.size]? = some (.cells #[.int .i64 1, .int .i64 n, .int .i64 id, .slice ao c.ops.length co, .slice none 0 0, .slice none 0 0, .slice none 0 0] 43 (0, 0)) := by rw [hX]; exact heap_new _ _
  have rR : X.heap[w.heap.size + 1]? = some (.cells #[.int .i64 0, .int .i64 0, .int .i64 0, .slice none 0 0, .slice none 0 0, .slice none 0 0, .slice none 0 0] 43 (0, 0)) := by rw [hbX.block _ (by omega)]; exact hR
  have HBX : Hid (InBox w.heap.size X gr c) := HB.out.later hbX
  have HO : Hid (SlOps X ao co c.ops ∧ OpsIn (w.heap.size ≤ ·) X ao c.ops) := by
    have h1 := own_same hown (w' := X) (fun k hk => hX1.block k (World.ownsRow.lt hown k hk).2)
    have h2 := (IsO.of_owns h1 hl2).mono (ok' := (w.heap.size ≤ ·)) (fun b _ hb => by have := hb.1; show w.heap.size ≤ b; omega)
    obtain ⟨a', c', e, h3, _⟩ := h2
    cases e
    exact ⟨SlOps.of_owns h1, h3⟩
  have HO1 : Hid (OpsIn (fun b => W.heap.size ≤ b) w1 ao c.ops) := by
    obtain ⟨a', c', e, h3, _⟩ := (IsO.of_owns hown hl2).mono (ok' := (W.heap.size ≤ ·)) (fun b _ hb => hb.1)
    cases e
    exact h3
  have HO2 : Hid (OpsIn (fun b => W.heap.size ≤ b) X ao c.ops) := HO1.out.later (SameOn.of_size hX1)
  have q1 := HBX.out.fixed
  clear hlo hX hR q2 hs2 hown
  go_upto_region 2 with fail
  rw [← HX.out]
  clear HX
  cases t0 : c.fixed
  · have HM : Hid (c.msg id n = ⟨1, n, id, c.ops, [], [], []⟩) := by unfold Hid CaseL.msg; rw [t0]; rfl
    rw [t0] at q1
    go_wp2_with (first
      | ((with_reducible apply wpl_row r1); (· rfl); (· exact row_frame); (· rfl); simp only [Act.put, List.setIfInBounds_toArray, List.set_cons_zero, List.set_cons_succ])
      | (refine wpList_store_row rfl 43 _ _ rfl (w.heap.size + 1) #[.int .i64 1, .int .i64 n, .int .i64 id, .slice ao c.ops.length co, .slice none 0 0, .slice none 0 0, .slice none 0 0] rfl rfl 43 _ rR Try.infoFrame7 rfl (frame7_one _ _ _ _ _ _ _ _ _ _ _ _ _ _ _) ?_)
      | fail)
    refine bodyPost_ret (v := .agg #[.int .i64 1, .int .i64 n, .int .i64 id, .slice ao c.ops.length co, .slice none 0 0, .slice none 0 0, .slice none 0 0]) (results_cell_row Try.results95 _ _ (w.heap.size + 1) 43 #[.int .i64 1, .int .i64 n, .int .i64 id, .slice ao c.ops.length co, .slice none 0 0, .slice none 0 0, .slice none 0 0] (0, 0) _ rfl (heap_setRow rR) Try.underlying43 rfl Try.infoFrame7) rfl ⟨[.int .i64 1, .int .i64 n, .int .i64 id, .slice ao c.ops.length co, .slice none 0 0, .slice none 0 0, .slice none 0 0], rfl, ?_, setRow_below (hb.trans (hbX.mono (by omega))) (by omega) _⟩
    rw [HM.out]
    refine ⟨_, _, _, _, _, _, _, _, rfl, ?_, slI_nil _ _, slI_nil _ _, slI_nil _ _⟩
    have h2 : OpsIn (fun b => W.heap.size ≤ b) X ao c.ops := HO2.out
    have h3 := h2.later (w' := X.setRow (w.heap.size + 1) #[.int .i64 1, .int .i64 n, .int .i64 id, .slice ao c.ops.length co, .slice none 0 0, .slice none 0 0, .slice none 0 0]) (fun b _ hb => setRow_other _ _ (by omega))
    exact ⟨⟨h3.at, HO.out.1.2⟩, h3.mono (fun b _ hb => by show w.heap.size ≤ b; omega)⟩
  · have HM : Hid (c.msg id n = ⟨3, n, id, c.ops, c.deps, [], []⟩) := by unfold Hid CaseL.msg; rw [t0]; rfl
    rw [t0] at q1
    obtain ⟨a5, c5, q5, hs5, hl5⟩ := HBX.out.deps
    go_wp2_with fail
    refine (cloneI_any a5 c5 c.deps X hs5 hl5).mono ?_
    rintro e w2 ⟨v, rfl, hown5, _, hb2⟩
    obtain ⟨ad, cd, rfl, _, _⟩ := own_form hown5
    have hz2 := hb2.size
    have r2 : w2.heap[w1.heap.size]? = some (.cells #[.int .i64 1, .int .i64 n, .int .i64 id, .slice ao c.ops.length co, .slice none 0 0, .slice none 0 0, .slice none 0 0] 43 (0, 0)) := by rw [hb2.block _ (by omega)]; exact r1
    have k0 : w2.cell? ⟨w1.heap.size, 0, none⟩ = some (.int .i64 1) := by rw [cell_of_row _ _ _ _ _ _ r2]; rfl
    have k4 : w2.cell? ⟨w1.heap.size, 4, none⟩ = some (.slice none 0 0) := by rw [cell_of_row _ _ _ _ _ _ r2]; rfl
    have f0 : w2.frozen? ⟨w1.heap.size, 0, none⟩ = false := frozen_of_row _ _ _ _ _ r2
    have f4 : w2.frozen? ⟨w1.heap.size, 4, none⟩ = false := frozen_of_row _ _ _ _ _ r2
    obtain ⟨Y, hY⟩ : ∃ Y, Y = (w2.setCell ⟨w1.heap.size, 0, none⟩ (.int .i64 3)).setCell ⟨w1.heap.size, 4, none⟩ (.slice ad c.deps.length cd) := ⟨_, rfl⟩
    have hother : ∀ k, k ≠ w1.heap.size → Y.heap[k]? = w2.heap[k]? := fun k hk => by rw [hY, Below.heap_setCell _ _ _ _ hk, Below.heap_setCell _ _ _ _ hk]
    have hzY : Y.heap.size = w2.heap.size := by rw [hY]; simp [World.setCell]
    have hYw : Below w.heap.size w Y := by
      have h1 := (hb.trans (hbX.mono (by omega))).trans (hb2.mono (by omega))
      rw [hY]
      exact (h1.setCell (by show w.heap.size ≤ w1.heap.size; omega) _).setCell (by show w.heap.size ≤ w1.heap.size; omega) _
    have rY : Y.heap[w1.heap.size]? = some (.cells #[.int .i64 3, .int .i64 n, .int .i64 id, .slice ao c.ops.length co, .slice ad c.deps.length cd, .slice none 0 0, .slice none 0 0] 43 (0, 0)) := by
      rw [hY, heap_setCell_same _ _ _ _ _ _ (heap_setCell_same _ _ _ _ _ _ r2)]
      rfl
    have rRY : Y.heap[w.heap.size + 1]? = some (.cells #[.int .i64 0, .int .i64 0, .int .i64 0, .slice none 0 0, .slice none 0 0, .slice none 0 0, .slice none 0 0] 43 (0, 0)) := by rw [hother _ (by omega), hb2.block _ (by omega)]; exact rR
    have HY : Hid (Y = (w2.setCell ⟨w1.heap.size, 0, none⟩ (.int .i64 3)).setCell ⟨w1.heap.size, 4, none⟩ (.slice ad c.deps.length cd)) := hY
    have HOY : Hid (OpsIn (fun b => W.heap.size ≤ b ∧ b ≠ w1.heap.size) Y ao c.ops) := by
      have h2 : OpsIn (fun b => W.heap.size ≤ b) w1 ao c.ops := HO1.out
      have h3 : OpsIn (fun b => W.heap.size ≤ b ∧ b ≠ w1.heap.size ∧ b < w1.heap.size) w1 ao c.ops := h2.mono (fun b hb h => ⟨h, by omega, hb⟩)
      exact (h3.later (w' := Y) (fun b _ hk => by rw [hother _ hk.2.1, hb2.block _ (by omega), hX1.block _ hk.2.2])).mono (fun b _ hk => ⟨hk.1, hk.2.1⟩)
    have HDY : Hid (IntsIn (fun b => X.heap.size ≤ b) Y ad c.deps) := by
      have h1 := own_same hown5 (w' := Y) (fun k hk => hother k (by have := (World.ownsRow.lt hown5 k hk).1; omega))
      obtain ⟨a', c', e, h3, _⟩ := (IsI.of_owns h1 hl5).mono (ok' := (X.heap.size ≤ ·)) (fun b _ hb => hb.1)
      cases e
      exact h3
    have HDS : Hid (SlInts w2 ad cd c.deps) := SlInts.of_owns hown5
    clear hY hown5
    go_upto_region 4 with fail
    rw [← HY.out]
    clear HY
    go_wp2_with (first
      | ((with_reducible apply wpl_row rY); (· rfl); (· exact row_frame); (· rfl); simp only [Act.put, List.setIfInBounds_toArray, List.set_cons_zero, List.set_cons_succ])
      | (refine wpList_store_row rfl 43 _ _ rfl (w.heap.size + 1) #[.int .i64 3, .int .i64 n, .int .i64 id, .slice ao c.ops.length co, .slice ad c.deps.length cd, .slice none 0 0, .slice none 0 0] rfl rfl 43 _ rRY Try.infoFrame7 rfl (frame7_one _ _ _ _ _ _ _ _ _ _ _ _ _ _ _) ?_)
      | fail)
    refine bodyPost_ret (v := .agg #[.int .i64 3, .int .i64 n, .int .i64 id, .slice ao c.ops.length co, .slice ad c.deps.length cd, .slice none 0 0, .slice none 0 0]) (results_cell_row Try.results95 _ _ (w.heap.size + 1) 43 #[.int .i64 3, .int .i64 n, .int .i64 id, .slice ao c.ops.length co, .slice ad c.deps.length cd, .slice none 0 0, .slice none 0 0] (0, 0) _ rfl (heap_setRow rRY) Try.underlying43 rfl Try.infoFrame7) rfl ⟨[.int .i64 3, .int .i64 n, .int .i64 id, .slice ao c.ops.length co, .slice ad c.deps.length cd, .slice none 0 0, .slice none 0 0], rfl, ?_, setRow_below hYw (by omega) _⟩
    rw [HM.out]
    refine ⟨_, _, _, _, _, _, _, _, rfl, ?_, ?_, slI_nil _ _, slI_nil _ _⟩
    · have h3 := HOY.out.later (w' := Y.setRow (w.heap.size + 1) #[.int .i64 3, .int .i64 n, .int .i64 id, .slice ao c.ops.length co, .slice ad c.deps.length cd, .slice none 0 0, .slice none 0 0]) (fun b _ hb => setRow_other _ _ (by omega))
      exact ⟨⟨h3.at, HO.out.1.2⟩, h3.mono (fun b _ hb => by show w.heap.size ≤ b; omega)⟩
    · have h3 := HDY.out.later (w' := Y.setRow (w.heap.size + 1) #[.int .i64 3, .int .i64 n, .int .i64 id, .slice ao c.ops.length co, .slice ad c.deps.length cd, .slice none 0 0, .slice none 0 0]) (fun b _ hb => setRow_other _ _ (by omega))
      exact ⟨⟨h3.at, HDS.out.2⟩, h3.mono (fun b _ hb => by show w.heap.size ≤ b; omega)⟩

end Go.Proofs.Ytkoefoccbjhoiab

namespace Go.Proofs.Ytkoefoccbjhoiab
open Go.RowKit

theorem FrC.len4 {ok : Nat → Prop} {base : Nat} {w : World} {v : Value} {fs : List FrameL} {css : List (List Value)} (h : FrC ok base w v fs css) {b : Nat} (hb : w.heap.size ≤ b) : v.ownBlock ≠ some b := fun e => by
  have := (World.ownsRow.lt h.own b e).2
  omega

set_option maxRecDepth 100000 in
set_option maxHeartbeats 2000000 in
theorem p_again (gr : Array Value) (c : CaseL) (id : Int) (w : World) (h : CaseV w gr c) :
    Calls Try.prog 48 #[.agg gr, .int .i64 id] w fun e w' => ∃ v, e = .returned v ∧ FramesV w.heap.size w' v (againC c id) ∧ Below w.heap.size w w' := by
  obtain ⟨W, hW⟩ : ∃ W, W = w.alloc (.cells gr 73) := ⟨_, rfl⟩
  have hb : Below w.heap.size w W := by rw [hW]; exact (Below.refl _ _).alloc (Nat.le_refl _) _
  have hzW : W.heap.size = w.heap.size + 1 := by rw [hW]; exact size_push _ _
  have hB : InBox w.heap.size W gr c := by rw [hW]; exact InBox.new h
  have rB := hB.row
  have tB := hB.case.row
  have HB : Hid (InBox w.heap.size W gr c) := hB
  have HW : Hid (W = w.alloc (.cells gr 73)) := hW
  clear hW hB h
  go_enter Try.func48, Try.ntmps48
  go_upto_region 1 with fail
  rw [← HW.out]
  clear HW
  go_wp2_with (first
    | ((with_reducible apply wpl_row rB); (· rfl); (· exact tB); (· rfl); simp only [Act.put, List.setIfInBounds_toArray, List.set_cons_zero, List.set_cons_succ])
    | fail)
  refine (p_isCaseOf gr c id W HB.out.case).mono ?_
  rintro e w1 ⟨rfl, hb1⟩
  have hbw1 := hb.trans (hb1.mono hb.size)
  have HB1 : Hid (InBox w.heap.size w1 gr c) := HB.out.later hb1
  have hz1 := hb1.size
  clear rB
  cases t1 : isCaseOfB c id
  · have HE : Hid (againC c id = []) := again_no (Or.inl t1)
    go_wp2
    go_ret
    exact ⟨_, rfl, by rw [HE.out]; exact FramesV.nil _ _, hbw1⟩
  have HT1 : Hid (isCaseOfB c id = true) := t1
  clear t1
  go_wp2_with fail
  refine (p_isTxn id w1).mono ?_
  rintro e w2 ⟨rfl, hw⟩
  subst hw
  by_cases t2 : 0 ≤ id ∧ id < 32
  rotate_left
  · have HE : Hid (againC c id = []) := again_no (Or.inr (by omega))
    have d2 : isTxnB id = false := decide_eq_false t2
    go_wp2
    go_ret
    exact ⟨_, rfl, by rw [HE.out]; exact FramesV.nil _ _, hbw1⟩
  have HE : Hid (againC c id = c.sends id 6) := again_yes HT1.out t2.1 t2.2
  have d2 : isTxnB id = true := decide_eq_true t2
  have h4 : c.ops.length ≤ 4 := by
    have := HT1.out
    unfold isCaseOfB at this
    simp only [Bool.and_eq_true] at this
    exact (good_case_len this.1.2 this.1.1).2
  have HBB : Hid (∀ wx, Below w2.heap.size w2 wx → InBox w.heap.size wx gr c) := fun wx hx => HB1.out.later hx
  have hzb : w.heap.size < w2.heap.size := by omega
  have HbW : Hid (Below w.heap.size w w2) := hbw1
  clear t2 HB1 hb1 hbw1 hb HB
  go_wp2
  go_loopw [5, 16] (fun l i wr => ∃ (k : Nat) (css : List (List Value)), k ≤ 6 ∧ i = .int .i64 k ∧ FrC (w2.heap.size ≤ ·) w2.heap.size wr l (c.sends id k) css ∧ Below w2.heap.size w2 wr) (fun _ i _ => 6 - (intOf i).toNat)
  case atStart => exact ⟨0, [], by omega, rfl, FrC.nil _ _ _, Below.refl _ _⟩
  case round =>
    obtain ⟨k, css, hk, rfl, hF, hBw⟩ := hrel
    have hsz := hBw.size
    by_cases hlt : k < 6
    · have hbx := HBB.out wr hBw
      have rB := hbx.row
      have HX : Hid (InBox w.heap.size wr gr c) := hbx
      have HF : Hid (FrC (w2.heap.size ≤ ·) w2.heap.size wr u5 (c.sends id k) css) := hF
      have HBw : Hid (Below w2.heap.size w2 wr) := hBw
      have hkk : (k : Int) < 6 := by omega
      clear hbx hF hBw
      go_wp2_with (first
        | ((with_reducible apply wpl_row rB); (· rfl); (· exact tB); (· rfl); simp only [Act.put, List.setIfInBounds_toArray, List.set_cons_zero, List.set_cons_succ])
        | fail)
      refine (p_lacks gr c k hlt wr HX.out.case h4).mono ?_
      rintro e w3 ⟨rfl, hb3⟩
      have HF3 : Hid (FrC (w2.heap.size ≤ ·) w2.heap.size w3 u5 (c.sends id k) css) := HF.out.later hb3
      have HX3 : Hid (InBox w.heap.size w3 gr c) := HX.out.later hb3
      have HB3 : Hid (Below w2.heap.size w2 w3) := HBw.out.trans (hb3.mono hsz)
      have hz3 := hb3.size
      clear hb3 rB HF HX HBw
      cases t3 : c.wants k
      · have HS : Hid (c.sends id (k + 1) = c.sends id k) := by unfold Hid; rw [sends_succ, t3]; simp
        go_wp2
        go_roundw
        case rel => exact ⟨k + 1, css, by omega, by go_num, by rw [HS.out]; exact HF3.out, HB3.out⟩
        case measure => simp [intOf]; omega
      · have HS : Hid (c.sends id (k + 1) = c.sends id k ++ [c.msg id k]) := by unfold Hid; rw [sends_succ, t3]; simp
        have rB3 := HX3.out.row
        go_wp2_with (first
          | ((with_reducible apply wpl_row rB3); (· rfl); (· exact tB); (· rfl); simp only [Act.put, List.setIfInBounds_toArray, List.set_cons_zero, List.set_cons_succ])
          | fail)
        refine (p_message gr c id k w3 HX3.out.case).mono ?_
        rintro e w4 ⟨cs, rfl, hf, hb4⟩
        obtain ⟨g, hg⟩ : ∃ g, g = c.msg id k := ⟨_, rfl⟩
        rw [← hg] at hf
        have HS2 : Hid (c.sends id (k + 1) = c.sends id k ++ [g]) := by unfold Hid; rw [hg]; exact HS.out
        have HF4 : Hid (FrC (w2.heap.size ≤ ·) w2.heap.size w4 u5 (c.sends id k) css) := HF3.out.later hb4
        have HB4 : Hid (Below w2.heap.size w2 w4) := HB3.out.trans (hb4.mono (by omega))
        have hz4 := hb4.size
        have HG : Hid (FrameIn (fun b => w2.heap.size ≤ b ∧ u5.ownBlock ≠ some b) w4 (.agg cs.toArray) g) := hf.mono (fun b _ hb => ⟨by show w2.heap.size ≤ b; omega, HF3.out.len4 hb⟩)
        obtain ⟨a3, c3, a4, c4, a5, c5, a6, c6, ecs, _⟩ := hf
        have ecs : cs.toArray = #[.int .i64 g.kind, .int .i64 g.node, .int .i64 g.id, .slice a3 g.ops.length c3, .slice a4 g.deps.length c4, .slice a5 g.ats.length c5, .slice a6 g.vals.length c6] := by simpa using ecs
        rw [ecs] at HG ⊢
        have HOW : Hid ((w4.alloc (.cells #[.int .i64 g.kind, .int .i64 g.node, .int .i64 g.id, .slice a3 g.ops.length c3, .slice a4 g.deps.length c4, .slice a5 g.ats.length c5, .slice a6 g.vals.length c6] 43)).ownsRow w2.heap.size 43 7 u5 (c.sends id k).length css.flatten) := HF4.out.own.alloc _
        have hl6 : (c.sends id k).length ≤ 6 := by have := sends_len c id k; omega
        clear hb4 hg HS rB3 HF3 HX3 HB3 ecs
        obtain ⟨i0, hi, iz0, iz1, iz2⟩ := info_parts Try.infoFrameZ
        go_wp2_with (first
          | (at_builtin; refine wpList_append_own_at _ rfl _ _ 46 rfl w2.heap.size 43 i0 _ 7 120 Try.underlying46 hi iz0 iz1 iz2 rfl (by decide) _ _ _ rfl HOW.out ⟨w4.heap.size, 0, none⟩ 1 1 [.int .i64 g.kind, .int .i64 g.node, .int .i64 g.id, .slice a3 g.ops.length c3, .slice a4 g.deps.length c4, .slice a5 g.ats.length c5, .slice a6 g.vals.length c6] rfl rfl (World.news_of_block (cs := #[.int .i64 g.kind, .int .i64 g.node, .int .i64 g.id, .slice a3 g.ops.length c3, .slice a4 g.deps.length c4, .slice a5 g.ats.length c5, .slice a6 g.vals.length c6]) (t := 43) (fr := (0, 0)) (heap_new w4 _)) ?c2 ?c3 ?c4 ?c5 ?_)
          | go_in)
        case c2 =>
          intro u hu
          simp at hu
          rcases hu with rfl | rfl | rfl | rfl | rfl | rfl | rfl <;> rfl
        case c3 => unfold maxLen; omega
        case c4 => omega
        case c5 => rw [size_push]; omega
        · intro v' Q hown' hgrow _ hat
          have hbA : Below w4.heap.size w4 (w4.alloc (.cells #[.int .i64 g.kind, .int .i64 g.node, .int .i64 g.id, .slice a3 g.ops.length c3, .slice a4 g.deps.length c4, .slice a5 g.ats.length c5, .slice a6 g.vals.length c6] 43)) := (Below.refl _ _).alloc (Nat.le_refl _) _
          have HFQ : Hid (FrC (w2.heap.size ≤ ·) w2.heap.size Q v' (c.sends id k ++ [g]) (css ++ [[.int .i64 g.kind, .int .i64 g.node, .int .i64 g.id, .slice a3 g.ops.length c3, .slice a4 g.deps.length c4, .slice a5 g.ats.length c5, .slice a6 g.vals.length c6]])) := (HF4.out.later hbA).snoc rfl (HG.out.same (SameOn.of_size hbA)) hown' hgrow (by rw [size_push]; exact hat)
          have HBQ : Hid (Below w2.heap.size w2 Q) := (HB4.out.trans (hbA.mono (by omega))).grown hgrow (by rw [size_push]; omega) (fun b hb => (World.ownsRow.lt HF4.out.own b hb).1)
          clear hown' hgrow hat hbA HOW hi iz0 iz1 iz2
          go_wp2
          go_roundw
          case rel => exact ⟨k + 1, _, by omega, by go_num, by rw [HS2.out]; exact HFQ.out, HBQ.out⟩
          case measure => simp [intOf]; omega
    · have hk6 : k = 6 := by omega
      subst hk6
      have HF : Hid (FrC (w2.heap.size ≤ ·) w2.heap.size wr u5 (c.sends id 6) css) := hF
      have HBw : Hid (Below w.heap.size w wr) := HbW.out.trans (hBw.mono (by omega))
      clear hF hBw
      go_wp2
      go_ret
      exact ⟨_, rfl, by rw [HE.out]; exact HF.out.v (by omega) (fun b hb => by have : w2.heap.size ≤ b := hb; omega), HBw.out⟩

end Go.Proofs.Ytkoefoccbjhoiab

namespace Go.Proofs.Ytkoefoccbjhoiab
open Go.RowKit
set_option linter.unusedSimpArgs false

/-- The cells of a case that is just begun. -/
def bcv (v : Value) (i : Nat) : Value := if i = 0 then .bool true else if i = 2 then v else zcv i
theorem brow_lit (v : Value) : rowF 24 (bcv v) = #[.bool true, .bool false, v, .bool false, .bool false, .bool false, .bool false, .bool false, .bool false, .bool false, .bool false, .bool false, .bool false, .bool false, .bool false, .slice none 0 0, .bool false, .bool false, .bool false, .bool false, .int .i64 0, .int .i64 0, .int .i64 0, .int .i64 0] := rfl
theorem begun_caseC {ok : Nat → Prop} {w : World} {v : Value} {ops : List OpL} (h : IsO ok w v ops) : CaseC ok w (bcv v) { zeroC with begun := true, ops := ops } := by
  have hz := zcv_case ok w
  refine ⟨rfl, rfl, h, fun i hi => ?_, fun i hi => ?_, IsI.nil _ _, fun i hi => ?_, fun i hi => ?_⟩
  · unfold bcv; rw [if_neg (by omega), if_neg (by omega)]; exact hz.told i hi
  · unfold bcv; rw [if_neg (by omega), if_neg (by omega)]; exact hz.known i hi
  · unfold bcv; rw [if_neg (by omega), if_neg (by omega)]; exact hz.has i hi
  · unfold bcv; rw [if_neg (by omega), if_neg (by omega)]; exact hz.vals i hi
theorem begun_case {w : World} {v : Value} {ops : List OpL} (h : IsO (· < w.heap.size) w v ops) : CaseV w (rowF 24 (bcv v)) { zeroC with begun := true, ops := ops } := ⟨bcv v, rfl, begun_caseC h⟩
theorem range_of_list {w : World} {b : Nat} {l : List Value} {t : TypeId} {fr : Nat × Nat} (h : w.heap[b]? = some (.cells l.toArray t fr)) : w.rangeAt b 0 l := by
  intro j v hv
  rw [cell_of_row w b (0 + j) _ _ _ h, Nat.zero_add]
  simpa using hv
theorem begin_range {n : Int} {ops : List OpL} (h : ¬ (0 ≤ n ∧ n < 32)) : beginC n ops = (zeroC, [], 2) := by unfold beginC; rw [if_pos (by omega)]
theorem begin_form {n : Int} {ops : List OpL} (h : 0 ≤ n ∧ n < 32) (h1 : goodOpsL ops = false) : beginC n ops = (zeroC, [], 1) := by unfold beginC; rw [if_neg (by omega), if_pos h1]
theorem begin_ok {n : Int} {ops : List OpL} (h : 0 ≤ n ∧ n < 32) (h1 : goodOpsL ops = true) : beginC n ops = ({ zeroC with begun := true, ops := ops }, againC { zeroC with begun := true, ops := ops } n, 0) := by unfold beginC; rw [if_neg (by omega), if_neg (by rw [h1]; decide)]

set_option maxRecDepth 100000 in
set_option maxHeartbeats 1000000 in
theorem begin_0 (n : Int) (a : Option Addr) (cap : Nat) (ops : List OpL) (w : World) (h : SlOps w a cap ops) (t2 : ¬ (0 ≤ n ∧ n < 32)) :
    Calls Try.prog 43 #[.agg #[.int .i64 n, .slice a ops.length cap]] w fun e w' => ∃ gr x, e = .returned (.tuple #[.agg gr, x, .int .i64 (beginC n ops).2.2]) ∧ CaseV w' gr (beginC n ops).1 ∧ FramesV w.heap.size w' x (beginC n ops).2.1 ∧ Below w.heap.size w w' := by
  obtain ⟨zr, hzr⟩ : ∃ zr, zr = rowF 24 zcv := ⟨_, rfl⟩
  have HZL : Hid ((#[.bool false, .bool false, .slice none 0 0, .bool false, .bool false, .bool false, .bool false, .bool false, .bool false, .bool false, .bool false, .bool false, .bool false, .bool false, .bool false, .slice none 0 0, .bool false, .bool false, .bool false, .bool false, .int .i64 0, .int .i64 0, .int .i64 0, .int .i64 0] : Array Value) = zr) := by unfold Hid; rw [hzr]; rfl
  have HZV : Hid (Value.agg #[.bool false, .bool false, .slice none 0 0, .bool false, .bool false, .bool false, .bool false, .bool false, .bool false, .bool false, .bool false, .bool false, .bool false, .bool false, .bool false, .slice none 0 0, .bool false, .bool false, .bool false, .bool false, .int .i64 0, .int .i64 0, .int .i64 0, .int .i64 0] = .agg zr) := by unfold Hid; rw [HZL.out]
  have HZC : Hid (∀ wx, CaseV wx zr zeroC) := fun wx => by rw [hzr]; exact zero_case wx
  obtain ⟨W, hW⟩ : ∃ W, W = (w.alloc (.cells #[.int .i64 n, .slice a ops.length cap] 68)).alloc (.cells zr 73) := ⟨_, rfl⟩
  have hb : Below w.heap.size w W := by rw [hW]; exact ((Below.refl _ _).alloc (Nat.le_refl _) _).alloc (by rw [size_push]; omega) _
  have hzW : W.heap.size = w.heap.size + 2 := by rw [hW, size_push, size_push]
  obtain ⟨r0, r1⟩ := two_rows w (.cells #[.int .i64 n, .slice a ops.length cap] 68) (.cells zr 73)
  rw [← hW] at r0 r1
  have q0 : W.cell? ⟨w.heap.size, 0, none⟩ = some (.int .i64 n) := by rw [cell_of_row _ _ _ _ _ _ r0]; rfl
  have q1 : W.cell? ⟨w.heap.size, 1, none⟩ = some (.slice a ops.length cap) := by rw [cell_of_row _ _ _ _ _ _ r0]; rfl
  have HW : Hid (W = (w.alloc (.cells #[.int .i64 n, .slice a ops.length cap] 68)).alloc (.cells zr 73)) := hW
  have HL : Hid (SlOps W a cap ops) := h.later hb
  have hzc : (Try.prog.info? 73).map (·.size) = some zr.size := (HZC.out w).info
  have hz1 : zr.all (·.oneCell') = true := (HZC.out w).one
  clear hW h hzr
  go_enter Try.func43, Try.ntmps43
  go_upto_region 1 with fail
  rw [HZL.out, ← HW.out]
  clear HW
  go_wp2_with fail
  refine (p_isTxn n W).mono ?_
  rintro e w2 ⟨rfl, hw⟩
  subst hw
  have HE : Hid (beginC n ops = (zeroC, [], 2)) := begin_range t2
  have d2 : isTxnB n = false := decide_eq_false t2
  clear t2
  go_wp2_with (first
    | (refine wpList_store_row rfl 73 _ _ rfl (w.heap.size + 1) zr rfl HZV.out 73 _ r1 hzc rfl hz1 ?_)
    | fail)
  refine bodyPost_ret (v := .tuple #[.agg zr, .slice none 0 0, .int .i64 2]) (results_row2 Try.results43 _ _ (w.heap.size + 1) 73 zr (0, 0) _ rfl (heap_setRow r1) Try.underlying73 rfl hzc _ _ rfl rfl) rfl ⟨_, _, by rw [HE.out], by rw [HE.out]; exact HZC.out _, by rw [HE.out]; exact FramesV.nil _ _, setRow_below hb (by omega) _⟩

set_option maxRecDepth 100000 in
set_option maxHeartbeats 1000000 in
theorem begin_1 (n : Int) (a : Option Addr) (cap : Nat) (ops : List OpL) (w : World) (h : SlOps w a cap ops) (t2 : 0 ≤ n ∧ n < 32) (t3 : goodOpsL ops = false) :
    Calls Try.prog 43 #[.agg #[.int .i64 n, .slice a ops.length cap]] w fun e w' => ∃ gr x, e = .returned (.tuple #[.agg gr, x, .int .i64 (beginC n ops).2.2]) ∧ CaseV w' gr (beginC n ops).1 ∧ FramesV w.heap.size w' x (beginC n ops).2.1 ∧ Below w.heap.size w w' := by
  obtain ⟨zr, hzr⟩ : ∃ zr, zr = rowF 24 zcv := ⟨_, rfl⟩
  have HZL : Hid ((#[.bool false, .bool false, .slice none 0 0, .bool false, .bool false, .bool false, .bool false, .bool false, .bool false, .bool false, .bool false, .bool false, .bool false, .bool false, .bool false, .slice none 0 0, .bool false, .bool false, .bool false, .bool false, .int .i64 0, .int .i64 0, .int .i64 0, .int .i64 0] : Array Value) = zr) := by unfold Hid; rw [hzr]; rfl
  have HZV : Hid (Value.agg #[.bool false, .bool false, .slice none 0 0, .bool false, .bool false, .bool false, .bool false, .bool false, .bool false, .bool false, .bool false, .bool false, .bool false, .bool false, .bool false, .slice none 0 0, .bool false, .bool false, .bool false, .bool false, .int .i64 0, .int .i64 0, .int .i64 0, .int .i64 0] = .agg zr) := by unfold Hid; rw [HZL.out]
  have HZC : Hid (∀ wx, CaseV wx zr zeroC) := fun wx => by rw [hzr]; exact zero_case wx
  obtain ⟨W, hW⟩ : ∃ W, W = (w.alloc (.cells #[.int .i64 n, .slice a ops.length cap] 68)).alloc (.cells zr 73) := ⟨_, rfl⟩
  have hb : Below w.heap.size w W := by rw [hW]; exact ((Below.refl _ _).alloc (Nat.le_refl _) _).alloc (by rw [size_push]; omega) _
  have hzW : W.heap.size = w.heap.size + 2 := by rw [hW, size_push, size_push]
  obtain ⟨r0, r1⟩ := two_rows w (.cells #[.int .i64 n, .slice a ops.length cap] 68) (.cells zr 73)
  rw [← hW] at r0 r1
  have q0 : W.cell? ⟨w.heap.size, 0, none⟩ = some (.int .i64 n) := by rw [cell_of_row _ _ _ _ _ _ r0]; rfl
  have q1 : W.cell? ⟨w.heap.size, 1, none⟩ = some (.slice a ops.length cap) := by rw [cell_of_row _ _ _ _ _ _ r0]; rfl
  have HW : Hid (W = (w.alloc (.cells #[.int .i64 n, .slice a ops.length cap] 68)).alloc (.cells zr 73)) := hW
  have HL : Hid (SlOps W a cap ops) := h.later hb
  have hzc : (Try.prog.info? 73).map (·.size) = some zr.size := (HZC.out w).info
  have hz1 : zr.all (·.oneCell') = true := (HZC.out w).one
  clear hW h hzr
  go_enter Try.func43, Try.ntmps43
  go_upto_region 1 with fail
  rw [HZL.out, ← HW.out]
  clear HW
  go_wp2_with fail
  refine (p_isTxn n W).mono ?_
  rintro e w2 ⟨rfl, hw⟩
  subst hw
  have HT2 : Hid (0 ≤ n ∧ n < 32) := t2
  have d2 : isTxnB n = true := decide_eq_true t2
  clear t2
  go_wp2_with fail
  refine (goodOps_any a cap ops w2 HL.out.2.1 HL.out.1).mono ?_
  rintro e w3 ⟨rfl, hb3⟩
  have hz3 := hb3.size
  have hbw : Below w.heap.size w w3 := hb.trans (hb3.mono (by omega))
  have r0' : w3.heap[w.heap.size]? = some (.cells #[.int .i64 n, .slice a ops.length cap] 68 (0, 0)) := by rw [hb3.block _ (by omega)]; exact r0
  have r1' : w3.heap[w.heap.size + 1]? = some (.cells zr 73 (0, 0)) := by rw [hb3.block _ (by omega)]; exact r1
  have q0' : w3.cell? ⟨w.heap.size, 0, none⟩ = some (.int .i64 n) := by rw [cell_of_row _ _ _ _ _ _ r0']; rfl
  have q1' : w3.cell? ⟨w.heap.size, 1, none⟩ = some (.slice a ops.length cap) := by rw [cell_of_row _ _ _ _ _ _ r0']; rfl
  have HL3 : Hid (SlOps w3 a cap ops) := HL.out.later hb3
  have HB3' : Hid (Below w.heap.size w w3) := hbw
  clear hb3 r0 r1 q0 q1 HL hb
  have HE : Hid (beginC n ops = (zeroC, [], 1)) := begin_form HT2.out t3
  go_wp2_with (first
    | (refine wpList_store_row rfl 73 _ _ rfl (w.heap.size + 1) zr rfl HZV.out 73 _ r1' hzc rfl hz1 ?_)
    | fail)
  refine bodyPost_ret (v := .tuple #[.agg zr, .slice none 0 0, .int .i64 1]) (results_row2 Try.results43 _ _ (w.heap.size + 1) 73 zr (0, 0) _ rfl (heap_setRow r1') Try.underlying73 rfl hzc _ _ rfl rfl) rfl ⟨_, _, by rw [HE.out], by rw [HE.out]; exact HZC.out _, by rw [HE.out]; exact FramesV.nil _ _, setRow_below HB3'.out (by omega) _⟩

set_option maxRecDepth 100000 in
set_option maxHeartbeats 1000000 in
theorem begin_2 (n : Int) (a : Option Addr) (cap : Nat) (ops : List OpL) (w : World) (h : SlOps w a cap ops) (t2 : 0 ≤ n ∧ n < 32) (t3 : goodOpsL ops = true) :
    Calls Try.prog 43 #[.agg #[.int .i64 n, .slice a ops.length cap]] w fun e w' => ∃ gr x, e = .returned (.tuple #[.agg gr, x, .int .i64 (beginC n ops).2.2]) ∧ (∃ nv, gr = rowF 24 nv ∧ CaseC (fun b => w.heap.size ≤ b) w' nv (beginC n ops).1) ∧ FramesV w.heap.size w' x (beginC n ops).2.1 ∧ Below w.heap.size w w' := by
  obtain ⟨zr, hzr⟩ : ∃ zr, zr = rowF 24 zcv := ⟨_, rfl⟩
  have HZL : Hid ((#[.bool false, .bool false, .slice none 0 0, .bool false, .bool false, .bool false, .bool false, .bool false, .bool false, .bool false, .bool false, .bool false, .bool false, .bool false, .bool false, .slice none 0 0, .bool false, .bool false, .bool false, .bool false, .int .i64 0, .int .i64 0, .int .i64 0, .int .i64 0] : Array Value) = zr) := by unfold Hid; rw [hzr]; rfl
  have HZV : Hid (Value.agg #[.bool false, .bool false, .slice none 0 0, .bool false, .bool false, .bool false, .bool false, .bool false, .bool false, .bool false, .bool false, .bool false, .bool false, .bool false, .bool false, .slice none 0 0, .bool false, .bool false, .bool false, .bool false, .int .i64 0, .int .i64 0, .int .i64 0, .int .i64 0] = .agg zr) := by unfold Hid; rw [HZL.out]
  have HZ0 : Hid ((Try.prog.info? 73).map (·.zero) = some (some (.agg zr))) := by unfold Hid; rw [hzr]; exact Try.zeroCase
  have HZC : Hid (∀ wx, CaseV wx zr zeroC) := fun wx => by rw [hzr]; exact zero_case wx
  obtain ⟨W, hW⟩ : ∃ W, W = (w.alloc (.cells #[.int .i64 n, .slice a ops.length cap] 68)).alloc (.cells zr 73) := ⟨_, rfl⟩
  have hb : Below w.heap.size w W := by rw [hW]; exact ((Below.refl _ _).alloc (Nat.le_refl _) _).alloc (by rw [size_push]; omega) _
  have hzW : W.heap.size = w.heap.size + 2 := by rw [hW, size_push, size_push]
  obtain ⟨r0, r1⟩ := two_rows w (.cells #[.int .i64 n, .slice a ops.length cap] 68) (.cells zr 73)
  rw [← hW] at r0 r1
  have q0 : W.cell? ⟨w.heap.size, 0, none⟩ = some (.int .i64 n) := by rw [cell_of_row _ _ _ _ _ _ r0]; rfl
  have q1 : W.cell? ⟨w.heap.size, 1, none⟩ = some (.slice a ops.length cap) := by rw [cell_of_row _ _ _ _ _ _ r0]; rfl
  have HW : Hid (W = (w.alloc (.cells #[.int .i64 n, .slice a ops.length cap] 68)).alloc (.cells zr 73)) := hW
  have HL : Hid (SlOps W a cap ops) := h.later hb
  have hzc : (Try.prog.info? 73).map (·.size) = some zr.size := (HZC.out w).info
  have hz1 : zr.all (·.oneCell') = true := (HZC.out w).one
  clear hW h hzr
  go_enter Try.func43, Try.ntmps43
  go_upto_region 1 with fail
  rw [HZL.out, ← HW.out]
  clear HW
  go_wp2_with fail
  refine (p_isTxn n W).mono ?_
  rintro e w2 ⟨rfl, hw⟩
  subst hw
  have HT2 : Hid (0 ≤ n ∧ n < 32) := t2
  have d2 : isTxnB n = true := decide_eq_true t2
  clear t2
  go_wp2_with fail
  refine (goodOps_any a cap ops w2 HL.out.2.1 HL.out.1).mono ?_
  rintro e w3 ⟨rfl, hb3⟩
  have hz3 := hb3.size
  have hbw : Below w.heap.size w w3 := hb.trans (hb3.mono (by omega))
  have r0' : w3.heap[w.heap.size]? = some (.cells #[.int .i64 n, .slice a ops.length cap] 68 (0, 0)) := by rw [hb3.block _ (by omega)]; exact r0
  have r1' : w3.heap[w.heap.size + 1]? = some (.cells zr 73 (0, 0)) := by rw [hb3.block _ (by omega)]; exact r1
  have q0' : w3.cell? ⟨w.heap.size, 0, none⟩ = some (.int .i64 n) := by rw [cell_of_row _ _ _ _ _ _ r0']; rfl
  have q1' : w3.cell? ⟨w.heap.size, 1, none⟩ = some (.slice a ops.length cap) := by rw [cell_of_row _ _ _ _ _ _ r0']; rfl
  have HL3 : Hid (SlOps w3 a cap ops) := HL.out.later hb3
  have HB3' : Hid (Below w.heap.size w w3) := hbw
  clear hb3 r0 r1 q0 q1 HL hb
  have HE : Hid (beginC n ops = ({ zeroC with begun := true, ops := ops }, againC { zeroC with begun := true, ops := ops } n, 0)) := begin_ok HT2.out t3
  have hl4 : ops.length ≤ 4 := by
    have := t3
    unfold goodOpsL at this
    simp at this
    omega
  go_wp2_with fail
  refine (cloneO_any a cap ops w3 HL3.out (by omega)).mono ?_
  rintro e w4 ⟨v, rfl, hown, _, hb4⟩
  obtain ⟨ao, co, rfl, _, _⟩ := own_form hown
  have hz4 := hb4.size
  obtain ⟨al, hal⟩ : ∃ al, al = (rowF 24 (bcv (.slice ao ops.length co))).toList := ⟨_, rfl⟩
  have HAL : Hid ((#[.bool true, .bool false, .slice ao ops.length co, .bool false, .bool false, .bool false, .bool false, .bool false, .bool false, .bool false, .bool false, .bool false, .bool false, .bool false, .bool false, .slice none 0 0, .bool false, .bool false, .bool false, .bool false, .int .i64 0, .int .i64 0, .int .i64 0, .int .i64 0] : Array Value) = al.toArray) := by unfold Hid; rw [hal, Array.toArray_toList]; exact (brow_lit _).symm
  obtain ⟨X, hX⟩ : ∃ X, X = (w4.alloc (.cells zr 73)).setRow w4.heap.size al.toArray := ⟨_, rfl⟩
  have rowZ : (w4.alloc (.cells zr 73)).heap[w4.heap.size]? = some (.cells zr 73 (0, 0)) := heap_new _ _
  have hX1 : Below w4.heap.size w4 X := by rw [hX]; exact setRow_below ((Below.refl _ _).alloc (Nat.le_refl _) _) (Nat.le_refl _) _
  have hbX : Below w3.heap.size w3 X := hb4.trans (hX1.mono hz4)
  have hzX : X.heap.size = w4.heap.size + 1 := by rw [hX, size_setRow]; exact size_push _ _
  have hIO : IsO (· < w4.heap.size) w4 (.slice ao ops.length co) ops := (IsO.of_owns hown (by omega)).mono (fun b hb _ => hb)
  have hV4 : CaseV w4 al.toArray { zeroC with begun := true, ops := ops } := by rw [hal, Array.toArray_toList]; exact begun_case hIO
  have hBX : InBox w4.heap.size X al.toArray { zeroC with begun := true, ops := ops } := ⟨by rw [hX]; exact heap_setRow rowZ, hV4.later hX1⟩
  have zal2 := hBX.case.info
  have hal1 := hBX.case.one
  have hzz : zr.size = al.toArray.size := by rw [hBX.case.size]; exact (HZC.out w).size
  have HAV : Hid (Value.agg #[.bool true, .bool false, .slice ao ops.length co, .bool false, .bool false, .bool false, .bool false, .bool false, .bool false, .bool false, .bool false, .bool false, .bool false, .bool false, .bool false, .slice none 0 0, .bool false, .bool false, .bool false, .bool false, .int .i64 0, .int .i64 0, .int .i64 0, .int .i64 0] = .agg al.toArray) := by unfold Hid; rw [HAL.out]
  have HX : Hid (X = (w4.alloc (.cells zr 73)).setRow w4.heap.size al.toArray) := hX
  have q0X : X.cell? ⟨w.heap.size, 0, none⟩ = some (.int .i64 n) := by rw [hbX.cell (p := ⟨w.heap.size, 0, none⟩) (show w.heap.size < w3.heap.size by omega)]; exact q0'
  have r1X : X.heap[w.heap.size + 1]? = some (.cells zr 73 (0, 0)) := by rw [hbX.block _ (by omega)]; exact r1'
  have hXw : Below w.heap.size w X := HB3'.out.trans (hbX.mono (by omega))
  have HALA : Hid (al.toArray = rowF 24 (bcv (.slice ao ops.length co))) := by unfold Hid; rw [hal]
  have HIO : Hid (IsO (fun b => w.heap.size + 2 ≤ b) X (.slice ao ops.length co) ops) := ((IsO.of_owns hown (by omega)).mono (fun b _ hb => by have := hb.1; show w.heap.size + 2 ≤ b; omega)).later (SameOn.of_size hX1)
  clear hX hal
  go_wp2_with (first
    | (refine wpList_alloc_as rfl 73 rfl zr HZ0.out ?_)
    | (refine wpList_store_row rfl 73 _ _ rfl w4.heap.size al.toArray rfl HAV.out 73 _ rowZ zal2 hzz hal1 ?_)
    | fail)
  rw [← HX.out]
  clear HX
  have zal := hBX.case.len
  rw [show al.toArray.toList = al from rfl] at zal
  have HAg : Hid (∀ wx, wx = X.drew → Calls Try.prog 48 #[.agg al.toArray, .int .i64 n] wx fun e w' => ∃ x, e = .returned x ∧ Hid (FramesV X.heap.size w' x (againC { zeroC with begun := true, ops := ops } n)) ∧ Hid (Below X.heap.size X w') ∧
      (w'.heap[w4.heap.size]? = some (.cells al.toArray 73 (0, 0)) ∧ w'.cell? ⟨w.heap.size, 0, none⟩ = some (.int .i64 n)) ∧ Hid (w'.heap[w.heap.size + 1]? = some (.cells zr 73 (0, 0)))) := by
    rintro wx rfl
    refine (p_again al.toArray { zeroC with begun := true, ops := ops } n _ (hBX.later (Below.drew (Below.refl _ _))).case).mono ?_
    rintro e w5 ⟨x, rfl, hfx, hb5⟩
    have hb5' : Below X.heap.size X w5 := (Below.drew (Below.refl _ _)).trans hb5
    exact ⟨x, rfl, hfx, hb5', ⟨(hBX.later hb5').row, by rw [hb5'.cell (p := ⟨w.heap.size, 0, none⟩) (show w.heap.size < X.heap.size by omega)]; exact q0X⟩, by unfold Hid; rw [hb5'.block _ (by omega)]; exact r1X⟩
  have HBX : Hid (InBox w4.heap.size X al.toArray { zeroC with begun := true, ops := ops }) := hBX
  have rX := hBX.row
  have HS5 : Hid (∀ w5 : World, (w5.heap[w4.heap.size]? = some (.cells al.toArray 73 (0, 0)) ∧ w5.cell? ⟨w.heap.size, 0, none⟩ = some (.int .i64 n)) → ((w5.setRow (w.heap.size + 1) al.toArray).heap[w4.heap.size]? = some (.cells al.toArray 73 (0, 0)) ∧ (w5.setRow (w.heap.size + 1) al.toArray).cell? ⟨w.heap.size, 0, none⟩ = some (.int .i64 n))) := by
    intro w5 hw5
    refine ⟨by rw [setRow_other _ _ (by omega)]; exact hw5.1, ?_⟩
    rw [World.cell?_of_block (setRow_other w5 (k := w.heap.size) al.toArray (by omega))]
    exact hw5.2
  clear hown hIO hV4 hBX
  refine wp_region_held_drew (S := fun w' => w'.heap[w4.heap.size]? = some (.cells al.toArray 73 (0, 0)) ∧ w'.cell? ⟨w.heap.size, 0, none⟩ = some (.int .i64 n)) (by kernel_rfl) ⟨rX, q0X⟩ ?_
  intro hH
  refine wpAnyH_takeD (i := 0) (d := some 20) (v := .agg al.toArray) rfl rfl (by kernel_rfl) (by kernel_rfl) (by kernel_rfl) (fun _ _ _ h => h) (yieldsIf_load_mid (by rfl) _ _ rfl _ _ rfl al _ (fun _ h => range_of_list h.1) Try.underlying73 rfl zal) hH ?_
  simp only [Act.put, List.setIfInBounds_toArray, List.set_cons_zero, List.set_cons_succ]
  refine wpAnyH_takeD (i := 1) (d := some 21) (v := .agg al.toArray) rfl rfl (by kernel_rfl) (by kernel_rfl) (by kernel_rfl) (fun _ _ _ h => h) (yieldsIf_load_mid (by rfl) _ _ rfl _ _ rfl al _ (fun _ h => range_of_list h.1) Try.underlying73 rfl zal) hH ?_
  simp only [Act.put, List.setIfInBounds_toArray, List.set_cons_zero, List.set_cons_succ]
  refine wpAnyH_takeD (i := 2) (d := some 22) (v := .pointer (some ⟨w.heap.size, 0, none⟩)) rfl rfl (by kernel_rfl) (by kernel_rfl) (by kernel_rfl) (fun _ _ _ h => h) (Or.inl ⟨by rfl, fun _ _ => by go_simp⟩) hH ?_
  simp only [Act.put, List.setIfInBounds_toArray, List.set_cons_zero, List.set_cons_succ]
  refine wpAnyH_takeD (i := 3) (d := some 23) (v := .int .i64 n) rfl rfl (by kernel_rfl) (by kernel_rfl) (by kernel_rfl) (fun _ _ _ h => h) (Or.inl ⟨by rfl, fun _ hS => by obtain ⟨hS1, hS2⟩ := hS; go_simp⟩) hH ?_
  simp only [Act.put, List.setIfInBounds_toArray, List.set_cons_zero, List.set_cons_succ]
  refine wpAnyH_ready (rs := [4]) (by kernel_rfl) (by simp) ?_
  refine AllReadyH.cons rfl (fun K hK => ?_) AllReadyH.nil
  go_simp
  refine (HAg.out _ rfl).mono ?_
  rintro e w3 ⟨x, rfl, HFx, HB3, hS3, hR3⟩
  go_wp2_with fail
  refine hK.out _ _ (hS3) (fun hH2 => ?_)
  clear hK K hH
  have hH := hH2
  clear hH2
  refine wpAnyH_ready (rs := [5]) (by kernel_rfl) (by simp) ?_
  refine AllReadyH.cons rfl (fun K hK => ?_) AllReadyH.nil
  rw [if_pos (by rfl)]
  refine wp_store_row 73 _ _ rfl (w.heap.size + 1) al.toArray rfl rfl 73 _ hR3.out zal2 hzz hal1 ?_
  refine hK.out _ _ (HS5.out w3 hS3) (fun hH2 => ?_)
  clear hK K hH
  have hH := hH2
  clear hH2
  refine wpAnyH_takeD (i := 6) (d := some 3) (v := x) rfl rfl (by kernel_rfl) (by kernel_rfl) (by kernel_rfl) (fun _ _ _ h => h) (Or.inl ⟨by rfl, fun _ _ => by go_simp⟩) hH ?_
  simp only [Act.put, List.setIfInBounds_toArray, List.set_cons_zero, List.set_cons_succ]
  refine wpAnyH_takeD (i := 7) (d := some 4) (v := .int .i64 0) rfl rfl (by kernel_rfl) (by kernel_rfl) (by kernel_rfl) (fun _ _ _ h => h) (Or.inl ⟨by rfl, fun _ _ => by go_simp⟩) hH ?_
  simp only [Act.put, List.setIfInBounds_toArray, List.set_cons_zero, List.set_cons_succ]
  refine wpAnyH_done (by kernel_rfl) ?_ _
  have hbY : Below w.heap.size w (w3.setRow (w.heap.size + 1) al.toArray) := setRow_below (hXw.trans (HB3.out.mono (by omega))) (by omega) _
  have HCV : Hid (∃ nv, al.toArray = rowF 24 nv ∧ CaseC (fun b => w.heap.size ≤ b) (w3.setRow (w.heap.size + 1) al.toArray) nv { zeroC with begun := true, ops := ops }) := by
    have h1 := HIO.out.later (SameOn.of_size HB3.out)
    have h2 := h1.later (w' := w3.setRow (w.heap.size + 1) al.toArray) (fun b _ hb => setRow_other _ _ (by omega))
    exact ⟨_, HALA.out, begun_caseC (h2.mono (fun b _ (hb : w.heap.size + 2 ≤ b) => by show w.heap.size ≤ b; omega))⟩
  have HFY : Hid (FramesV w.heap.size (w3.setRow (w.heap.size + 1) al.toArray) x (againC { zeroC with begun := true, ops := ops } n)) :=
    (HFx.out.same (w' := w3.setRow (w.heap.size + 1) al.toArray) (fun b _ hb => setRow_other _ _ (by omega))).mono (by omega)
  go_wp2
  refine bodyPost_ret (v := .tuple #[.agg al.toArray, x, .int .i64 0]) (results_row2 Try.results43 _ _ (w.heap.size + 1) 73 al.toArray (0, 0) _ rfl (heap_setRow hR3.out) Try.underlying73 rfl zal2 _ _ rfl rfl) rfl ⟨_, _, by rw [HE.out], by rw [HE.out]; exact HCV.out, by rw [HE.out]; exact HFY.out, hbY⟩

theorem p_begin (n : Int) (a : Option Addr) (cap : Nat) (ops : List OpL) (w : World) (h : SlOps w a cap ops) :
    Calls Try.prog 43 #[.agg #[.int .i64 n, .slice a ops.length cap]] w fun e w' => ∃ gr x, e = .returned (.tuple #[.agg gr, x, .int .i64 (beginC n ops).2.2]) ∧ CaseV w' gr (beginC n ops).1 ∧ FramesV w.heap.size w' x (beginC n ops).2.1 ∧ Below w.heap.size w w' := by
  by_cases t2 : 0 ≤ n ∧ n < 32
  · cases t3 : goodOpsL ops
    · exact begin_1 n a cap ops w h t2 t3
    · refine (begin_2 n a cap ops w h t2 t3).mono ?_
      rintro e w' ⟨gr, x, rfl, ⟨nv, e1, hc⟩, h2, h3⟩
      exact ⟨gr, x, rfl, ⟨nv, e1, hc.any⟩, h2, h3⟩
  · exact begin_0 n a cap ops w h t2

end Go.Proofs.Ytkoefoccbjhoiab
