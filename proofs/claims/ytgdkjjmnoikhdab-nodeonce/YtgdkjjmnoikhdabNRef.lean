/-
  The contracts of node's isNode and refusal.
-/
import Derived.Test.YtgdkjjmnoikhdabNGood2
import Derived.Deep.RegionWith
namespace Go.Proofs.Ytgdkjjmnoikhdab
open Go.RowKit

def nodeB (n : Int) : Bool := decide (0 ≤ n ∧ n < 6)

set_option maxRecDepth 100000 in
set_option maxHeartbeats 400000 in
theorem isNode_any (n : Int) (w : World) :
    Calls Try.prog 63 #[.int .i64 n] w fun e w' => e = .returned (.bool (nodeB n)) ∧ w' = w := by
  by_cases h1 : 0 ≤ n
  · have d1 : decide (0 ≤ n) = true := by simpa using h1
    by_cases h2 : n < 6
    · have E : Hid (nodeB n = true) := by unfold nodeB Hid; simp; omega
      have d2 : decide (n < 6) = true := by simpa using h2
      go_enter Try.func63, Try.ntmps63
      go_wp2
      go_ret
      exact ⟨ret_bool E.out.symm, rfl⟩
    · have E : Hid (nodeB n = false) := by unfold nodeB Hid; simp; omega
      have d2 : decide (n < 6) = false := by simpa using h2
      go_enter Try.func63, Try.ntmps63
      go_wp2
      go_ret
      exact ⟨ret_bool E.out.symm, rfl⟩
  · have E : Hid (nodeB n = false) := by unfold nodeB Hid; simp; omega
    have d1 : decide (0 ≤ n) = false := by simpa using h1
    go_enter Try.func63, Try.ntmps63
    go_wp2
    go_ret
    exact ⟨ret_bool E.out.symm, rfl⟩

def reasonN (s : NodeL) (who : Int) (f : FrameL) : Int :=
  if goodNB s = false ∨ nodeB who = false ∨ f.node ≠ who then 2
  else if goodL f ≠ 0 then goodL f
  else if f.kind = 1 then (if touchesL f.ops (ofL who) = false then 4 else 0)
  else if f.kind = 3 then 0 else 3
theorem reason_take (s : NodeL) (who : Int) (f : FrameL) : (takeN s who f).2.2 = reasonN s who f := by
  unfold takeN reasonN nodeB
  have hiff : (goodNB s = false ∨ decide (0 ≤ who ∧ who < 6) = false ∨ f.node ≠ who) ↔ (goodNB s = false ∨ who < 0 ∨ 5 < who ∨ f.node ≠ who) := by
    constructor
    · rintro (h | h | h)
      · exact Or.inl h
      · have := of_decide_eq_false h
        by_cases hw : who < 0
        · exact Or.inr (Or.inl hw)
        · exact Or.inr (Or.inr (Or.inl (by omega)))
      · exact Or.inr (Or.inr (Or.inr h))
    · rintro (h | h | h | h)
      · exact Or.inl h
      · exact Or.inr (Or.inl (decide_eq_false (by omega)))
      · exact Or.inr (Or.inl (decide_eq_false (by omega)))
      · exact Or.inr (Or.inr h)
  by_cases h1 : goodNB s = false ∨ who < 0 ∨ 5 < who ∨ f.node ≠ who
  · simp only [if_pos h1, if_pos (hiff.2 h1)]
  · simp only [if_neg h1, if_neg (mt hiff.1 h1)]
    by_cases h2 : goodL f ≠ 0
    · simp only [if_pos h2]
    · simp only [if_neg h2]
      by_cases h3 : f.kind = 1
      · simp only [if_pos h3]
        by_cases h4 : touchesL f.ops (ofL who) = false
        · simp only [if_pos h4]
        · simp only [if_neg h4]
      · simp only [if_neg h3]
        by_cases h4 : f.kind = 3
        · simp only [if_pos h4]
        · simp only [if_neg h4]

set_option maxRecDepth 100000 in
set_option maxHeartbeats 1000000 in
theorem refusal_any (nv : Nat → Value) (s : NodeL) (who : Int) (v : Value) (f : FrameL) (w : World) (h : NodeC (· < w.heap.size) w nv s) (hf : FrameV w v f) :
    Calls Try.prog 45 #[.agg (rowF 201 nv), .int .i64 who, v] w fun r w' => r = .returned (.int .i64 (reasonN s who f)) ∧ Below w.heap.size w w' := by
  obtain ⟨gr, hgr⟩ : ∃ gr, gr = rowF 201 nv := ⟨_, rfl⟩
  have hsizeN : (Try.prog.info? 41).map (·.size) = some gr.size := by rw [hgr, rowF_size]; exact Try.infoNode
  rw [← hgr]
  have HG : Hid (gr = rowF 201 nv) := hgr
  have HN : Hid (NodeC (· < w.heap.size) w nv s) := h
  have HF : Hid (FrameV w v f) := hf
  obtain ⟨a3, c3, a4, c4, a5, c5, a6, c6, rfl, h3, _⟩ := hf
  have H3 : Hid (SlOps w a3 c3 f.ops) := h3
  obtain ⟨W, hW⟩ : ∃ W, W = (w.alloc (.cells gr 41)).alloc (.cells #[.int .i64 f.kind, .int .i64 f.node, .int .i64 f.id, .slice a3 f.ops.length c3, .slice a4 f.deps.length c4, .slice a5 f.ats.length c5, .slice a6 f.vals.length c6] 43) := ⟨_, rfl⟩
  have hb : Below w.heap.size w W := by rw [hW]; exact ((Below.refl _ _).alloc (Nat.le_refl _) _).alloc (by rw [size_push]; omega) _
  have hzW : W.heap.size = w.heap.size + 2 := by rw [hW, size_push, size_push]
  obtain ⟨r0, r1⟩ := two_rows w (.cells gr 41) (.cells #[.int .i64 f.kind, .int .i64 f.node, .int .i64 f.id, .slice a3 f.ops.length c3, .slice a4 f.deps.length c4, .slice a5 f.ats.length c5, .slice a6 f.vals.length c6] 43)
  rw [← hW] at r0 r1
  have HW : Hid (W = (w.alloc (.cells gr 41)).alloc (.cells #[.int .i64 f.kind, .int .i64 f.node, .int .i64 f.id, .slice a3 f.ops.length c3, .slice a4 f.deps.length c4, .slice a5 f.ats.length c5, .slice a6 f.vals.length c6] 43)) := hW
  clear hgr h hW h3
  go_enter Try.func45, Try.ntmps45
  go_upto_region 1 with fail
  rw [← HW.out]
  clear HW
  go_wp2_with (refine wpList_load_row rfl 41 _ rfl w.heap.size rfl 41 gr (0, 0) _ r0 Try.underlying41 rfl hsizeN ?_)
  rw [HG.out]
  refine (good_any nv s W (HN.out.below hb)).mono ?_
  rintro r w1 ⟨rfl, hb1⟩
  have r2 : w1.heap[w.heap.size + 1]? = some (.cells #[.int .i64 f.kind, .int .i64 f.node, .int .i64 f.id, .slice a3 f.ops.length c3, .slice a4 f.deps.length c4, .slice a5 f.ats.length c5, .slice a6 f.vals.length c6] 43 (0, 0)) := by rw [hb1.block _ (by omega)]; exact r1
  have hbw1 : Below w.heap.size w w1 := hb.trans (hb1.mono (by omega))
  have hz1 : w.heap.size + 2 ≤ w1.heap.size := by have := hb1.size; omega
  have q0 : w1.cell? ⟨w.heap.size + 1, 0, none⟩ = some (.int .i64 f.kind) := by rw [cell_of_row _ _ _ _ _ _ r2]; rfl
  have q1 : w1.cell? ⟨w.heap.size + 1, 1, none⟩ = some (.int .i64 f.node) := by rw [cell_of_row _ _ _ _ _ _ r2]; rfl
  have q2 : w1.cell? ⟨w.heap.size + 1, 2, none⟩ = some (.int .i64 f.id) := by rw [cell_of_row _ _ _ _ _ _ r2]; rfl
  have q3 : w1.cell? ⟨w.heap.size + 1, 3, none⟩ = some (.slice a3 f.ops.length c3) := by rw [cell_of_row _ _ _ _ _ _ r2]; rfl
  have q4 : w1.cell? ⟨w.heap.size + 1, 4, none⟩ = some (.slice a4 f.deps.length c4) := by rw [cell_of_row _ _ _ _ _ _ r2]; rfl
  have q5 : w1.cell? ⟨w.heap.size + 1, 5, none⟩ = some (.slice a5 f.ats.length c5) := by rw [cell_of_row _ _ _ _ _ _ r2]; rfl
  have q6 : w1.cell? ⟨w.heap.size + 1, 6, none⟩ = some (.slice a6 f.vals.length c6) := by rw [cell_of_row _ _ _ _ _ _ r2]; rfl
  clear hb1 r0 r1 r2 hb hzW
  have HBW : Hid (Below w.heap.size w w1) := hbw1
  cases t1 : goodNB s
  · have E : Hid (reasonN s who f = 2) := by unfold reasonN Hid; rw [if_pos (Or.inl t1)]
    go_wp2
    go_ret
    exact ⟨ret_int E.out.symm, HBW.out⟩
  cases t2 : nodeB who
  · have E : Hid (reasonN s who f = 2) := by unfold reasonN Hid; rw [if_pos (Or.inr (Or.inl t2))]
    go_wp2_with (go_at_call 63; refine (isNode_any _ _).mono ?_; rintro e w' ⟨rfl, rfl⟩)
    go_ret
    exact ⟨ret_int E.out.symm, HBW.out⟩
  by_cases t3 : f.node = who
  · have d3 : (f.node != who) = false := by simpa using t3
    have g3 : ¬ (goodNB s = false ∨ nodeB who = false ∨ f.node ≠ who) := by
      rintro (h | h | h)
      · rw [t1] at h; cases h
      · rw [t2] at h; cases h
      · exact h t3
    have E : Hid (reasonN s who f = if goodL f ≠ 0 then goodL f else if f.kind = 1 then (if touchesL f.ops (ofL who) = false then 4 else 0) else if f.kind = 3 then 0 else 3) := by
      unfold reasonN Hid
      rw [if_neg g3]
    clear g3 t3
    go_wp2_with (go_at_call 63; refine (isNode_any _ _).mono ?_; rintro e w' ⟨rfl, rfl⟩)
    refine (wgood_any _ f _ (HF.out.later HBW.out)).mono ?_
    rintro r w2 ⟨rfl, hb2⟩
    rw [← hb2.cell (p := ⟨w.heap.size + 1, 0, none⟩) (by show w.heap.size + 1 < _; omega)] at q0
    rw [← hb2.cell (p := ⟨w.heap.size + 1, 3, none⟩) (by show w.heap.size + 1 < _; omega)] at q3
    have HB2 : Hid (Below w.heap.size w w2) := HBW.out.trans (hb2.mono (by omega))
    have hz2 : w.heap.size + 2 ≤ w2.heap.size := by have := hb2.size; omega
    clear hb2 q1 q2 q4 q5 q6 hbw1 HBW hz1
    by_cases t4 : goodL f = 0
    · have d4 : (goodL f != 0) = false := by simpa using t4
      have E2 : Hid (reasonN s who f = if f.kind = 1 then (if touchesL f.ops (ofL who) = false then 4 else 0) else if f.kind = 3 then 0 else 3) := by unfold Hid; rw [E.out, if_neg (by omega)]
      clear t4 E
      by_cases k1 : f.kind = 1
      · have d5 : (f.kind == 1) = true := by simpa using k1
        cases t6 : touchesL f.ops (ofL who)
        · have E3 : Hid (reasonN s who f = 4) := by unfold Hid; rw [E2.out, if_pos k1, if_pos t6]
          clear k1
          go_wp2
          go_region_with (first
            | (go_at_call 74; refine (of_any _ _).mono ?_; rintro e w' ⟨rfl, rfl⟩)
            | (go_at_call 73; refine (touches_any a3 c3 f.ops (ofL who) _ H3.out.2.1 (H3.out.later (HB2.out.drew)).1).mono ?_; rintro e w3 ⟨rfl, hb3⟩; have HB3 : Hid (Below w.heap.size w w3) := HB2.out.drew.trans (hb3.mono (show w.heap.size ≤ w2.heap.size by omega)); clear hb3))
          all_goals
            go_wp2
            go_ret
            exact ⟨ret_int E3.out.symm, HB3.out⟩
        · have E3 : Hid (reasonN s who f = 0) := by unfold Hid; rw [E2.out, if_pos k1, if_neg (by rw [t6]; decide)]
          clear k1
          go_wp2
          go_region_with (first
            | (go_at_call 74; refine (of_any _ _).mono ?_; rintro e w' ⟨rfl, rfl⟩)
            | (go_at_call 73; refine (touches_any a3 c3 f.ops (ofL who) _ H3.out.2.1 (H3.out.later (HB2.out.drew)).1).mono ?_; rintro e w3 ⟨rfl, hb3⟩; have HB3 : Hid (Below w.heap.size w w3) := HB2.out.drew.trans (hb3.mono (show w.heap.size ≤ w2.heap.size by omega)); clear hb3))
          all_goals
            go_wp2
            go_ret
            exact ⟨ret_int E3.out.symm, HB3.out⟩
      · have d5 : (f.kind == 1) = false := by simpa using k1
        by_cases k3 : f.kind = 3
        · have d6 : (f.kind == 3) = true := by simpa using k3
          have E3 : Hid (reasonN s who f = 0) := by unfold Hid; rw [E2.out, if_neg k1, if_pos k3]
          clear k1 k3
          go_wp2
          go_ret
          exact ⟨ret_int E3.out.symm, HB2.out⟩
        · have d6 : (f.kind == 3) = false := by simpa using k3
          have E3 : Hid (reasonN s who f = 3) := by unfold Hid; rw [E2.out, if_neg k1, if_neg k3]
          clear k1 k3
          go_wp2
          go_ret
          exact ⟨ret_int E3.out.symm, HB2.out⟩
    · have d4 : (goodL f != 0) = true := by simpa using t4
      have E3 : Hid (reasonN s who f = goodL f) := by unfold Hid; rw [E.out, if_pos t4]
      clear t4 E
      go_wp2
      go_ret
      exact ⟨ret_int E3.out.symm, HB2.out⟩
  · have d3 : (f.node != who) = true := by simpa using t3
    have E : Hid (reasonN s who f = 2) := by unfold reasonN Hid; rw [if_pos (Or.inr (Or.inr t3))]
    clear t3
    go_wp2_with (go_at_call 63; refine (isNode_any _ _).mono ?_; rintro e w' ⟨rfl, rfl⟩)
    go_ret
    exact ⟨ret_int E.out.symm, HBW.out⟩

end Go.Proofs.Ytgdkjjmnoikhdab
