/-
  The contract of post's takeTold.
-/
import Derived.Test.YtkoefoccbjhoiabPfx9
import Derived.Test.YtkoefoccbjhoiabPfx10
namespace Go.Proofs.Ytkoefoccbjhoiab
open Go.RowKit
set_option linter.unusedVariables false

theorem cell_apart {w : World} {B o k m : Nat} {v x : Value} (h : w.cell? ⟨k, m, none⟩ = some x) (hk : k ≠ B) : (w.setCell ⟨B, o, none⟩ v).cell? ⟨k, m, none⟩ = some x := by
  have e : (w.setCell ⟨B, o, none⟩ v).heap[k]? = w.heap[k]? := Below.heap_setCell _ _ _ _ hk
  rw [World.cell?_of_block (a := ⟨k, m, none⟩) e]
  exact h
theorem union_room (a b : List Int) : (joinL a b).length * 8 ≤ 140737488355328 := by
  have h1 : (joinL a b).length ≤ 32 := by
    unfold joinL unionTo
    rw [List.length_map]
    refine Nat.le_trans (List.length_filter_le _ _) ?_
    simp
  omega

set_option maxRecDepth 100000 in
set_option maxHeartbeats 2000000 in
theorem told_0 (lo B : Nat) (nv : Nat → Value) (c : CaseL) (v : Value) (f : FrameL) (w : World) (h : PBox lo B w nv c) (hf : FrameB B w v f) (hg : goodL f = 0) (hlo : lo ≤ w.heap.size) (t0 : c.fixed = true) :
    Calls Try.prog 99 #[.pointer (some ⟨B, 0, none⟩), v] w fun e w' => ∃ nv' x, e = .returned x ∧ PBox lo B w' nv' c ∧ FramesV w.heap.size w' x [] ∧ w.grownBy w' (some B) := by
  have Ht0 : Hid (c.fixed = true) := t0
  clear t0
  obtain ⟨n, hn6, en⟩ : ∃ n : Nat, n < 6 ∧ f.node = n := ⟨f.node.toNat, by have := (good_frame hg).2; omega, by have := (good_frame hg).2; omega⟩
  have HN : Hid (f.node.toNat = n) := by unfold Hid; omega
  have HNN : Hid (f.node = n) := en
  obtain ⟨a3, c3, a4, c4, a5, c5, a6, c6, rfl, _, h4, _, _⟩ := hf
  obtain ⟨W, hW⟩ : ∃ W, W = w.alloc (.cells #[.int .i64 f.kind, .int .i64 f.node, .int .i64 f.id, .slice a3 f.ops.length c3, .slice a4 f.deps.length c4, .slice a5 f.ats.length c5, .slice a6 f.vals.length c6] 43) := ⟨_, rfl⟩
  have hb : Below w.heap.size w W := by rw [hW]; exact (Below.refl _ _).alloc (Nat.le_refl _) _
  have hzW : W.heap.size = w.heap.size + 1 := by rw [hW]; exact size_push _ _
  have hP : PBox lo B W nv c := h.later hb
  have hBw : B < w.heap.size := h.blk.lt
  have r1 : W.heap[w.heap.size]? = some (.cells #[.int .i64 f.kind, .int .i64 f.node, .int .i64 f.id, .slice a3 f.ops.length c3, .slice a4 f.deps.length c4, .slice a5 f.ats.length c5, .slice a6 f.vals.length c6] 43 (0, 0)) := by rw [hW]; exact heap_new _ _
  have k1 : W.cell? ⟨w.heap.size, 1, none⟩ = some (.int .i64 n) := by rw [cell_of_row _ _ _ _ _ _ r1, ← en]; rfl
  have q1 := hP.box.fixed
  have q3 := hP.box.told hn6
  obtain ⟨a2, c2, q2, hs2, hl2⟩ := hP.box.ops
  have n1 : (0 : Int) ≤ (n : Int) ∧ (n : Int) < 6 := by omega
  have HP : Hid (PBox lo B W nv c) := hP
  have HW : Hid (W = w.alloc (.cells #[.int .i64 f.kind, .int .i64 f.node, .int .i64 f.id, .slice a3 f.ops.length c3, .slice a4 f.deps.length c4, .slice a5 f.ats.length c5, .slice a6 f.vals.length c6] 43)) := hW
  have HGw : Hid (w.grownBy W (some B)) := grownR_below (grownR_refl _ _) hb
  have HRW : Hid (W.heap[w.heap.size]? = some (.cells #[.int .i64 f.kind, .int .i64 f.node, .int .i64 f.id, .slice a3 f.ops.length c3, .slice a4 f.deps.length c4, .slice a5 f.ats.length c5, .slice a6 f.vals.length c6] 43 (0, 0))) := r1
  have H4 : Hid (SlInts w a4 c4 f.deps ∧ IntsIn (· < B) w a4 f.deps) := h4
  have Hbw : Hid (Below w.heap.size w W) := hb
  have HS2 : Hid (SlOps W a2 c2 c.ops) := hs2
  rw [Ht0.out] at q1
  clear hW hP h r1 en hb h4 hs2
  go_enter Try.func99, Try.ntmps99
  go_upto_region 1 with fail
  rw [← HW.out]
  clear HW
  refine wp_region_held_drew (S := fun w' => w'.cell? ⟨B, 1, none⟩ = some (.bool true) ∧ w'.cell? ⟨w.heap.size, 1, none⟩ = some (.int .i64 n) ∧ w'.cell? ⟨B, 3 + n, none⟩ = some (.bool (c.told n)) ∧ w'.cell? ⟨B, 2, none⟩ = some (.slice a2 c.ops.length c2)) (by kernel_rfl) ⟨q1, k1, q3, q2⟩ ?_
  intro hH
  refine wpAnyH_takeD (i := 0) (d := some 5) (v := .pointer (some ⟨B, 0, none⟩)) rfl rfl (by kernel_rfl) (by kernel_rfl) (by kernel_rfl) (fun _ _ _ h => h) (Or.inl ⟨by rfl, fun _ _ => by go_simp⟩) hH ?_
  simp only [Act.put, List.setIfInBounds_toArray, List.set_cons_zero, List.set_cons_succ]
  refine wpAnyH_takeD (i := 1) (d := some 6) (v := .pointer (some ⟨B, 0, none⟩)) rfl rfl (by kernel_rfl) (by kernel_rfl) (by kernel_rfl) (fun _ _ _ h => h) (Or.inl ⟨by rfl, fun _ _ => by go_simp⟩) hH ?_
  simp only [Act.put, List.setIfInBounds_toArray, List.set_cons_zero, List.set_cons_succ]
  refine wpAnyH_takeD (i := 2) (d := some 7) (v := .pointer (some ⟨B, 1, none⟩)) rfl rfl (by kernel_rfl) (by kernel_rfl) (by kernel_rfl) (fun _ _ _ h => h) (Or.inl ⟨by rfl, fun _ _ => by go_simp⟩) hH ?_
  simp only [Act.put, List.setIfInBounds_toArray, List.set_cons_zero, List.set_cons_succ]
  refine wpAnyH_takeD (i := 3) (d := some 8) (v := .bool true) rfl rfl (by kernel_rfl) (by kernel_rfl) (by kernel_rfl) (fun _ _ _ h => h) (Or.inl ⟨by rfl, fun _ hS => by obtain ⟨hS1, hS2, hS3, hS4⟩ := hS; go_simp⟩) hH ?_
  simp only [Act.put, List.setIfInBounds_toArray, List.set_cons_zero, List.set_cons_succ]
  refine wpAnyH_takeD (i := 4) (d := some 9) (v := .bool true) rfl rfl (by kernel_rfl) (by kernel_rfl) (by kernel_rfl) (fun _ _ _ h => h) (Or.inl ⟨by rfl, fun _ _ => by go_simp⟩) hH ?_
  simp only [Act.put, List.setIfInBounds_toArray, List.set_cons_zero, List.set_cons_succ]
  refine wpAnyH_takeD (i := 5) (d := some 10) (v := undef) rfl rfl (by kernel_rfl) (by kernel_rfl) (by kernel_rfl) (fun _ _ _ h => h) (Or.inr ⟨by rfl, rfl⟩) hH ?_
  simp only [Act.put, List.setIfInBounds_toArray, List.set_cons_zero, List.set_cons_succ]
  refine wpAnyH_takeD (i := 6) (d := some 11) (v := undef) rfl rfl (by kernel_rfl) (by kernel_rfl) (by kernel_rfl) (fun _ _ _ h => h) (Or.inr ⟨by rfl, rfl⟩) hH ?_
  simp only [Act.put, List.setIfInBounds_toArray, List.set_cons_zero, List.set_cons_succ]
  refine wpAnyH_takeD (i := 7) (d := some 12) (v := undef) rfl rfl (by kernel_rfl) (by kernel_rfl) (by kernel_rfl) (fun _ _ _ h => h) (Or.inr ⟨by rfl, rfl⟩) hH ?_
  simp only [Act.put, List.setIfInBounds_toArray, List.set_cons_zero, List.set_cons_succ]
  refine wpAnyH_takeD (i := 8) (d := some 13) (v := undef) rfl rfl (by kernel_rfl) (by kernel_rfl) (by kernel_rfl) (fun _ _ _ h => h) (Or.inr ⟨by rfl, rfl⟩) hH ?_
  simp only [Act.put, List.setIfInBounds_toArray, List.set_cons_zero, List.set_cons_succ]
  refine wpAnyH_takeD (i := 9) (d := some 14) (v := undef) rfl rfl (by kernel_rfl) (by kernel_rfl) (by kernel_rfl) (fun _ _ _ h => h) (Or.inr ⟨by rfl, rfl⟩) hH ?_
  simp only [Act.put, List.setIfInBounds_toArray, List.set_cons_zero, List.set_cons_succ]
  refine wpAnyH_takeD (i := 10) (d := some 15) (v := undef) rfl rfl (by kernel_rfl) (by kernel_rfl) (by kernel_rfl) (fun _ _ _ h => h) (Or.inr ⟨by rfl, rfl⟩) hH ?_
  simp only [Act.put, List.setIfInBounds_toArray, List.set_cons_zero, List.set_cons_succ]
  refine wpAnyH_takeD (i := 11) (d := some 16) (v := undef) rfl rfl (by kernel_rfl) (by kernel_rfl) (by kernel_rfl) (fun _ _ _ h => h) (Or.inr ⟨by rfl, rfl⟩) hH ?_
  simp only [Act.put, List.setIfInBounds_toArray, List.set_cons_zero, List.set_cons_succ]
  refine wpAnyH_takeD (i := 12) (d := some 17) (v := .bool true) rfl rfl (by kernel_rfl) (by kernel_rfl) (by kernel_rfl) (fun _ _ _ h => h) (Or.inl ⟨by rfl, fun _ _ => by go_simp⟩) hH ?_
  simp only [Act.put, List.setIfInBounds_toArray, List.set_cons_zero, List.set_cons_succ]
  refine wpAnyH_takeD (i := 13) (d := some 18) (v := .bool true) rfl rfl (by kernel_rfl) (by kernel_rfl) (by kernel_rfl) (fun _ _ _ h => h) (Or.inl ⟨by rfl, fun _ _ => by go_simp⟩) hH ?_
  simp only [Act.put, List.setIfInBounds_toArray, List.set_cons_zero, List.set_cons_succ]
  refine wpAnyH_takeD (i := 14) (d := some 19) (v := undef) rfl rfl (by kernel_rfl) (by kernel_rfl) (by kernel_rfl) (fun _ _ _ h => h) (Or.inr ⟨by rfl, rfl⟩) hH ?_
  simp only [Act.put, List.setIfInBounds_toArray, List.set_cons_zero, List.set_cons_succ]
  refine wpAnyH_takeD (i := 15) (d := some 20) (v := undef) rfl rfl (by kernel_rfl) (by kernel_rfl) (by kernel_rfl) (fun _ _ _ h => h) (Or.inr ⟨by rfl, rfl⟩) hH ?_
  simp only [Act.put, List.setIfInBounds_toArray, List.set_cons_zero, List.set_cons_succ]
  refine wpAnyH_takeD (i := 16) (d := some 21) (v := undef) rfl rfl (by kernel_rfl) (by kernel_rfl) (by kernel_rfl) (fun _ _ _ h => h) (Or.inr ⟨by rfl, rfl⟩) hH ?_
  simp only [Act.put, List.setIfInBounds_toArray, List.set_cons_zero, List.set_cons_succ]
  refine wpAnyH_takeD (i := 17) (d := some 22) (v := undef) rfl rfl (by kernel_rfl) (by kernel_rfl) (by kernel_rfl) (fun _ _ _ h => h) (Or.inr ⟨by rfl, rfl⟩) hH ?_
  simp only [Act.put, List.setIfInBounds_toArray, List.set_cons_zero, List.set_cons_succ]
  refine wpAnyH_takeD (i := 18) (d := some 23) (v := undef) rfl rfl (by kernel_rfl) (by kernel_rfl) (by kernel_rfl) (fun _ _ _ h => h) (Or.inr ⟨by rfl, rfl⟩) hH ?_
  simp only [Act.put, List.setIfInBounds_toArray, List.set_cons_zero, List.set_cons_succ]
  refine wpAnyH_takeD (i := 19) (d := some 24) (v := undef) rfl rfl (by kernel_rfl) (by kernel_rfl) (by kernel_rfl) (fun _ _ _ h => h) (Or.inr ⟨by rfl, rfl⟩) hH ?_
  simp only [Act.put, List.setIfInBounds_toArray, List.set_cons_zero, List.set_cons_succ]
  refine wpAnyH_takeD (i := 20) (d := some 25) (v := undef) rfl rfl (by kernel_rfl) (by kernel_rfl) (by kernel_rfl) (fun _ _ _ h => h) (Or.inr ⟨by rfl, rfl⟩) hH ?_
  simp only [Act.put, List.setIfInBounds_toArray, List.set_cons_zero, List.set_cons_succ]
  refine wpAnyH_takeD (i := 21) (d := some 26) (v := undef) rfl rfl (by kernel_rfl) (by kernel_rfl) (by kernel_rfl) (fun _ _ _ h => h) (Or.inr ⟨by rfl, rfl⟩) hH ?_
  simp only [Act.put, List.setIfInBounds_toArray, List.set_cons_zero, List.set_cons_succ]
  refine wpAnyH_takeD (i := 22) (d := some 27) (v := undef) rfl rfl (by kernel_rfl) (by kernel_rfl) (by kernel_rfl) (fun _ _ _ h => h) (Or.inr ⟨by rfl, rfl⟩) hH ?_
  simp only [Act.put, List.setIfInBounds_toArray, List.set_cons_zero, List.set_cons_succ]
  refine wpAnyH_takeD (i := 23) (d := some 28) (v := .bool true) rfl rfl (by kernel_rfl) (by kernel_rfl) (by kernel_rfl) (fun _ _ _ h => h) (Or.inl ⟨by rfl, fun _ _ => by go_simp⟩) hH ?_
  simp only [Act.put, List.setIfInBounds_toArray, List.set_cons_zero, List.set_cons_succ]
  refine wpAnyH_done (by kernel_rfl) ?_ _
  go_wp2
  go_ret
  exact ⟨nv, _, rfl, HP.out.drew, FramesV.nil _ _, grownR_drew HGw.out⟩

set_option maxRecDepth 100000 in
set_option maxHeartbeats 2000000 in
theorem told_1 (lo B : Nat) (nv : Nat → Value) (c : CaseL) (v : Value) (f : FrameL) (w : World) (h : PBox lo B w nv c) (hf : FrameB B w v f) (hg : goodL f = 0) (hlo : lo ≤ w.heap.size) (t0 : c.fixed = false) (t1 : c.told f.node.toNat = true) :
    Calls Try.prog 99 #[.pointer (some ⟨B, 0, none⟩), v] w fun e w' => ∃ nv' x, e = .returned x ∧ PBox lo B w' nv' c ∧ FramesV w.heap.size w' x [] ∧ w.grownBy w' (some B) := by
  have Ht0 : Hid (c.fixed = false) := t0
  have Ht1 : Hid (c.told f.node.toNat = true) := t1
  clear t0 t1
  obtain ⟨n, hn6, en⟩ : ∃ n : Nat, n < 6 ∧ f.node = n := ⟨f.node.toNat, by have := (good_frame hg).2; omega, by have := (good_frame hg).2; omega⟩
  have HN : Hid (f.node.toNat = n) := by unfold Hid; omega
  have HNN : Hid (f.node = n) := en
  obtain ⟨a3, c3, a4, c4, a5, c5, a6, c6, rfl, _, h4, _, _⟩ := hf
  obtain ⟨W, hW⟩ : ∃ W, W = w.alloc (.cells #[.int .i64 f.kind, .int .i64 f.node, .int .i64 f.id, .slice a3 f.ops.length c3, .slice a4 f.deps.length c4, .slice a5 f.ats.length c5, .slice a6 f.vals.length c6] 43) := ⟨_, rfl⟩
  have hb : Below w.heap.size w W := by rw [hW]; exact (Below.refl _ _).alloc (Nat.le_refl _) _
  have hzW : W.heap.size = w.heap.size + 1 := by rw [hW]; exact size_push _ _
  have hP : PBox lo B W nv c := h.later hb
  have hBw : B < w.heap.size := h.blk.lt
  have r1 : W.heap[w.heap.size]? = some (.cells #[.int .i64 f.kind, .int .i64 f.node, .int .i64 f.id, .slice a3 f.ops.length c3, .slice a4 f.deps.length c4, .slice a5 f.ats.length c5, .slice a6 f.vals.length c6] 43 (0, 0)) := by rw [hW]; exact heap_new _ _
  have k1 : W.cell? ⟨w.heap.size, 1, none⟩ = some (.int .i64 n) := by rw [cell_of_row _ _ _ _ _ _ r1, ← en]; rfl
  have q1 := hP.box.fixed
  have q3 := hP.box.told hn6
  obtain ⟨a2, c2, q2, hs2, hl2⟩ := hP.box.ops
  have n1 : (0 : Int) ≤ (n : Int) ∧ (n : Int) < 6 := by omega
  have HP : Hid (PBox lo B W nv c) := hP
  have HW : Hid (W = w.alloc (.cells #[.int .i64 f.kind, .int .i64 f.node, .int .i64 f.id, .slice a3 f.ops.length c3, .slice a4 f.deps.length c4, .slice a5 f.ats.length c5, .slice a6 f.vals.length c6] 43)) := hW
  have HGw : Hid (w.grownBy W (some B)) := grownR_below (grownR_refl _ _) hb
  have HRW : Hid (W.heap[w.heap.size]? = some (.cells #[.int .i64 f.kind, .int .i64 f.node, .int .i64 f.id, .slice a3 f.ops.length c3, .slice a4 f.deps.length c4, .slice a5 f.ats.length c5, .slice a6 f.vals.length c6] 43 (0, 0))) := r1
  have H4 : Hid (SlInts w a4 c4 f.deps ∧ IntsIn (· < B) w a4 f.deps) := h4
  have Hbw : Hid (Below w.heap.size w W) := hb
  have HS2 : Hid (SlOps W a2 c2 c.ops) := hs2
  rw [Ht0.out] at q1
  rw [← HN.out, Ht1.out, HN.out] at q3
  clear hW hP h r1 en hb h4 hs2
  go_enter Try.func99, Try.ntmps99
  go_upto_region 1 with fail
  rw [← HW.out]
  clear HW
  refine wp_region_held_drew (S := fun w' => w'.cell? ⟨B, 1, none⟩ = some (.bool false) ∧ w'.cell? ⟨w.heap.size, 1, none⟩ = some (.int .i64 n) ∧ w'.cell? ⟨B, 3 + n, none⟩ = some (.bool true) ∧ w'.cell? ⟨B, 2, none⟩ = some (.slice a2 c.ops.length c2)) (by kernel_rfl) ⟨q1, k1, q3, q2⟩ ?_
  intro hH
  refine wpAnyH_takeD (i := 0) (d := some 5) (v := .pointer (some ⟨B, 0, none⟩)) rfl rfl (by kernel_rfl) (by kernel_rfl) (by kernel_rfl) (fun _ _ _ h => h) (Or.inl ⟨by rfl, fun _ _ => by go_simp⟩) hH ?_
  simp only [Act.put, List.setIfInBounds_toArray, List.set_cons_zero, List.set_cons_succ]
  refine wpAnyH_takeD (i := 1) (d := some 6) (v := .pointer (some ⟨B, 0, none⟩)) rfl rfl (by kernel_rfl) (by kernel_rfl) (by kernel_rfl) (fun _ _ _ h => h) (Or.inl ⟨by rfl, fun _ _ => by go_simp⟩) hH ?_
  simp only [Act.put, List.setIfInBounds_toArray, List.set_cons_zero, List.set_cons_succ]
  refine wpAnyH_takeD (i := 2) (d := some 7) (v := .pointer (some ⟨B, 1, none⟩)) rfl rfl (by kernel_rfl) (by kernel_rfl) (by kernel_rfl) (fun _ _ _ h => h) (Or.inl ⟨by rfl, fun _ _ => by go_simp⟩) hH ?_
  simp only [Act.put, List.setIfInBounds_toArray, List.set_cons_zero, List.set_cons_succ]
  refine wpAnyH_takeD (i := 3) (d := some 8) (v := .bool false) rfl rfl (by kernel_rfl) (by kernel_rfl) (by kernel_rfl) (fun _ _ _ h => h) (Or.inl ⟨by rfl, fun _ hS => by obtain ⟨hS1, hS2, hS3, hS4⟩ := hS; go_simp⟩) hH ?_
  simp only [Act.put, List.setIfInBounds_toArray, List.set_cons_zero, List.set_cons_succ]
  refine wpAnyH_takeD (i := 4) (d := some 9) (v := .bool false) rfl rfl (by kernel_rfl) (by kernel_rfl) (by kernel_rfl) (fun _ _ _ h => h) (Or.inl ⟨by rfl, fun _ _ => by go_simp⟩) hH ?_
  simp only [Act.put, List.setIfInBounds_toArray, List.set_cons_zero, List.set_cons_succ]
  refine wpAnyH_takeD (i := 5) (d := some 10) (v := .pointer (some ⟨B, 0, none⟩)) rfl rfl (by kernel_rfl) (by kernel_rfl) (by kernel_rfl) (fun _ _ _ h => h) (Or.inl ⟨by rfl, fun _ _ => by go_simp⟩) hH ?_
  simp only [Act.put, List.setIfInBounds_toArray, List.set_cons_zero, List.set_cons_succ]
  refine wpAnyH_takeD (i := 6) (d := some 11) (v := .pointer (some ⟨w.heap.size, 1, none⟩)) rfl rfl (by kernel_rfl) (by kernel_rfl) (by kernel_rfl) (fun _ _ _ h => h) (Or.inl ⟨by rfl, fun _ _ => by go_simp⟩) hH ?_
  simp only [Act.put, List.setIfInBounds_toArray, List.set_cons_zero, List.set_cons_succ]
  refine wpAnyH_takeD (i := 7) (d := some 12) (v := .int .i64 n) rfl rfl (by kernel_rfl) (by kernel_rfl) (by kernel_rfl) (fun _ _ _ h => h) (Or.inl ⟨by rfl, fun _ hS => by obtain ⟨hS1, hS2, hS3, hS4⟩ := hS; go_simp⟩) hH ?_
  simp only [Act.put, List.setIfInBounds_toArray, List.set_cons_zero, List.set_cons_succ]
  refine wpAnyH_takeD (i := 8) (d := some 13) (v := .pointer (some ⟨B, 0, none⟩)) rfl rfl (by kernel_rfl) (by kernel_rfl) (by kernel_rfl) (fun _ _ _ h => h) (Or.inl ⟨by rfl, fun _ _ => by go_simp⟩) hH ?_
  simp only [Act.put, List.setIfInBounds_toArray, List.set_cons_zero, List.set_cons_succ]
  refine wpAnyH_takeD (i := 9) (d := some 14) (v := .pointer (some ⟨B, 3, none⟩)) rfl rfl (by kernel_rfl) (by kernel_rfl) (by kernel_rfl) (fun _ _ _ h => h) (Or.inl ⟨by rfl, fun _ _ => by go_simp⟩) hH ?_
  simp only [Act.put, List.setIfInBounds_toArray, List.set_cons_zero, List.set_cons_succ]
  refine wpAnyH_takeD (i := 10) (d := some 15) (v := .pointer (some ⟨B, 3 + n, none⟩)) rfl rfl (by kernel_rfl) (by kernel_rfl) (by kernel_rfl) (fun _ _ _ h => h) (Or.inl ⟨by rfl, fun _ _ => by go_simp⟩) hH ?_
  simp only [Act.put, List.setIfInBounds_toArray, List.set_cons_zero, List.set_cons_succ]
  refine wpAnyH_takeD (i := 11) (d := some 16) (v := .bool true) rfl rfl (by kernel_rfl) (by kernel_rfl) (by kernel_rfl) (fun _ _ _ h => h) (Or.inl ⟨by rfl, fun _ hS => by obtain ⟨hS1, hS2, hS3, hS4⟩ := hS; go_simp⟩) hH ?_
  simp only [Act.put, List.setIfInBounds_toArray, List.set_cons_zero, List.set_cons_succ]
  refine wpAnyH_takeD (i := 12) (d := some 17) (v := .bool true) rfl rfl (by kernel_rfl) (by kernel_rfl) (by kernel_rfl) (fun _ _ _ h => h) (Or.inl ⟨by rfl, fun _ _ => by go_simp⟩) hH ?_
  simp only [Act.put, List.setIfInBounds_toArray, List.set_cons_zero, List.set_cons_succ]
  refine wpAnyH_takeD (i := 13) (d := some 18) (v := .bool true) rfl rfl (by kernel_rfl) (by kernel_rfl) (by kernel_rfl) (fun _ _ _ h => h) (Or.inl ⟨by rfl, fun _ _ => by go_simp⟩) hH ?_
  simp only [Act.put, List.setIfInBounds_toArray, List.set_cons_zero, List.set_cons_succ]
  refine wpAnyH_takeD (i := 14) (d := some 19) (v := undef) rfl rfl (by kernel_rfl) (by kernel_rfl) (by kernel_rfl) (fun _ _ _ h => h) (Or.inr ⟨by rfl, rfl⟩) hH ?_
  simp only [Act.put, List.setIfInBounds_toArray, List.set_cons_zero, List.set_cons_succ]
  refine wpAnyH_takeD (i := 15) (d := some 20) (v := undef) rfl rfl (by kernel_rfl) (by kernel_rfl) (by kernel_rfl) (fun _ _ _ h => h) (Or.inr ⟨by rfl, rfl⟩) hH ?_
  simp only [Act.put, List.setIfInBounds_toArray, List.set_cons_zero, List.set_cons_succ]
  refine wpAnyH_takeD (i := 16) (d := some 21) (v := undef) rfl rfl (by kernel_rfl) (by kernel_rfl) (by kernel_rfl) (fun _ _ _ h => h) (Or.inr ⟨by rfl, rfl⟩) hH ?_
  simp only [Act.put, List.setIfInBounds_toArray, List.set_cons_zero, List.set_cons_succ]
  refine wpAnyH_takeD (i := 17) (d := some 22) (v := undef) rfl rfl (by kernel_rfl) (by kernel_rfl) (by kernel_rfl) (fun _ _ _ h => h) (Or.inr ⟨by rfl, rfl⟩) hH ?_
  simp only [Act.put, List.setIfInBounds_toArray, List.set_cons_zero, List.set_cons_succ]
  refine wpAnyH_takeD (i := 18) (d := some 23) (v := undef) rfl rfl (by kernel_rfl) (by kernel_rfl) (by kernel_rfl) (fun _ _ _ h => h) (Or.inr ⟨by rfl, rfl⟩) hH ?_
  simp only [Act.put, List.setIfInBounds_toArray, List.set_cons_zero, List.set_cons_succ]
  refine wpAnyH_takeD (i := 19) (d := some 24) (v := undef) rfl rfl (by kernel_rfl) (by kernel_rfl) (by kernel_rfl) (fun _ _ _ h => h) (Or.inr ⟨by rfl, rfl⟩) hH ?_
  simp only [Act.put, List.setIfInBounds_toArray, List.set_cons_zero, List.set_cons_succ]
  refine wpAnyH_takeD (i := 20) (d := some 25) (v := undef) rfl rfl (by kernel_rfl) (by kernel_rfl) (by kernel_rfl) (fun _ _ _ h => h) (Or.inr ⟨by rfl, rfl⟩) hH ?_
  simp only [Act.put, List.setIfInBounds_toArray, List.set_cons_zero, List.set_cons_succ]
  refine wpAnyH_takeD (i := 21) (d := some 26) (v := undef) rfl rfl (by kernel_rfl) (by kernel_rfl) (by kernel_rfl) (fun _ _ _ h => h) (Or.inr ⟨by rfl, rfl⟩) hH ?_
  simp only [Act.put, List.setIfInBounds_toArray, List.set_cons_zero, List.set_cons_succ]
  refine wpAnyH_takeD (i := 22) (d := some 27) (v := undef) rfl rfl (by kernel_rfl) (by kernel_rfl) (by kernel_rfl) (fun _ _ _ h => h) (Or.inr ⟨by rfl, rfl⟩) hH ?_
  simp only [Act.put, List.setIfInBounds_toArray, List.set_cons_zero, List.set_cons_succ]
  refine wpAnyH_takeD (i := 23) (d := some 28) (v := .bool true) rfl rfl (by kernel_rfl) (by kernel_rfl) (by kernel_rfl) (fun _ _ _ h => h) (Or.inl ⟨by rfl, fun _ _ => by go_simp⟩) hH ?_
  simp only [Act.put, List.setIfInBounds_toArray, List.set_cons_zero, List.set_cons_succ]
  refine wpAnyH_done (by kernel_rfl) ?_ _
  go_wp2
  go_ret
  exact ⟨nv, _, rfl, HP.out.drew, FramesV.nil _ _, grownR_drew HGw.out⟩

set_option maxRecDepth 100000 in
set_option maxHeartbeats 2000000 in
theorem told_2 (lo B : Nat) (nv : Nat → Value) (c : CaseL) (v : Value) (f : FrameL) (w : World) (h : PBox lo B w nv c) (hf : FrameB B w v f) (hg : goodL f = 0) (hlo : lo ≤ w.heap.size) (t0 : c.fixed = false) (t1 : c.told f.node.toNat = false) (t2 : touchesL c.ops (ofL f.node) = false) :
    Calls Try.prog 99 #[.pointer (some ⟨B, 0, none⟩), v] w fun e w' => ∃ nv' x, e = .returned x ∧ PBox lo B w' nv' c ∧ FramesV w.heap.size w' x [] ∧ w.grownBy w' (some B) := by
  have Ht0 : Hid (c.fixed = false) := t0
  have Ht1 : Hid (c.told f.node.toNat = false) := t1
  have Ht2 : Hid (touchesL c.ops (ofL f.node) = false) := t2
  clear t0 t1 t2
  obtain ⟨n, hn6, en⟩ : ∃ n : Nat, n < 6 ∧ f.node = n := ⟨f.node.toNat, by have := (good_frame hg).2; omega, by have := (good_frame hg).2; omega⟩
  have HN : Hid (f.node.toNat = n) := by unfold Hid; omega
  have HNN : Hid (f.node = n) := en
  obtain ⟨a3, c3, a4, c4, a5, c5, a6, c6, rfl, _, h4, _, _⟩ := hf
  obtain ⟨W, hW⟩ : ∃ W, W = w.alloc (.cells #[.int .i64 f.kind, .int .i64 f.node, .int .i64 f.id, .slice a3 f.ops.length c3, .slice a4 f.deps.length c4, .slice a5 f.ats.length c5, .slice a6 f.vals.length c6] 43) := ⟨_, rfl⟩
  have hb : Below w.heap.size w W := by rw [hW]; exact (Below.refl _ _).alloc (Nat.le_refl _) _
  have hzW : W.heap.size = w.heap.size + 1 := by rw [hW]; exact size_push _ _
  have hP : PBox lo B W nv c := h.later hb
  have hBw : B < w.heap.size := h.blk.lt
  have r1 : W.heap[w.heap.size]? = some (.cells #[.int .i64 f.kind, .int .i64 f.node, .int .i64 f.id, .slice a3 f.ops.length c3, .slice a4 f.deps.length c4, .slice a5 f.ats.length c5, .slice a6 f.vals.length c6] 43 (0, 0)) := by rw [hW]; exact heap_new _ _
  have k1 : W.cell? ⟨w.heap.size, 1, none⟩ = some (.int .i64 n) := by rw [cell_of_row _ _ _ _ _ _ r1, ← en]; rfl
  have q1 := hP.box.fixed
  have q3 := hP.box.told hn6
  obtain ⟨a2, c2, q2, hs2, hl2⟩ := hP.box.ops
  have n1 : (0 : Int) ≤ (n : Int) ∧ (n : Int) < 6 := by omega
  have HP : Hid (PBox lo B W nv c) := hP
  have HW : Hid (W = w.alloc (.cells #[.int .i64 f.kind, .int .i64 f.node, .int .i64 f.id, .slice a3 f.ops.length c3, .slice a4 f.deps.length c4, .slice a5 f.ats.length c5, .slice a6 f.vals.length c6] 43)) := hW
  have HGw : Hid (w.grownBy W (some B)) := grownR_below (grownR_refl _ _) hb
  have HRW : Hid (W.heap[w.heap.size]? = some (.cells #[.int .i64 f.kind, .int .i64 f.node, .int .i64 f.id, .slice a3 f.ops.length c3, .slice a4 f.deps.length c4, .slice a5 f.ats.length c5, .slice a6 f.vals.length c6] 43 (0, 0))) := r1
  have H4 : Hid (SlInts w a4 c4 f.deps ∧ IntsIn (· < B) w a4 f.deps) := h4
  have Hbw : Hid (Below w.heap.size w W) := hb
  have HS2 : Hid (SlOps W a2 c2 c.ops) := hs2
  rw [Ht0.out] at q1
  rw [← HN.out, Ht1.out, HN.out] at q3
  clear hW hP h r1 en hb h4 hs2
  have HTo : Hid (∀ wx, wx = W.drew → Calls Try.prog 57 #[.slice a2 c.ops.length c2, .int .i64 (ofL n)] wx fun e w' => e = .returned (.bool false) ∧ Hid (Below W.heap.size W w') ∧ (w'.cell? ⟨B, 1, none⟩ = some (.bool false) ∧ w'.cell? ⟨w.heap.size, 1, none⟩ = some (.int .i64 n) ∧ w'.cell? ⟨B, 3 + n, none⟩ = some (.bool false) ∧ w'.cell? ⟨B, 2, none⟩ = some (.slice a2 c.ops.length c2))) := by
    rintro wx rfl
    refine (touches_any a2 c2 c.ops (ofL n) _ HS2.out.2.1 (HS2.out.later (Below.drew (Below.refl _ _))).1).mono ?_
    rintro e w3 ⟨rfl, hb3⟩
    have hb3' : Below W.heap.size W w3 := (Below.drew (Below.refl _ _)).trans hb3
    refine ⟨by rw [← HNN.out, Ht2.out], hb3', ?_, ?_, ?_, ?_⟩
    · rw [hb3'.cell (p := ⟨B, 1, none⟩) (show B < W.heap.size by omega)]; exact q1
    · rw [hb3'.cell (p := ⟨w.heap.size, 1, none⟩) (show w.heap.size < W.heap.size by omega)]; exact k1
    · rw [hb3'.cell (p := ⟨B, 3 + n, none⟩) (show B < W.heap.size by omega)]; exact q3
    · rw [hb3'.cell (p := ⟨B, 2, none⟩) (show B < W.heap.size by omega)]; exact q2
  go_enter Try.func99, Try.ntmps99
  go_upto_region 1 with fail
  rw [← HW.out]
  clear HW
  refine wp_region_held_drew (S := fun w' => w'.cell? ⟨B, 1, none⟩ = some (.bool false) ∧ w'.cell? ⟨w.heap.size, 1, none⟩ = some (.int .i64 n) ∧ w'.cell? ⟨B, 3 + n, none⟩ = some (.bool false) ∧ w'.cell? ⟨B, 2, none⟩ = some (.slice a2 c.ops.length c2)) (by kernel_rfl) ⟨q1, k1, q3, q2⟩ ?_
  intro hH
  refine wpAnyH_takeD (i := 0) (d := some 5) (v := .pointer (some ⟨B, 0, none⟩)) rfl rfl (by kernel_rfl) (by kernel_rfl) (by kernel_rfl) (fun _ _ _ h => h) (Or.inl ⟨by rfl, fun _ _ => by go_simp⟩) hH ?_
  simp only [Act.put, List.setIfInBounds_toArray, List.set_cons_zero, List.set_cons_succ]
  refine wpAnyH_takeD (i := 1) (d := some 6) (v := .pointer (some ⟨B, 0, none⟩)) rfl rfl (by kernel_rfl) (by kernel_rfl) (by kernel_rfl) (fun _ _ _ h => h) (Or.inl ⟨by rfl, fun _ _ => by go_simp⟩) hH ?_
  simp only [Act.put, List.setIfInBounds_toArray, List.set_cons_zero, List.set_cons_succ]
  refine wpAnyH_takeD (i := 2) (d := some 7) (v := .pointer (some ⟨B, 1, none⟩)) rfl rfl (by kernel_rfl) (by kernel_rfl) (by kernel_rfl) (fun _ _ _ h => h) (Or.inl ⟨by rfl, fun _ _ => by go_simp⟩) hH ?_
  simp only [Act.put, List.setIfInBounds_toArray, List.set_cons_zero, List.set_cons_succ]
  refine wpAnyH_takeD (i := 3) (d := some 8) (v := .bool false) rfl rfl (by kernel_rfl) (by kernel_rfl) (by kernel_rfl) (fun _ _ _ h => h) (Or.inl ⟨by rfl, fun _ hS => by obtain ⟨hS1, hS2, hS3, hS4⟩ := hS; go_simp⟩) hH ?_
  simp only [Act.put, List.setIfInBounds_toArray, List.set_cons_zero, List.set_cons_succ]
  refine wpAnyH_takeD (i := 4) (d := some 9) (v := .bool false) rfl rfl (by kernel_rfl) (by kernel_rfl) (by kernel_rfl) (fun _ _ _ h => h) (Or.inl ⟨by rfl, fun _ _ => by go_simp⟩) hH ?_
  simp only [Act.put, List.setIfInBounds_toArray, List.set_cons_zero, List.set_cons_succ]
  refine wpAnyH_takeD (i := 5) (d := some 10) (v := .pointer (some ⟨B, 0, none⟩)) rfl rfl (by kernel_rfl) (by kernel_rfl) (by kernel_rfl) (fun _ _ _ h => h) (Or.inl ⟨by rfl, fun _ _ => by go_simp⟩) hH ?_
  simp only [Act.put, List.setIfInBounds_toArray, List.set_cons_zero, List.set_cons_succ]
  refine wpAnyH_takeD (i := 6) (d := some 11) (v := .pointer (some ⟨w.heap.size, 1, none⟩)) rfl rfl (by kernel_rfl) (by kernel_rfl) (by kernel_rfl) (fun _ _ _ h => h) (Or.inl ⟨by rfl, fun _ _ => by go_simp⟩) hH ?_
  simp only [Act.put, List.setIfInBounds_toArray, List.set_cons_zero, List.set_cons_succ]
  refine wpAnyH_takeD (i := 7) (d := some 12) (v := .int .i64 n) rfl rfl (by kernel_rfl) (by kernel_rfl) (by kernel_rfl) (fun _ _ _ h => h) (Or.inl ⟨by rfl, fun _ hS => by obtain ⟨hS1, hS2, hS3, hS4⟩ := hS; go_simp⟩) hH ?_
  simp only [Act.put, List.setIfInBounds_toArray, List.set_cons_zero, List.set_cons_succ]
  refine wpAnyH_takeD (i := 8) (d := some 13) (v := .pointer (some ⟨B, 0, none⟩)) rfl rfl (by kernel_rfl) (by kernel_rfl) (by kernel_rfl) (fun _ _ _ h => h) (Or.inl ⟨by rfl, fun _ _ => by go_simp⟩) hH ?_
  simp only [Act.put, List.setIfInBounds_toArray, List.set_cons_zero, List.set_cons_succ]
  refine wpAnyH_takeD (i := 9) (d := some 14) (v := .pointer (some ⟨B, 3, none⟩)) rfl rfl (by kernel_rfl) (by kernel_rfl) (by kernel_rfl) (fun _ _ _ h => h) (Or.inl ⟨by rfl, fun _ _ => by go_simp⟩) hH ?_
  simp only [Act.put, List.setIfInBounds_toArray, List.set_cons_zero, List.set_cons_succ]
  refine wpAnyH_takeD (i := 10) (d := some 15) (v := .pointer (some ⟨B, 3 + n, none⟩)) rfl rfl (by kernel_rfl) (by kernel_rfl) (by kernel_rfl) (fun _ _ _ h => h) (Or.inl ⟨by rfl, fun _ _ => by go_simp⟩) hH ?_
  simp only [Act.put, List.setIfInBounds_toArray, List.set_cons_zero, List.set_cons_succ]
  refine wpAnyH_takeD (i := 11) (d := some 16) (v := .bool false) rfl rfl (by kernel_rfl) (by kernel_rfl) (by kernel_rfl) (fun _ _ _ h => h) (Or.inl ⟨by rfl, fun _ hS => by obtain ⟨hS1, hS2, hS3, hS4⟩ := hS; go_simp⟩) hH ?_
  simp only [Act.put, List.setIfInBounds_toArray, List.set_cons_zero, List.set_cons_succ]
  refine wpAnyH_takeD (i := 12) (d := some 17) (v := .bool false) rfl rfl (by kernel_rfl) (by kernel_rfl) (by kernel_rfl) (fun _ _ _ h => h) (Or.inl ⟨by rfl, fun _ _ => by go_simp⟩) hH ?_
  simp only [Act.put, List.setIfInBounds_toArray, List.set_cons_zero, List.set_cons_succ]
  refine wpAnyH_takeD (i := 13) (d := some 18) (v := .bool false) rfl rfl (by kernel_rfl) (by kernel_rfl) (by kernel_rfl) (fun _ _ _ h => h) (Or.inl ⟨by rfl, fun _ _ => by go_simp⟩) hH ?_
  simp only [Act.put, List.setIfInBounds_toArray, List.set_cons_zero, List.set_cons_succ]
  refine wpAnyH_takeD (i := 14) (d := some 19) (v := .pointer (some ⟨B, 0, none⟩)) rfl rfl (by kernel_rfl) (by kernel_rfl) (by kernel_rfl) (fun _ _ _ h => h) (Or.inl ⟨by rfl, fun _ _ => by go_simp⟩) hH ?_
  simp only [Act.put, List.setIfInBounds_toArray, List.set_cons_zero, List.set_cons_succ]
  refine wpAnyH_takeD (i := 15) (d := some 20) (v := .pointer (some ⟨B, 0, none⟩)) rfl rfl (by kernel_rfl) (by kernel_rfl) (by kernel_rfl) (fun _ _ _ h => h) (Or.inl ⟨by rfl, fun _ _ => by go_simp⟩) hH ?_
  simp only [Act.put, List.setIfInBounds_toArray, List.set_cons_zero, List.set_cons_succ]
  refine wpAnyH_takeD (i := 16) (d := some 21) (v := .pointer (some ⟨B, 2, none⟩)) rfl rfl (by kernel_rfl) (by kernel_rfl) (by kernel_rfl) (fun _ _ _ h => h) (Or.inl ⟨by rfl, fun _ _ => by go_simp⟩) hH ?_
  simp only [Act.put, List.setIfInBounds_toArray, List.set_cons_zero, List.set_cons_succ]
  refine wpAnyH_takeD (i := 17) (d := some 22) (v := .slice a2 c.ops.length c2) rfl rfl (by kernel_rfl) (by kernel_rfl) (by kernel_rfl) (fun _ _ _ h => h) (Or.inl ⟨by rfl, fun _ hS => by obtain ⟨hS1, hS2, hS3, hS4⟩ := hS; go_simp⟩) hH ?_
  simp only [Act.put, List.setIfInBounds_toArray, List.set_cons_zero, List.set_cons_succ]
  refine wpAnyH_takeD (i := 18) (d := some 23) (v := .pointer (some ⟨w.heap.size, 1, none⟩)) rfl rfl (by kernel_rfl) (by kernel_rfl) (by kernel_rfl) (fun _ _ _ h => h) (Or.inl ⟨by rfl, fun _ _ => by go_simp⟩) hH ?_
  simp only [Act.put, List.setIfInBounds_toArray, List.set_cons_zero, List.set_cons_succ]
  refine wpAnyH_takeD (i := 19) (d := some 24) (v := .int .i64 n) rfl rfl (by kernel_rfl) (by kernel_rfl) (by kernel_rfl) (fun _ _ _ h => h) (Or.inl ⟨by rfl, fun _ hS => by obtain ⟨hS1, hS2, hS3, hS4⟩ := hS; go_simp⟩) hH ?_
  simp only [Act.put, List.setIfInBounds_toArray, List.set_cons_zero, List.set_cons_succ]
  refine wpAnyH_ready (rs := [20]) (by kernel_rfl) (by simp) ?_
  refine AllReadyH.cons rfl (fun K hK => ?_) AllReadyH.nil
  go_simp
  refine (of_any _ _).mono ?_
  rintro e w1 ⟨rfl, hw1⟩
  subst hw1
  go_wp2_with fail
  refine hK.out _ _ (hH) (fun hH2 => ?_)
  clear hK K hH
  have hH := hH2
  clear hH2
  refine wpAnyH_ready (rs := [21]) (by kernel_rfl) (by simp) ?_
  refine AllReadyH.cons rfl (fun K hK => ?_) AllReadyH.nil
  go_simp
  refine (HTo.out _ rfl).mono ?_
  rintro e w3 ⟨rfl, HB3, hS3⟩
  go_wp2_with fail
  refine hK.out _ _ (hS3) (fun hH2 => ?_)
  clear hK K hH
  have hH := hH2
  clear hH2
  refine wpAnyH_takeD (i := 22) (d := some 27) (v := .bool true) rfl rfl (by kernel_rfl) (by kernel_rfl) (by kernel_rfl) (fun _ _ _ h => h) (Or.inl ⟨by rfl, fun _ _ => by go_simp⟩) hH ?_
  simp only [Act.put, List.setIfInBounds_toArray, List.set_cons_zero, List.set_cons_succ]
  refine wpAnyH_takeD (i := 23) (d := some 28) (v := .bool true) rfl rfl (by kernel_rfl) (by kernel_rfl) (by kernel_rfl) (fun _ _ _ h => h) (Or.inl ⟨by rfl, fun _ _ => by go_simp⟩) hH ?_
  simp only [Act.put, List.setIfInBounds_toArray, List.set_cons_zero, List.set_cons_succ]
  refine wpAnyH_done (by kernel_rfl) ?_ _
  go_wp2
  go_ret
  exact ⟨nv, _, rfl, HP.out.later HB3.out, FramesV.nil _ _, grownR_below HGw.out HB3.out⟩

set_option maxRecDepth 100000 in
set_option maxHeartbeats 2000000 in
theorem told_3 (lo B : Nat) (nv : Nat → Value) (c : CaseL) (v : Value) (f : FrameL) (w : World) (h : PBox lo B w nv c) (hf : FrameB B w v f) (hg : goodL f = 0) (hlo : lo ≤ w.heap.size) (t0 : c.fixed = false) (t1 : c.told f.node.toNat = false) (t2 : touchesL c.ops (ofL f.node) = true) (t3 : mostB c.ops (upd c.told f.node.toNat true) = false) :
    Calls Try.prog 99 #[.pointer (some ⟨B, 0, none⟩), v] w fun e w' => ∃ nv' x, e = .returned x ∧ PBox lo B w' nv' (c.hear f) ∧ FramesV w.heap.size w' x [] ∧ w.grownBy w' (some B) := by
  obtain ⟨d, hd⟩ : ∃ d, d = c.hear f := ⟨_, rfl⟩
  rw [← hd]
  have HD : Hid (d = c.hear f) := hd
  clear hd
  have Ht0 : Hid (c.fixed = false) := t0
  have Ht1 : Hid (c.told f.node.toNat = false) := t1
  have Ht2 : Hid (touchesL c.ops (ofL f.node) = true) := t2
  have Ht3 : Hid (mostB c.ops (upd c.told f.node.toNat true) = false) := t3
  clear t0 t1 t2 t3
  obtain ⟨n, hn6, en⟩ : ∃ n : Nat, n < 6 ∧ f.node = n := ⟨f.node.toNat, by have := (good_frame hg).2; omega, by have := (good_frame hg).2; omega⟩
  have HN : Hid (f.node.toNat = n) := by unfold Hid; omega
  have HNN : Hid (f.node = n) := en
  obtain ⟨a3, c3, a4, c4, a5, c5, a6, c6, rfl, _, h4, _, _⟩ := hf
  obtain ⟨W, hW⟩ : ∃ W, W = w.alloc (.cells #[.int .i64 f.kind, .int .i64 f.node, .int .i64 f.id, .slice a3 f.ops.length c3, .slice a4 f.deps.length c4, .slice a5 f.ats.length c5, .slice a6 f.vals.length c6] 43) := ⟨_, rfl⟩
  have hb : Below w.heap.size w W := by rw [hW]; exact (Below.refl _ _).alloc (Nat.le_refl _) _
  have hzW : W.heap.size = w.heap.size + 1 := by rw [hW]; exact size_push _ _
  have hP : PBox lo B W nv c := h.later hb
  have hBw : B < w.heap.size := h.blk.lt
  have r1 : W.heap[w.heap.size]? = some (.cells #[.int .i64 f.kind, .int .i64 f.node, .int .i64 f.id, .slice a3 f.ops.length c3, .slice a4 f.deps.length c4, .slice a5 f.ats.length c5, .slice a6 f.vals.length c6] 43 (0, 0)) := by rw [hW]; exact heap_new _ _
  have k1 : W.cell? ⟨w.heap.size, 1, none⟩ = some (.int .i64 n) := by rw [cell_of_row _ _ _ _ _ _ r1, ← en]; rfl
  have q1 := hP.box.fixed
  have q3 := hP.box.told hn6
  obtain ⟨a2, c2, q2, hs2, hl2⟩ := hP.box.ops
  have n1 : (0 : Int) ≤ (n : Int) ∧ (n : Int) < 6 := by omega
  have HP : Hid (PBox lo B W nv c) := hP
  have HW : Hid (W = w.alloc (.cells #[.int .i64 f.kind, .int .i64 f.node, .int .i64 f.id, .slice a3 f.ops.length c3, .slice a4 f.deps.length c4, .slice a5 f.ats.length c5, .slice a6 f.vals.length c6] 43)) := hW
  have HGw : Hid (w.grownBy W (some B)) := grownR_below (grownR_refl _ _) hb
  have HRW : Hid (W.heap[w.heap.size]? = some (.cells #[.int .i64 f.kind, .int .i64 f.node, .int .i64 f.id, .slice a3 f.ops.length c3, .slice a4 f.deps.length c4, .slice a5 f.ats.length c5, .slice a6 f.vals.length c6] 43 (0, 0))) := r1
  have H4 : Hid (SlInts w a4 c4 f.deps ∧ IntsIn (· < B) w a4 f.deps) := h4
  have Hbw : Hid (Below w.heap.size w W) := hb
  have HS2 : Hid (SlOps W a2 c2 c.ops) := hs2
  rw [Ht0.out] at q1
  rw [← HN.out, Ht1.out, HN.out] at q3
  clear hW hP h r1 en hb h4 hs2
  have HTo : Hid (∀ wx, wx = W.drew → Calls Try.prog 57 #[.slice a2 c.ops.length c2, .int .i64 (ofL n)] wx fun e w' => e = .returned (.bool true) ∧ Hid (Below W.heap.size W w') ∧ (w'.cell? ⟨B, 1, none⟩ = some (.bool false) ∧ w'.cell? ⟨w.heap.size, 1, none⟩ = some (.int .i64 n) ∧ w'.cell? ⟨B, 3 + n, none⟩ = some (.bool false) ∧ w'.cell? ⟨B, 2, none⟩ = some (.slice a2 c.ops.length c2))) := by
    rintro wx rfl
    refine (touches_any a2 c2 c.ops (ofL n) _ HS2.out.2.1 (HS2.out.later (Below.drew (Below.refl _ _))).1).mono ?_
    rintro e w3 ⟨rfl, hb3⟩
    have hb3' : Below W.heap.size W w3 := (Below.drew (Below.refl _ _)).trans hb3
    refine ⟨by rw [← HNN.out, Ht2.out], hb3', ?_, ?_, ?_, ?_⟩
    · rw [hb3'.cell (p := ⟨B, 1, none⟩) (show B < W.heap.size by omega)]; exact q1
    · rw [hb3'.cell (p := ⟨w.heap.size, 1, none⟩) (show w.heap.size < W.heap.size by omega)]; exact k1
    · rw [hb3'.cell (p := ⟨B, 3 + n, none⟩) (show B < W.heap.size by omega)]; exact q3
    · rw [hb3'.cell (p := ⟨B, 2, none⟩) (show B < W.heap.size by omega)]; exact q2
  go_enter Try.func99, Try.ntmps99
  go_upto_region 1 with fail
  rw [← HW.out]
  clear HW
  refine wp_region_held_drew (S := fun w' => w'.cell? ⟨B, 1, none⟩ = some (.bool false) ∧ w'.cell? ⟨w.heap.size, 1, none⟩ = some (.int .i64 n) ∧ w'.cell? ⟨B, 3 + n, none⟩ = some (.bool false) ∧ w'.cell? ⟨B, 2, none⟩ = some (.slice a2 c.ops.length c2)) (by kernel_rfl) ⟨q1, k1, q3, q2⟩ ?_
  intro hH
  refine wpAnyH_takeD (i := 0) (d := some 5) (v := .pointer (some ⟨B, 0, none⟩)) rfl rfl (by kernel_rfl) (by kernel_rfl) (by kernel_rfl) (fun _ _ _ h => h) (Or.inl ⟨by rfl, fun _ _ => by go_simp⟩) hH ?_
  simp only [Act.put, List.setIfInBounds_toArray, List.set_cons_zero, List.set_cons_succ]
  refine wpAnyH_takeD (i := 1) (d := some 6) (v := .pointer (some ⟨B, 0, none⟩)) rfl rfl (by kernel_rfl) (by kernel_rfl) (by kernel_rfl) (fun _ _ _ h => h) (Or.inl ⟨by rfl, fun _ _ => by go_simp⟩) hH ?_
  simp only [Act.put, List.setIfInBounds_toArray, List.set_cons_zero, List.set_cons_succ]
  refine wpAnyH_takeD (i := 2) (d := some 7) (v := .pointer (some ⟨B, 1, none⟩)) rfl rfl (by kernel_rfl) (by kernel_rfl) (by kernel_rfl) (fun _ _ _ h => h) (Or.inl ⟨by rfl, fun _ _ => by go_simp⟩) hH ?_
  simp only [Act.put, List.setIfInBounds_toArray, List.set_cons_zero, List.set_cons_succ]
  refine wpAnyH_takeD (i := 3) (d := some 8) (v := .bool false) rfl rfl (by kernel_rfl) (by kernel_rfl) (by kernel_rfl) (fun _ _ _ h => h) (Or.inl ⟨by rfl, fun _ hS => by obtain ⟨hS1, hS2, hS3, hS4⟩ := hS; go_simp⟩) hH ?_
  simp only [Act.put, List.setIfInBounds_toArray, List.set_cons_zero, List.set_cons_succ]
  refine wpAnyH_takeD (i := 4) (d := some 9) (v := .bool false) rfl rfl (by kernel_rfl) (by kernel_rfl) (by kernel_rfl) (fun _ _ _ h => h) (Or.inl ⟨by rfl, fun _ _ => by go_simp⟩) hH ?_
  simp only [Act.put, List.setIfInBounds_toArray, List.set_cons_zero, List.set_cons_succ]
  refine wpAnyH_takeD (i := 5) (d := some 10) (v := .pointer (some ⟨B, 0, none⟩)) rfl rfl (by kernel_rfl) (by kernel_rfl) (by kernel_rfl) (fun _ _ _ h => h) (Or.inl ⟨by rfl, fun _ _ => by go_simp⟩) hH ?_
  simp only [Act.put, List.setIfInBounds_toArray, List.set_cons_zero, List.set_cons_succ]
  refine wpAnyH_takeD (i := 6) (d := some 11) (v := .pointer (some ⟨w.heap.size, 1, none⟩)) rfl rfl (by kernel_rfl) (by kernel_rfl) (by kernel_rfl) (fun _ _ _ h => h) (Or.inl ⟨by rfl, fun _ _ => by go_simp⟩) hH ?_
  simp only [Act.put, List.setIfInBounds_toArray, List.set_cons_zero, List.set_cons_succ]
  refine wpAnyH_takeD (i := 7) (d := some 12) (v := .int .i64 n) rfl rfl (by kernel_rfl) (by kernel_rfl) (by kernel_rfl) (fun _ _ _ h => h) (Or.inl ⟨by rfl, fun _ hS => by obtain ⟨hS1, hS2, hS3, hS4⟩ := hS; go_simp⟩) hH ?_
  simp only [Act.put, List.setIfInBounds_toArray, List.set_cons_zero, List.set_cons_succ]
  refine wpAnyH_takeD (i := 8) (d := some 13) (v := .pointer (some ⟨B, 0, none⟩)) rfl rfl (by kernel_rfl) (by kernel_rfl) (by kernel_rfl) (fun _ _ _ h => h) (Or.inl ⟨by rfl, fun _ _ => by go_simp⟩) hH ?_
  simp only [Act.put, List.setIfInBounds_toArray, List.set_cons_zero, List.set_cons_succ]
  refine wpAnyH_takeD (i := 9) (d := some 14) (v := .pointer (some ⟨B, 3, none⟩)) rfl rfl (by kernel_rfl) (by kernel_rfl) (by kernel_rfl) (fun _ _ _ h => h) (Or.inl ⟨by rfl, fun _ _ => by go_simp⟩) hH ?_
  simp only [Act.put, List.setIfInBounds_toArray, List.set_cons_zero, List.set_cons_succ]
  refine wpAnyH_takeD (i := 10) (d := some 15) (v := .pointer (some ⟨B, 3 + n, none⟩)) rfl rfl (by kernel_rfl) (by kernel_rfl) (by kernel_rfl) (fun _ _ _ h => h) (Or.inl ⟨by rfl, fun _ _ => by go_simp⟩) hH ?_
  simp only [Act.put, List.setIfInBounds_toArray, List.set_cons_zero, List.set_cons_succ]
  refine wpAnyH_takeD (i := 11) (d := some 16) (v := .bool false) rfl rfl (by kernel_rfl) (by kernel_rfl) (by kernel_rfl) (fun _ _ _ h => h) (Or.inl ⟨by rfl, fun _ hS => by obtain ⟨hS1, hS2, hS3, hS4⟩ := hS; go_simp⟩) hH ?_
  simp only [Act.put, List.setIfInBounds_toArray, List.set_cons_zero, List.set_cons_succ]
  refine wpAnyH_takeD (i := 12) (d := some 17) (v := .bool false) rfl rfl (by kernel_rfl) (by kernel_rfl) (by kernel_rfl) (fun _ _ _ h => h) (Or.inl ⟨by rfl, fun _ _ => by go_simp⟩) hH ?_
  simp only [Act.put, List.setIfInBounds_toArray, List.set_cons_zero, List.set_cons_succ]
  refine wpAnyH_takeD (i := 13) (d := some 18) (v := .bool false) rfl rfl (by kernel_rfl) (by kernel_rfl) (by kernel_rfl) (fun _ _ _ h => h) (Or.inl ⟨by rfl, fun _ _ => by go_simp⟩) hH ?_
  simp only [Act.put, List.setIfInBounds_toArray, List.set_cons_zero, List.set_cons_succ]
  refine wpAnyH_takeD (i := 14) (d := some 19) (v := .pointer (some ⟨B, 0, none⟩)) rfl rfl (by kernel_rfl) (by kernel_rfl) (by kernel_rfl) (fun _ _ _ h => h) (Or.inl ⟨by rfl, fun _ _ => by go_simp⟩) hH ?_
  simp only [Act.put, List.setIfInBounds_toArray, List.set_cons_zero, List.set_cons_succ]
  refine wpAnyH_takeD (i := 15) (d := some 20) (v := .pointer (some ⟨B, 0, none⟩)) rfl rfl (by kernel_rfl) (by kernel_rfl) (by kernel_rfl) (fun _ _ _ h => h) (Or.inl ⟨by rfl, fun _ _ => by go_simp⟩) hH ?_
  simp only [Act.put, List.setIfInBounds_toArray, List.set_cons_zero, List.set_cons_succ]
  refine wpAnyH_takeD (i := 16) (d := some 21) (v := .pointer (some ⟨B, 2, none⟩)) rfl rfl (by kernel_rfl) (by kernel_rfl) (by kernel_rfl) (fun _ _ _ h => h) (Or.inl ⟨by rfl, fun _ _ => by go_simp⟩) hH ?_
  simp only [Act.put, List.setIfInBounds_toArray, List.set_cons_zero, List.set_cons_succ]
  refine wpAnyH_takeD (i := 17) (d := some 22) (v := .slice a2 c.ops.length c2) rfl rfl (by kernel_rfl) (by kernel_rfl) (by kernel_rfl) (fun _ _ _ h => h) (Or.inl ⟨by rfl, fun _ hS => by obtain ⟨hS1, hS2, hS3, hS4⟩ := hS; go_simp⟩) hH ?_
  simp only [Act.put, List.setIfInBounds_toArray, List.set_cons_zero, List.set_cons_succ]
  refine wpAnyH_takeD (i := 18) (d := some 23) (v := .pointer (some ⟨w.heap.size, 1, none⟩)) rfl rfl (by kernel_rfl) (by kernel_rfl) (by kernel_rfl) (fun _ _ _ h => h) (Or.inl ⟨by rfl, fun _ _ => by go_simp⟩) hH ?_
  simp only [Act.put, List.setIfInBounds_toArray, List.set_cons_zero, List.set_cons_succ]
  refine wpAnyH_takeD (i := 19) (d := some 24) (v := .int .i64 n) rfl rfl (by kernel_rfl) (by kernel_rfl) (by kernel_rfl) (fun _ _ _ h => h) (Or.inl ⟨by rfl, fun _ hS => by obtain ⟨hS1, hS2, hS3, hS4⟩ := hS; go_simp⟩) hH ?_
  simp only [Act.put, List.setIfInBounds_toArray, List.set_cons_zero, List.set_cons_succ]
  refine wpAnyH_ready (rs := [20]) (by kernel_rfl) (by simp) ?_
  refine AllReadyH.cons rfl (fun K hK => ?_) AllReadyH.nil
  go_simp
  refine (of_any _ _).mono ?_
  rintro e w1 ⟨rfl, hw1⟩
  subst hw1
  go_wp2_with fail
  refine hK.out _ _ (hH) (fun hH2 => ?_)
  clear hK K hH
  have hH := hH2
  clear hH2
  refine wpAnyH_ready (rs := [21]) (by kernel_rfl) (by simp) ?_
  refine AllReadyH.cons rfl (fun K hK => ?_) AllReadyH.nil
  go_simp
  refine (HTo.out _ rfl).mono ?_
  rintro e w3 ⟨rfl, HB3, hS3⟩
  go_wp2_with fail
  refine hK.out _ _ (hS3) (fun hH2 => ?_)
  clear hK K hH
  have hH := hH2
  clear hH2
  refine wpAnyH_takeD (i := 22) (d := some 27) (v := .bool false) rfl rfl (by kernel_rfl) (by kernel_rfl) (by kernel_rfl) (fun _ _ _ h => h) (Or.inl ⟨by rfl, fun _ _ => by go_simp⟩) hH ?_
  simp only [Act.put, List.setIfInBounds_toArray, List.set_cons_zero, List.set_cons_succ]
  refine wpAnyH_takeD (i := 23) (d := some 28) (v := .bool false) rfl rfl (by kernel_rfl) (by kernel_rfl) (by kernel_rfl) (fun _ _ _ h => h) (Or.inl ⟨by rfl, fun _ _ => by go_simp⟩) hH ?_
  simp only [Act.put, List.setIfInBounds_toArray, List.set_cons_zero, List.set_cons_succ]
  refine wpAnyH_done (by kernel_rfl) ?_ _
  have f3 : w3.frozen? ⟨B, 3 + n, none⟩ = false := (HP.out.later HB3.out).blk.frozen _
  have p3 := ((HP.out.later HB3.out).put (3 + n) (.bool true) ((HP.out.later HB3.out).case.putTold hn6 true)).drew
  obtain ⟨Y, hY⟩ : ∃ Y, Y = (w3.setCell ⟨B, 3 + n, none⟩ (.bool true)).drew := ⟨_, rfl⟩
  rw [← hY] at p3
  have HP3 : Hid (PBox lo B Y (putV nv (3 + n) (.bool true)) { c with told := upd c.told n true }) := p3
  have HG3 : Hid (W.grownBy Y (some B)) := by unfold Hid; rw [hY]; exact grownR_drew (grown_put_same (grownR_below (grownR_refl _ _) HB3.out) _ _)
  have HY : Hid (Y = (w3.setCell ⟨B, 3 + n, none⟩ (.bool true)).drew) := hY
  have hne : ¬ w.heap.size = B := by omega
  obtain ⟨hS31, hS32, hS33, hS34⟩ := hS3
  clear hY p3 q1 k1 q2 q3
  go_wp2
  go_region
  go_upto_region 4 with fail
  rw [← HY.out]
  clear HY hS31 hS32 hS33 hS34 f3
  have hzY := HG3.out.size
  have rY : Y.heap[w.heap.size]? = some (.cells #[.int .i64 f.kind, .int .i64 f.node, .int .i64 f.id, .slice a3 f.ops.length c3, .slice a4 f.deps.length c4, .slice a5 f.ats.length c5, .slice a6 f.vals.length c6] 43 (0, 0)) := by rw [HG3.out.block _ (by omega) (fun e => by cases e; omega)]; exact HRW.out
  have k4 : Y.cell? ⟨w.heap.size, 4, none⟩ = some (.slice a4 f.deps.length c4) := by rw [cell_of_row _ _ _ _ _ _ rY]; rfl
  obtain ⟨a15, c15, q15, hs15, hl15⟩ := HP3.out.box.deps
  have H4Y : Hid (IntsIn (· < B) Y a4 f.deps) := H4.out.2.later (fun b hb' hk => by have : b < B := hk; rw [HG3.out.block _ (by omega) (fun e => by cases e; omega), Hbw.out.block _ (by omega)])
  have HUn : Hid (∀ wx, wx = Y.drew → Calls Try.prog 59 #[.slice a15 c.deps.length c15, .slice a4 f.deps.length c4] wx fun e w' => ∃ v, e = .returned v ∧ Hid (w'.ownsRow Y.heap.size 3 1 v (unionL c.deps f.deps).length (intCells (unionL c.deps f.deps))) ∧ Hid (Below Y.heap.size Y w') ∧ w'.cell? ⟨w.heap.size, 4, none⟩ = some (.slice a4 f.deps.length c4)) := by
    rintro wx rfl
    refine (union_any a15 c15 c.deps a4 c4 f.deps _ hs15.2.1 (hs15.later (Below.drew (Below.refl _ _))).1 H4.out.1.2.1 (IntsIn.at (H4Y.out.later (SameOn.of_size (Below.drew (Below.refl _ _)))))).mono ?_
    rintro e w5 ⟨v, rfl, hv, hb5⟩
    have hb5' : Below Y.heap.size Y w5 := (Below.drew (Below.refl _ _)).trans hb5
    exact ⟨v, rfl, hv, hb5', by rw [hb5'.cell (p := ⟨w.heap.size, 4, none⟩) (show w.heap.size < Y.heap.size by omega)]; exact k4⟩
  refine wp_region_held_drew (S := fun w' => w'.cell? ⟨w.heap.size, 4, none⟩ = some (.slice a4 f.deps.length c4)) (by kernel_rfl) k4 ?_
  intro hH
  refine wpAnyH_takeD (i := 0) (d := some 35) (v := .pointer (some ⟨B, 0, none⟩)) rfl rfl (by kernel_rfl) (by kernel_rfl) (by kernel_rfl) (fun _ _ _ h => h) (Or.inl ⟨by rfl, fun _ _ => by go_simp⟩) hH ?_
  simp only [Act.put, List.setIfInBounds_toArray, List.set_cons_zero, List.set_cons_succ]
  refine wpAnyH_takeD (i := 1) (d := some 36) (v := .pointer (some ⟨B, 0, none⟩)) rfl rfl (by kernel_rfl) (by kernel_rfl) (by kernel_rfl) (fun _ _ _ h => h) (Or.inl ⟨by rfl, fun _ _ => by go_simp⟩) hH ?_
  simp only [Act.put, List.setIfInBounds_toArray, List.set_cons_zero, List.set_cons_succ]
  refine wpAnyH_takeD (i := 2) (d := some 37) (v := .pointer (some ⟨B, 0, none⟩)) rfl rfl (by kernel_rfl) (by kernel_rfl) (by kernel_rfl) (fun _ _ _ h => h) (Or.inl ⟨by rfl, fun _ _ => by go_simp⟩) hH ?_
  simp only [Act.put, List.setIfInBounds_toArray, List.set_cons_zero, List.set_cons_succ]
  refine wpAnyH_takeD (i := 3) (d := some 38) (v := .pointer (some ⟨B, 15, none⟩)) rfl rfl (by kernel_rfl) (by kernel_rfl) (by kernel_rfl) (fun _ _ _ h => h) (Or.inl ⟨by rfl, fun _ _ => by go_simp⟩) hH ?_
  simp only [Act.put, List.setIfInBounds_toArray, List.set_cons_zero, List.set_cons_succ]
  refine wpAnyH_takeD (i := 5) (d := some 40) (v := .pointer (some ⟨w.heap.size, 4, none⟩)) rfl rfl (by kernel_rfl) (by kernel_rfl) (by kernel_rfl) (fun _ _ _ h => h) (Or.inl ⟨by rfl, fun _ _ => by go_simp⟩) hH ?_
  simp only [Act.put, List.setIfInBounds_toArray, List.set_cons_zero, List.set_cons_succ]
  refine wpAnyH_takeD (i := 6) (d := some 41) (v := .slice a4 f.deps.length c4) rfl rfl (by kernel_rfl) (by kernel_rfl) (by kernel_rfl) (fun _ _ _ h => h) (Or.inl ⟨by rfl, fun _ hS => by go_simp⟩) hH ?_
  simp only [Act.put, List.setIfInBounds_toArray, List.set_cons_zero, List.set_cons_succ]
  refine wpAnyH_ready (rs := [4]) (by kernel_rfl) (by simp) ?_
  refine AllReadyH.cons rfl (fun K hK => ?_) AllReadyH.nil
  go_simp
  refine hK.out _ _ hH (fun hH2 => ?_)
  clear hK K hH
  have hH := hH2
  clear hH2
  refine wpAnyH_ready (rs := [7]) (by kernel_rfl) (by simp) ?_
  refine AllReadyH.cons rfl (fun K hK => ?_) AllReadyH.nil
  go_simp
  refine (HUn.out _ rfl).mono ?_
  rintro e w5 ⟨vu, rfl, HVu, HB5, hS5⟩
  obtain ⟨au, cu, evu, _, _⟩ := own_form HVu.out
  have HEV : Hid (vu = .slice au (unionL c.deps f.deps).length cu) := evu
  subst evu
  go_wp2_with fail
  refine hK.out _ _ (hS5) (fun hH2 => ?_)
  clear hK K hH
  have hH := hH2
  clear hH2
  refine wpAnyH_takeD (i := 8) (d := some 43) (v := .pointer (some ⟨B, 0, none⟩)) rfl rfl (by kernel_rfl) (by kernel_rfl) (by kernel_rfl) (fun _ _ _ h => h) (Or.inl ⟨by rfl, fun _ _ => by go_simp⟩) hH ?_
  simp only [Act.put, List.setIfInBounds_toArray, List.set_cons_zero, List.set_cons_succ]
  refine wpAnyH_takeD (i := 9) (d := some 44) (v := .pointer (some ⟨B, 15, none⟩)) rfl rfl (by kernel_rfl) (by kernel_rfl) (by kernel_rfl) (fun _ _ _ h => h) (Or.inl ⟨by rfl, fun _ _ => by go_simp⟩) hH ?_
  simp only [Act.put, List.setIfInBounds_toArray, List.set_cons_zero, List.set_cons_succ]
  have HP5 : Hid (PBox lo B w5 (putV nv (3 + n) (.bool true)) { c with told := upd c.told n true }) := HP3.out.later HB5.out
  have q15' : w5.cell? ⟨B, 15, none⟩ = some (.slice a15 c.deps.length c15) := by rw [HB5.out.cell (p := ⟨B, 15, none⟩) (show B < Y.heap.size by omega)]; exact q15
  have f15 : w5.frozen? ⟨B, 15, none⟩ = false := HP5.out.blk.frozen _
  refine wpAnyH_ready (rs := [10]) (by kernel_rfl) (by simp) ?_
  refine AllReadyH.cons rfl (fun K hK => ?_) AllReadyH.nil
  go_simp
  refine hK.out _ _ (cell_apart hH (by omega)) (fun hH2 => ?_)
  clear hK K hH
  have hH := hH2
  clear hH2
  refine wpAnyH_done (by kernel_rfl) ?_ _
  obtain ⟨Z, hZ⟩ : ∃ Z, Z = w5.setCell ⟨B, 15, none⟩ (.slice au (unionL c.deps f.deps).length cu) := ⟨_, rfl⟩
  have hIv : IsI (lo ≤ ·) w5 (.slice au (unionL c.deps f.deps).length cu) (joinL c.deps f.deps) := (IsI.of_owns HVu.out (union_room _ _)).mono (fun b _ hb => by have := hb.1; show lo ≤ b; omega)
  have p5 := HP5.out.put 15 (.slice au (unionL c.deps f.deps).length cu) (HP5.out.case.putDeps hIv)
  rw [← hZ] at p5
  have HPZ : Hid (PBox lo B Z (putV (putV nv (3 + n) (.bool true)) 15 (.slice au (unionL c.deps f.deps).length cu)) { c with told := upd c.told n true, deps := joinL c.deps f.deps }) := p5
  have HGZ : Hid (W.grownBy Z (some B)) := by unfold Hid; rw [hZ]; exact grown_put_same (grownR_below HG3.out HB5.out) _ _
  have HZ : Hid (Z = w5.setCell ⟨B, 15, none⟩ (.slice au (unionL c.deps f.deps).length cu)) := hZ
  have hzZ := HGZ.out.size
  clear hZ p5 hIv q15 q15' f15 hs15 hl15 hS5 hH k4 rY HP5
  go_upto_region 5 with fail
  rw [← HZ.out]
  clear HZ
  go_wp2_with fail
  refine (p_mostTold lo B _ _ Z HPZ.out).mono ?_
  rintro e w6 ⟨rfl, hb6⟩
  have HP6 : Hid (PBox lo B w6 (putV (putV nv (3 + n) (.bool true)) 15 (.slice au (unionL c.deps f.deps).length cu)) { c with told := upd c.told n true, deps := joinL c.deps f.deps }) := HPZ.out.later hb6
  have HG6 : Hid (W.grownBy w6 (some B)) := grownR_below HGZ.out hb6
  have HM : Hid (mostB c.ops (upd c.told n true) = false) := by unfold Hid; rw [← HN.out]; exact Ht3.out
  have hM : mostB c.ops (upd c.told n true) = false := HM.out
  have hz6 := hb6.size
  clear hb6
  have HE : Hid (d = { c with told := upd c.told n true, deps := joinL c.deps f.deps }) := by
    unfold Hid
    rw [HD.out]
    unfold CaseL.hear
    rw [HN.out, HM.out, ← Ht0.out]
  go_wp2
  go_ret
  exact ⟨_, _, rfl, by rw [HE.out]; exact HP6.out, FramesV.nil _ _, grownR_trans HGw.out HG6.out⟩

set_option maxRecDepth 100000 in
set_option maxHeartbeats 2000000 in
theorem told_4 (lo B : Nat) (nv : Nat → Value) (c : CaseL) (v : Value) (f : FrameL) (w : World) (h : PBox lo B w nv c) (hf : FrameB B w v f) (hg : goodL f = 0) (hlo : lo ≤ w.heap.size) (t0 : c.fixed = false) (t1 : c.told f.node.toNat = false) (t2 : touchesL c.ops (ofL f.node) = true) (t3 : mostB c.ops (upd c.told f.node.toNat true) = true) :
    Calls Try.prog 99 #[.pointer (some ⟨B, 0, none⟩), v] w fun e w' => ∃ nv' x, e = .returned x ∧ PBox lo B w' nv' (c.hear f) ∧ FramesV w.heap.size w' x (againC (c.hear f) f.id) ∧ w.grownBy w' (some B) := by
  obtain ⟨d, hd⟩ : ∃ d, d = c.hear f := ⟨_, rfl⟩
  rw [← hd]
  have HD : Hid (d = c.hear f) := hd
  clear hd
  have Ht0 : Hid (c.fixed = false) := t0
  have Ht1 : Hid (c.told f.node.toNat = false) := t1
  have Ht2 : Hid (touchesL c.ops (ofL f.node) = true) := t2
  have Ht3 : Hid (mostB c.ops (upd c.told f.node.toNat true) = true) := t3
  clear t0 t1 t2 t3
  obtain ⟨n, hn6, en⟩ : ∃ n : Nat, n < 6 ∧ f.node = n := ⟨f.node.toNat, by have := (good_frame hg).2; omega, by have := (good_frame hg).2; omega⟩
  have HN : Hid (f.node.toNat = n) := by unfold Hid; omega
  have HNN : Hid (f.node = n) := en
  obtain ⟨a3, c3, a4, c4, a5, c5, a6, c6, rfl, _, h4, _, _⟩ := hf
  obtain ⟨W, hW⟩ : ∃ W, W = w.alloc (.cells #[.int .i64 f.kind, .int .i64 f.node, .int .i64 f.id, .slice a3 f.ops.length c3, .slice a4 f.deps.length c4, .slice a5 f.ats.length c5, .slice a6 f.vals.length c6] 43) := ⟨_, rfl⟩
  have hb : Below w.heap.size w W := by rw [hW]; exact (Below.refl _ _).alloc (Nat.le_refl _) _
  have hzW : W.heap.size = w.heap.size + 1 := by rw [hW]; exact size_push _ _
  have hP : PBox lo B W nv c := h.later hb
  have hBw : B < w.heap.size := h.blk.lt
  have r1 : W.heap[w.heap.size]? = some (.cells #[.int .i64 f.kind, .int .i64 f.node, .int .i64 f.id, .slice a3 f.ops.length c3, .slice a4 f.deps.length c4, .slice a5 f.ats.length c5, .slice a6 f.vals.length c6] 43 (0, 0)) := by rw [hW]; exact heap_new _ _
  have k1 : W.cell? ⟨w.heap.size, 1, none⟩ = some (.int .i64 n) := by rw [cell_of_row _ _ _ _ _ _ r1, ← en]; rfl
  have q1 := hP.box.fixed
  have q3 := hP.box.told hn6
  obtain ⟨a2, c2, q2, hs2, hl2⟩ := hP.box.ops
  have n1 : (0 : Int) ≤ (n : Int) ∧ (n : Int) < 6 := by omega
  have HP : Hid (PBox lo B W nv c) := hP
  have HW : Hid (W = w.alloc (.cells #[.int .i64 f.kind, .int .i64 f.node, .int .i64 f.id, .slice a3 f.ops.length c3, .slice a4 f.deps.length c4, .slice a5 f.ats.length c5, .slice a6 f.vals.length c6] 43)) := hW
  have HGw : Hid (w.grownBy W (some B)) := grownR_below (grownR_refl _ _) hb
  have HRW : Hid (W.heap[w.heap.size]? = some (.cells #[.int .i64 f.kind, .int .i64 f.node, .int .i64 f.id, .slice a3 f.ops.length c3, .slice a4 f.deps.length c4, .slice a5 f.ats.length c5, .slice a6 f.vals.length c6] 43 (0, 0))) := r1
  have H4 : Hid (SlInts w a4 c4 f.deps ∧ IntsIn (· < B) w a4 f.deps) := h4
  have Hbw : Hid (Below w.heap.size w W) := hb
  have HS2 : Hid (SlOps W a2 c2 c.ops) := hs2
  rw [Ht0.out] at q1
  rw [← HN.out, Ht1.out, HN.out] at q3
  clear hW hP h r1 en hb h4 hs2
  have HTo : Hid (∀ wx, wx = W.drew → Calls Try.prog 57 #[.slice a2 c.ops.length c2, .int .i64 (ofL n)] wx fun e w' => e = .returned (.bool true) ∧ Hid (Below W.heap.size W w') ∧ (w'.cell? ⟨B, 1, none⟩ = some (.bool false) ∧ w'.cell? ⟨w.heap.size, 1, none⟩ = some (.int .i64 n) ∧ w'.cell? ⟨B, 3 + n, none⟩ = some (.bool false) ∧ w'.cell? ⟨B, 2, none⟩ = some (.slice a2 c.ops.length c2))) := by
    rintro wx rfl
    refine (touches_any a2 c2 c.ops (ofL n) _ HS2.out.2.1 (HS2.out.later (Below.drew (Below.refl _ _))).1).mono ?_
    rintro e w3 ⟨rfl, hb3⟩
    have hb3' : Below W.heap.size W w3 := (Below.drew (Below.refl _ _)).trans hb3
    refine ⟨by rw [← HNN.out, Ht2.out], hb3', ?_, ?_, ?_, ?_⟩
    · rw [hb3'.cell (p := ⟨B, 1, none⟩) (show B < W.heap.size by omega)]; exact q1
    · rw [hb3'.cell (p := ⟨w.heap.size, 1, none⟩) (show w.heap.size < W.heap.size by omega)]; exact k1
    · rw [hb3'.cell (p := ⟨B, 3 + n, none⟩) (show B < W.heap.size by omega)]; exact q3
    · rw [hb3'.cell (p := ⟨B, 2, none⟩) (show B < W.heap.size by omega)]; exact q2
  go_enter Try.func99, Try.ntmps99
  go_upto_region 1 with fail
  rw [← HW.out]
  clear HW
  refine wp_region_held_drew (S := fun w' => w'.cell? ⟨B, 1, none⟩ = some (.bool false) ∧ w'.cell? ⟨w.heap.size, 1, none⟩ = some (.int .i64 n) ∧ w'.cell? ⟨B, 3 + n, none⟩ = some (.bool false) ∧ w'.cell? ⟨B, 2, none⟩ = some (.slice a2 c.ops.length c2)) (by kernel_rfl) ⟨q1, k1, q3, q2⟩ ?_
  intro hH
  refine wpAnyH_takeD (i := 0) (d := some 5) (v := .pointer (some ⟨B, 0, none⟩)) rfl rfl (by kernel_rfl) (by kernel_rfl) (by kernel_rfl) (fun _ _ _ h => h) (Or.inl ⟨by rfl, fun _ _ => by go_simp⟩) hH ?_
  simp only [Act.put, List.setIfInBounds_toArray, List.set_cons_zero, List.set_cons_succ]
  refine wpAnyH_takeD (i := 1) (d := some 6) (v := .pointer (some ⟨B, 0, none⟩)) rfl rfl (by kernel_rfl) (by kernel_rfl) (by kernel_rfl) (fun _ _ _ h => h) (Or.inl ⟨by rfl, fun _ _ => by go_simp⟩) hH ?_
  simp only [Act.put, List.setIfInBounds_toArray, List.set_cons_zero, List.set_cons_succ]
  refine wpAnyH_takeD (i := 2) (d := some 7) (v := .pointer (some ⟨B, 1, none⟩)) rfl rfl (by kernel_rfl) (by kernel_rfl) (by kernel_rfl) (fun _ _ _ h => h) (Or.inl ⟨by rfl, fun _ _ => by go_simp⟩) hH ?_
  simp only [Act.put, List.setIfInBounds_toArray, List.set_cons_zero, List.set_cons_succ]
  refine wpAnyH_takeD (i := 3) (d := some 8) (v := .bool false) rfl rfl (by kernel_rfl) (by kernel_rfl) (by kernel_rfl) (fun _ _ _ h => h) (Or.inl ⟨by rfl, fun _ hS => by obtain ⟨hS1, hS2, hS3, hS4⟩ := hS; go_simp⟩) hH ?_
  simp only [Act.put, List.setIfInBounds_toArray, List.set_cons_zero, List.set_cons_succ]
  refine wpAnyH_takeD (i := 4) (d := some 9) (v := .bool false) rfl rfl (by kernel_rfl) (by kernel_rfl) (by kernel_rfl) (fun _ _ _ h => h) (Or.inl ⟨by rfl, fun _ _ => by go_simp⟩) hH ?_
  simp only [Act.put, List.setIfInBounds_toArray, List.set_cons_zero, List.set_cons_succ]
  refine wpAnyH_takeD (i := 5) (d := some 10) (v := .pointer (some ⟨B, 0, none⟩)) rfl rfl (by kernel_rfl) (by kernel_rfl) (by kernel_rfl) (fun _ _ _ h => h) (Or.inl ⟨by rfl, fun _ _ => by go_simp⟩) hH ?_
  simp only [Act.put, List.setIfInBounds_toArray, List.set_cons_zero, List.set_cons_succ]
  refine wpAnyH_takeD (i := 6) (d := some 11) (v := .pointer (some ⟨w.heap.size, 1, none⟩)) rfl rfl (by kernel_rfl) (by kernel_rfl) (by kernel_rfl) (fun _ _ _ h => h) (Or.inl ⟨by rfl, fun _ _ => by go_simp⟩) hH ?_
  simp only [Act.put, List.setIfInBounds_toArray, List.set_cons_zero, List.set_cons_succ]
  refine wpAnyH_takeD (i := 7) (d := some 12) (v := .int .i64 n) rfl rfl (by kernel_rfl) (by kernel_rfl) (by kernel_rfl) (fun _ _ _ h => h) (Or.inl ⟨by rfl, fun _ hS => by obtain ⟨hS1, hS2, hS3, hS4⟩ := hS; go_simp⟩) hH ?_
  simp only [Act.put, List.setIfInBounds_toArray, List.set_cons_zero, List.set_cons_succ]
  refine wpAnyH_takeD (i := 8) (d := some 13) (v := .pointer (some ⟨B, 0, none⟩)) rfl rfl (by kernel_rfl) (by kernel_rfl) (by kernel_rfl) (fun _ _ _ h => h) (Or.inl ⟨by rfl, fun _ _ => by go_simp⟩) hH ?_
  simp only [Act.put, List.setIfInBounds_toArray, List.set_cons_zero, List.set_cons_succ]
  refine wpAnyH_takeD (i := 9) (d := some 14) (v := .pointer (some ⟨B, 3, none⟩)) rfl rfl (by kernel_rfl) (by kernel_rfl) (by kernel_rfl) (fun _ _ _ h => h) (Or.inl ⟨by rfl, fun _ _ => by go_simp⟩) hH ?_
  simp only [Act.put, List.setIfInBounds_toArray, List.set_cons_zero, List.set_cons_succ]
  refine wpAnyH_takeD (i := 10) (d := some 15) (v := .pointer (some ⟨B, 3 + n, none⟩)) rfl rfl (by kernel_rfl) (by kernel_rfl) (by kernel_rfl) (fun _ _ _ h => h) (Or.inl ⟨by rfl, fun _ _ => by go_simp⟩) hH ?_
  simp only [Act.put, List.setIfInBounds_toArray, List.set_cons_zero, List.set_cons_succ]
  refine wpAnyH_takeD (i := 11) (d := some 16) (v := .bool false) rfl rfl (by kernel_rfl) (by kernel_rfl) (by kernel_rfl) (fun _ _ _ h => h) (Or.inl ⟨by rfl, fun _ hS => by obtain ⟨hS1, hS2, hS3, hS4⟩ := hS; go_simp⟩) hH ?_
  simp only [Act.put, List.setIfInBounds_toArray, List.set_cons_zero, List.set_cons_succ]
  refine wpAnyH_takeD (i := 12) (d := some 17) (v := .bool false) rfl rfl (by kernel_rfl) (by kernel_rfl) (by kernel_rfl) (fun _ _ _ h => h) (Or.inl ⟨by rfl, fun _ _ => by go_simp⟩) hH ?_
  simp only [Act.put, List.setIfInBounds_toArray, List.set_cons_zero, List.set_cons_succ]
  refine wpAnyH_takeD (i := 13) (d := some 18) (v := .bool false) rfl rfl (by kernel_rfl) (by kernel_rfl) (by kernel_rfl) (fun _ _ _ h => h) (Or.inl ⟨by rfl, fun _ _ => by go_simp⟩) hH ?_
  simp only [Act.put, List.setIfInBounds_toArray, List.set_cons_zero, List.set_cons_succ]
  refine wpAnyH_takeD (i := 14) (d := some 19) (v := .pointer (some ⟨B, 0, none⟩)) rfl rfl (by kernel_rfl) (by kernel_rfl) (by kernel_rfl) (fun _ _ _ h => h) (Or.inl ⟨by rfl, fun _ _ => by go_simp⟩) hH ?_
  simp only [Act.put, List.setIfInBounds_toArray, List.set_cons_zero, List.set_cons_succ]
  refine wpAnyH_takeD (i := 15) (d := some 20) (v := .pointer (some ⟨B, 0, none⟩)) rfl rfl (by kernel_rfl) (by kernel_rfl) (by kernel_rfl) (fun _ _ _ h => h) (Or.inl ⟨by rfl, fun _ _ => by go_simp⟩) hH ?_
  simp only [Act.put, List.setIfInBounds_toArray, List.set_cons_zero, List.set_cons_succ]
  refine wpAnyH_takeD (i := 16) (d := some 21) (v := .pointer (some ⟨B, 2, none⟩)) rfl rfl (by kernel_rfl) (by kernel_rfl) (by kernel_rfl) (fun _ _ _ h => h) (Or.inl ⟨by rfl, fun _ _ => by go_simp⟩) hH ?_
  simp only [Act.put, List.setIfInBounds_toArray, List.set_cons_zero, List.set_cons_succ]
  refine wpAnyH_takeD (i := 17) (d := some 22) (v := .slice a2 c.ops.length c2) rfl rfl (by kernel_rfl) (by kernel_rfl) (by kernel_rfl) (fun _ _ _ h => h) (Or.inl ⟨by rfl, fun _ hS => by obtain ⟨hS1, hS2, hS3, hS4⟩ := hS; go_simp⟩) hH ?_
  simp only [Act.put, List.setIfInBounds_toArray, List.set_cons_zero, List.set_cons_succ]
  refine wpAnyH_takeD (i := 18) (d := some 23) (v := .pointer (some ⟨w.heap.size, 1, none⟩)) rfl rfl (by kernel_rfl) (by kernel_rfl) (by kernel_rfl) (fun _ _ _ h => h) (Or.inl ⟨by rfl, fun _ _ => by go_simp⟩) hH ?_
  simp only [Act.put, List.setIfInBounds_toArray, List.set_cons_zero, List.set_cons_succ]
  refine wpAnyH_takeD (i := 19) (d := some 24) (v := .int .i64 n) rfl rfl (by kernel_rfl) (by kernel_rfl) (by kernel_rfl) (fun _ _ _ h => h) (Or.inl ⟨by rfl, fun _ hS => by obtain ⟨hS1, hS2, hS3, hS4⟩ := hS; go_simp⟩) hH ?_
  simp only [Act.put, List.setIfInBounds_toArray, List.set_cons_zero, List.set_cons_succ]
  refine wpAnyH_ready (rs := [20]) (by kernel_rfl) (by simp) ?_
  refine AllReadyH.cons rfl (fun K hK => ?_) AllReadyH.nil
  go_simp
  refine (of_any _ _).mono ?_
  rintro e w1 ⟨rfl, hw1⟩
  subst hw1
  go_wp2_with fail
  refine hK.out _ _ (hH) (fun hH2 => ?_)
  clear hK K hH
  have hH := hH2
  clear hH2
  refine wpAnyH_ready (rs := [21]) (by kernel_rfl) (by simp) ?_
  refine AllReadyH.cons rfl (fun K hK => ?_) AllReadyH.nil
  go_simp
  refine (HTo.out _ rfl).mono ?_
  rintro e w3 ⟨rfl, HB3, hS3⟩
  go_wp2_with fail
  refine hK.out _ _ (hS3) (fun hH2 => ?_)
  clear hK K hH
  have hH := hH2
  clear hH2
  refine wpAnyH_takeD (i := 22) (d := some 27) (v := .bool false) rfl rfl (by kernel_rfl) (by kernel_rfl) (by kernel_rfl) (fun _ _ _ h => h) (Or.inl ⟨by rfl, fun _ _ => by go_simp⟩) hH ?_
  simp only [Act.put, List.setIfInBounds_toArray, List.set_cons_zero, List.set_cons_succ]
  refine wpAnyH_takeD (i := 23) (d := some 28) (v := .bool false) rfl rfl (by kernel_rfl) (by kernel_rfl) (by kernel_rfl) (fun _ _ _ h => h) (Or.inl ⟨by rfl, fun _ _ => by go_simp⟩) hH ?_
  simp only [Act.put, List.setIfInBounds_toArray, List.set_cons_zero, List.set_cons_succ]
  refine wpAnyH_done (by kernel_rfl) ?_ _
  have f3 : w3.frozen? ⟨B, 3 + n, none⟩ = false := (HP.out.later HB3.out).blk.frozen _
  have p3 := ((HP.out.later HB3.out).put (3 + n) (.bool true) ((HP.out.later HB3.out).case.putTold hn6 true)).drew
  obtain ⟨Y, hY⟩ : ∃ Y, Y = (w3.setCell ⟨B, 3 + n, none⟩ (.bool true)).drew := ⟨_, rfl⟩
  rw [← hY] at p3
  have HP3 : Hid (PBox lo B Y (putV nv (3 + n) (.bool true)) { c with told := upd c.told n true }) := p3
  have HG3 : Hid (W.grownBy Y (some B)) := by unfold Hid; rw [hY]; exact grownR_drew (grown_put_same (grownR_below (grownR_refl _ _) HB3.out) _ _)
  have HY : Hid (Y = (w3.setCell ⟨B, 3 + n, none⟩ (.bool true)).drew) := hY
  have hne : ¬ w.heap.size = B := by omega
  obtain ⟨hS31, hS32, hS33, hS34⟩ := hS3
  clear hY p3 q1 k1 q2 q3
  go_wp2
  go_region
  go_upto_region 4 with fail
  rw [← HY.out]
  clear HY hS31 hS32 hS33 hS34 f3
  have hzY := HG3.out.size
  have rY : Y.heap[w.heap.size]? = some (.cells #[.int .i64 f.kind, .int .i64 f.node, .int .i64 f.id, .slice a3 f.ops.length c3, .slice a4 f.deps.length c4, .slice a5 f.ats.length c5, .slice a6 f.vals.length c6] 43 (0, 0)) := by rw [HG3.out.block _ (by omega) (fun e => by cases e; omega)]; exact HRW.out
  have k4 : Y.cell? ⟨w.heap.size, 4, none⟩ = some (.slice a4 f.deps.length c4) := by rw [cell_of_row _ _ _ _ _ _ rY]; rfl
  obtain ⟨a15, c15, q15, hs15, hl15⟩ := HP3.out.box.deps
  have H4Y : Hid (IntsIn (· < B) Y a4 f.deps) := H4.out.2.later (fun b hb' hk => by have : b < B := hk; rw [HG3.out.block _ (by omega) (fun e => by cases e; omega), Hbw.out.block _ (by omega)])
  have HUn : Hid (∀ wx, wx = Y.drew → Calls Try.prog 59 #[.slice a15 c.deps.length c15, .slice a4 f.deps.length c4] wx fun e w' => ∃ v, e = .returned v ∧ Hid (w'.ownsRow Y.heap.size 3 1 v (unionL c.deps f.deps).length (intCells (unionL c.deps f.deps))) ∧ Hid (Below Y.heap.size Y w') ∧ w'.cell? ⟨w.heap.size, 4, none⟩ = some (.slice a4 f.deps.length c4)) := by
    rintro wx rfl
    refine (union_any a15 c15 c.deps a4 c4 f.deps _ hs15.2.1 (hs15.later (Below.drew (Below.refl _ _))).1 H4.out.1.2.1 (IntsIn.at (H4Y.out.later (SameOn.of_size (Below.drew (Below.refl _ _)))))).mono ?_
    rintro e w5 ⟨v, rfl, hv, hb5⟩
    have hb5' : Below Y.heap.size Y w5 := (Below.drew (Below.refl _ _)).trans hb5
    exact ⟨v, rfl, hv, hb5', by rw [hb5'.cell (p := ⟨w.heap.size, 4, none⟩) (show w.heap.size < Y.heap.size by omega)]; exact k4⟩
  refine wp_region_held_drew (S := fun w' => w'.cell? ⟨w.heap.size, 4, none⟩ = some (.slice a4 f.deps.length c4)) (by kernel_rfl) k4 ?_
  intro hH
  refine wpAnyH_takeD (i := 0) (d := some 35) (v := .pointer (some ⟨B, 0, none⟩)) rfl rfl (by kernel_rfl) (by kernel_rfl) (by kernel_rfl) (fun _ _ _ h => h) (Or.inl ⟨by rfl, fun _ _ => by go_simp⟩) hH ?_
  simp only [Act.put, List.setIfInBounds_toArray, List.set_cons_zero, List.set_cons_succ]
  refine wpAnyH_takeD (i := 1) (d := some 36) (v := .pointer (some ⟨B, 0, none⟩)) rfl rfl (by kernel_rfl) (by kernel_rfl) (by kernel_rfl) (fun _ _ _ h => h) (Or.inl ⟨by rfl, fun _ _ => by go_simp⟩) hH ?_
  simp only [Act.put, List.setIfInBounds_toArray, List.set_cons_zero, List.set_cons_succ]
  refine wpAnyH_takeD (i := 2) (d := some 37) (v := .pointer (some ⟨B, 0, none⟩)) rfl rfl (by kernel_rfl) (by kernel_rfl) (by kernel_rfl) (fun _ _ _ h => h) (Or.inl ⟨by rfl, fun _ _ => by go_simp⟩) hH ?_
  simp only [Act.put, List.setIfInBounds_toArray, List.set_cons_zero, List.set_cons_succ]
  refine wpAnyH_takeD (i := 3) (d := some 38) (v := .pointer (some ⟨B, 15, none⟩)) rfl rfl (by kernel_rfl) (by kernel_rfl) (by kernel_rfl) (fun _ _ _ h => h) (Or.inl ⟨by rfl, fun _ _ => by go_simp⟩) hH ?_
  simp only [Act.put, List.setIfInBounds_toArray, List.set_cons_zero, List.set_cons_succ]
  refine wpAnyH_takeD (i := 5) (d := some 40) (v := .pointer (some ⟨w.heap.size, 4, none⟩)) rfl rfl (by kernel_rfl) (by kernel_rfl) (by kernel_rfl) (fun _ _ _ h => h) (Or.inl ⟨by rfl, fun _ _ => by go_simp⟩) hH ?_
  simp only [Act.put, List.setIfInBounds_toArray, List.set_cons_zero, List.set_cons_succ]
  refine wpAnyH_takeD (i := 6) (d := some 41) (v := .slice a4 f.deps.length c4) rfl rfl (by kernel_rfl) (by kernel_rfl) (by kernel_rfl) (fun _ _ _ h => h) (Or.inl ⟨by rfl, fun _ hS => by go_simp⟩) hH ?_
  simp only [Act.put, List.setIfInBounds_toArray, List.set_cons_zero, List.set_cons_succ]
  refine wpAnyH_ready (rs := [4]) (by kernel_rfl) (by simp) ?_
  refine AllReadyH.cons rfl (fun K hK => ?_) AllReadyH.nil
  go_simp
  refine hK.out _ _ hH (fun hH2 => ?_)
  clear hK K hH
  have hH := hH2
  clear hH2
  refine wpAnyH_ready (rs := [7]) (by kernel_rfl) (by simp) ?_
  refine AllReadyH.cons rfl (fun K hK => ?_) AllReadyH.nil
  go_simp
  refine (HUn.out _ rfl).mono ?_
  rintro e w5 ⟨vu, rfl, HVu, HB5, hS5⟩
  obtain ⟨au, cu, evu, _, _⟩ := own_form HVu.out
  have HEV : Hid (vu = .slice au (unionL c.deps f.deps).length cu) := evu
  subst evu
  go_wp2_with fail
  refine hK.out _ _ (hS5) (fun hH2 => ?_)
  clear hK K hH
  have hH := hH2
  clear hH2
  refine wpAnyH_takeD (i := 8) (d := some 43) (v := .pointer (some ⟨B, 0, none⟩)) rfl rfl (by kernel_rfl) (by kernel_rfl) (by kernel_rfl) (fun _ _ _ h => h) (Or.inl ⟨by rfl, fun _ _ => by go_simp⟩) hH ?_
  simp only [Act.put, List.setIfInBounds_toArray, List.set_cons_zero, List.set_cons_succ]
  refine wpAnyH_takeD (i := 9) (d := some 44) (v := .pointer (some ⟨B, 15, none⟩)) rfl rfl (by kernel_rfl) (by kernel_rfl) (by kernel_rfl) (fun _ _ _ h => h) (Or.inl ⟨by rfl, fun _ _ => by go_simp⟩) hH ?_
  simp only [Act.put, List.setIfInBounds_toArray, List.set_cons_zero, List.set_cons_succ]
  have HP5 : Hid (PBox lo B w5 (putV nv (3 + n) (.bool true)) { c with told := upd c.told n true }) := HP3.out.later HB5.out
  have q15' : w5.cell? ⟨B, 15, none⟩ = some (.slice a15 c.deps.length c15) := by rw [HB5.out.cell (p := ⟨B, 15, none⟩) (show B < Y.heap.size by omega)]; exact q15
  have f15 : w5.frozen? ⟨B, 15, none⟩ = false := HP5.out.blk.frozen _
  refine wpAnyH_ready (rs := [10]) (by kernel_rfl) (by simp) ?_
  refine AllReadyH.cons rfl (fun K hK => ?_) AllReadyH.nil
  go_simp
  refine hK.out _ _ (cell_apart hH (by omega)) (fun hH2 => ?_)
  clear hK K hH
  have hH := hH2
  clear hH2
  refine wpAnyH_done (by kernel_rfl) ?_ _
  obtain ⟨Z, hZ⟩ : ∃ Z, Z = w5.setCell ⟨B, 15, none⟩ (.slice au (unionL c.deps f.deps).length cu) := ⟨_, rfl⟩
  have hIv : IsI (lo ≤ ·) w5 (.slice au (unionL c.deps f.deps).length cu) (joinL c.deps f.deps) := (IsI.of_owns HVu.out (union_room _ _)).mono (fun b _ hb => by have := hb.1; show lo ≤ b; omega)
  have p5 := HP5.out.put 15 (.slice au (unionL c.deps f.deps).length cu) (HP5.out.case.putDeps hIv)
  rw [← hZ] at p5
  have HPZ : Hid (PBox lo B Z (putV (putV nv (3 + n) (.bool true)) 15 (.slice au (unionL c.deps f.deps).length cu)) { c with told := upd c.told n true, deps := joinL c.deps f.deps }) := p5
  have HGZ : Hid (W.grownBy Z (some B)) := by unfold Hid; rw [hZ]; exact grown_put_same (grownR_below HG3.out HB5.out) _ _
  have HZ : Hid (Z = w5.setCell ⟨B, 15, none⟩ (.slice au (unionL c.deps f.deps).length cu)) := hZ
  have hzZ := HGZ.out.size
  clear hZ p5 hIv q15 q15' f15 hs15 hl15 hS5 hH k4 rY HP5
  go_upto_region 5 with fail
  rw [← HZ.out]
  clear HZ
  go_wp2_with fail
  refine (p_mostTold lo B _ _ Z HPZ.out).mono ?_
  rintro e w6 ⟨rfl, hb6⟩
  have HP6 : Hid (PBox lo B w6 (putV (putV nv (3 + n) (.bool true)) 15 (.slice au (unionL c.deps f.deps).length cu)) { c with told := upd c.told n true, deps := joinL c.deps f.deps }) := HPZ.out.later hb6
  have HG6 : Hid (W.grownBy w6 (some B)) := grownR_below HGZ.out hb6
  have HM : Hid (mostB c.ops (upd c.told n true) = true) := by unfold Hid; rw [← HN.out]; exact Ht3.out
  have hM : mostB c.ops (upd c.told n true) = true := HM.out
  have hz6 := hb6.size
  clear hb6
  have HE : Hid (d = { c with told := upd c.told n true, deps := joinL c.deps f.deps, fixed := true }) := by
    unfold Hid
    rw [HD.out]
    unfold CaseL.hear
    rw [HN.out, HM.out]
  have q61 := HP6.out.box.fixed
  have f61 : w6.frozen? ⟨B, 1, none⟩ = false := HP6.out.blk.frozen _
  obtain ⟨V, hV⟩ : ∃ V, V = w6.setCell ⟨B, 1, none⟩ (.bool true) := ⟨_, rfl⟩
  have p7 := HP6.out.put 1 (.bool true) (HP6.out.case.putFixed true)
  rw [← hV] at p7
  have HG7 : Hid (W.grownBy V (some B)) := by unfold Hid; rw [hV]; exact grown_put_same HG6.out _ _
  have HV : Hid (V = w6.setCell ⟨B, 1, none⟩ (.bool true)) := hV
  obtain ⟨mv, hmv⟩ : ∃ mv, mv = putV (putV (putV nv (3 + n) (.bool true)) 15 (.slice au (unionL c.deps f.deps).length cu)) 1 (.bool true) := ⟨_, rfl⟩
  rw [← hmv] at p7
  have HP7 : Hid (PBox lo B V mv d) := by unfold Hid; rw [HE.out]; exact p7
  clear p7 hmv hV
  go_upto_region 8 with fail
  rw [← HV.out]
  clear HV q61 f61
  have hzV := HG7.out.size
  have rV : V.heap[w.heap.size]? = some (.cells #[.int .i64 f.kind, .int .i64 f.node, .int .i64 f.id, .slice a3 f.ops.length c3, .slice a4 f.deps.length c4, .slice a5 f.ats.length c5, .slice a6 f.vals.length c6] 43 (0, 0)) := by rw [HG7.out.block _ (by omega) (fun e => by cases e; omega)]; exact HRW.out
  have kV : V.cell? ⟨w.heap.size, 2, none⟩ = some (.int .i64 f.id) := by rw [cell_of_row _ _ _ _ _ _ rV]; rfl
  obtain ⟨al, hal⟩ : ∃ al, al = (rowF 24 mv).toList := ⟨_, rfl⟩
  have rA : V.rangeAt B 0 al := by rw [hal]; exact HP7.out.box.range
  have zal : (Try.prog.info? 73).map (·.size) = some al.length := by rw [hal]; exact HP7.out.box.case.len
  have HAg : Hid (∀ wx, wx = V.drew → Calls Try.prog 48 #[.agg al.toArray, .int .i64 f.id] wx fun e w' => ∃ x, e = .returned x ∧ Hid (FramesV V.heap.size w' x (againC d f.id)) ∧ Hid (Below V.heap.size V w') ∧ (w'.cell? ⟨w.heap.size, 2, none⟩ = some (.int .i64 f.id) ∧ w'.rangeAt B 0 al)) := by
    rintro wx rfl
    rw [hal, Array.toArray_toList]
    refine (p_again (rowF 24 mv) d f.id _ (HP7.out.drew.box).case).mono ?_
    rintro e w8 ⟨x, rfl, hfx, hb8⟩
    have hb8' : Below V.heap.size V w8 := (Below.drew (Below.refl _ _)).trans hb8
    exact ⟨x, rfl, hfx, hb8', by rw [hb8'.cell (p := ⟨w.heap.size, 2, none⟩) (show w.heap.size < V.heap.size by omega)]; exact kV, (HP7.out.later hb8').box.range⟩
  clear hal
  refine wp_region_held_drew (S := fun w' => w'.cell? ⟨w.heap.size, 2, none⟩ = some (.int .i64 f.id) ∧ w'.rangeAt B 0 al) (by kernel_rfl) ⟨kV, rA⟩ ?_
  intro hH
  refine wpAnyH_takeD (i := 0) (d := some 51) (v := .pointer (some ⟨B, 0, none⟩)) rfl rfl (by kernel_rfl) (by kernel_rfl) (by kernel_rfl) (fun _ _ _ h => h) (Or.inl ⟨by rfl, fun _ _ => by go_simp⟩) hH ?_
  simp only [Act.put, List.setIfInBounds_toArray, List.set_cons_zero, List.set_cons_succ]
  refine wpAnyH_takeD (i := 1) (d := some 52) (v := .pointer (some ⟨B, 0, none⟩)) rfl rfl (by kernel_rfl) (by kernel_rfl) (by kernel_rfl) (fun _ _ _ h => h) (Or.inl ⟨by rfl, fun _ _ => by go_simp⟩) hH ?_
  simp only [Act.put, List.setIfInBounds_toArray, List.set_cons_zero, List.set_cons_succ]
  refine wpAnyH_takeD (i := 2) (d := some 53) (v := .agg al.toArray) rfl rfl (by kernel_rfl) (by kernel_rfl) (by kernel_rfl) (fun _ _ _ h => h) (yieldsIf_load_mid (by rfl) _ _ rfl _ _ rfl al _ (fun _ h => h.2) Try.underlying73 rfl zal) hH ?_
  simp only [Act.put, List.setIfInBounds_toArray, List.set_cons_zero, List.set_cons_succ]
  refine wpAnyH_takeD (i := 3) (d := some 54) (v := .pointer (some ⟨w.heap.size, 2, none⟩)) rfl rfl (by kernel_rfl) (by kernel_rfl) (by kernel_rfl) (fun _ _ _ h => h) (Or.inl ⟨by rfl, fun _ _ => by go_simp⟩) hH ?_
  simp only [Act.put, List.setIfInBounds_toArray, List.set_cons_zero, List.set_cons_succ]
  refine wpAnyH_takeD (i := 4) (d := some 55) (v := .int .i64 f.id) rfl rfl (by kernel_rfl) (by kernel_rfl) (by kernel_rfl) (fun _ _ _ h => h) (Or.inl ⟨by rfl, fun _ hS => by obtain ⟨hS1, hS2⟩ := hS; go_simp⟩) hH ?_
  simp only [Act.put, List.setIfInBounds_toArray, List.set_cons_zero, List.set_cons_succ]
  refine wpAnyH_ready (rs := [5]) (by kernel_rfl) (by simp) ?_
  refine AllReadyH.cons rfl (fun K hK => ?_) AllReadyH.nil
  go_simp
  refine (HAg.out _ rfl).mono ?_
  rintro e w8 ⟨x, rfl, HFx, HB8, hS8⟩
  go_wp2_with fail
  refine hK.out _ _ (hS8) (fun hH2 => ?_)
  clear hK K hH
  have hH := hH2
  clear hH2
  refine wpAnyH_takeD (i := 6) (d := some 4) (v := x) rfl rfl (by kernel_rfl) (by kernel_rfl) (by kernel_rfl) (fun _ _ _ h => h) (Or.inl ⟨by rfl, fun _ _ => by go_simp⟩) hH ?_
  simp only [Act.put, List.setIfInBounds_toArray, List.set_cons_zero, List.set_cons_succ]
  refine wpAnyH_done (by kernel_rfl) ?_ _
  go_wp2
  go_ret
  exact ⟨mv, x, rfl, HP7.out.later HB8.out, HFx.out.mono (by omega), grownR_trans HGw.out (grownR_below HG7.out HB8.out)⟩

def toldC (c : CaseL) (f : FrameL) : CaseL × List FrameL := if c.fixed = true ∨ c.told f.node.toNat = true ∨ touchesL c.ops (ofL f.node) = false then (c, []) else (c.hear f, if (c.hear f).fixed then againC (c.hear f) f.id else [])
theorem p_takeTold (lo B : Nat) (nv : Nat → Value) (c : CaseL) (v : Value) (f : FrameL) (w : World) (h : PBox lo B w nv c) (hf : FrameB B w v f) (hg : goodL f = 0) (hlo : lo ≤ w.heap.size) :
    Calls Try.prog 99 #[.pointer (some ⟨B, 0, none⟩), v] w fun e w' => ∃ nv' x, e = .returned x ∧ PBox lo B w' nv' (toldC c f).1 ∧ FramesV w.heap.size w' x (toldC c f).2 ∧ w.grownBy w' (some B) := by
  unfold toldC
  cases t0 : c.fixed
  · cases t1 : c.told f.node.toNat
    · cases t2 : touchesL c.ops (ofL f.node)
      · rw [if_pos (Or.inr (Or.inr rfl))]; exact told_2 lo B nv c v f w h hf hg hlo t0 t1 t2
      · rw [if_neg (by rintro (e | e | e) <;> cases e)]
        cases t3 : mostB c.ops (upd c.told f.node.toNat true)
        · have : (c.hear f).fixed = false := t3
          rw [this]
          exact told_3 lo B nv c v f w h hf hg hlo t0 t1 t2 t3
        · have : (c.hear f).fixed = true := t3
          rw [this]
          exact told_4 lo B nv c v f w h hf hg hlo t0 t1 t2 t3
    · rw [if_pos (Or.inr (Or.inl rfl))]; exact told_1 lo B nv c v f w h hf hg hlo t0 t1
  · rw [if_pos (Or.inl rfl)]; exact told_0 lo B nv c v f w h hf hg hlo t0

end Go.Proofs.Ytkoefoccbjhoiab
