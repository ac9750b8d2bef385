/-
  A case by value, and in a box of its own.
  The contracts of post's small functions: isZero.
-/
import Derived.Test.YtkoefoccbjhoiabPbg4
set_option linter.unusedVariables false
set_option linter.unusedSimpArgs false
namespace Go.Proofs.Ytkoefoccbjhoiab
open Go.RowKit

def isTxnB (n : Int) : Bool := decide (0 ≤ n ∧ n < 32)
set_option maxRecDepth 100000 in
set_option maxHeartbeats 400000 in
theorem p_isTxn (n : Int) (w : World) :
    Calls Try.prog 89 #[.int .i64 n] w fun e w' => e = .returned (.bool (isTxnB n)) ∧ w' = w := by
  by_cases h1 : 0 ≤ n
  · by_cases h2 : n < 32
    · have E : Hid (isTxnB n = true) := by unfold isTxnB Hid; simp; omega
      have d1 : decide (0 ≤ n) = true := by simpa using h1
      have d2 : decide (n < 32) = true := by simpa using h2
      go_enter Try.func89, Try.ntmps89
      go_wp2
      go_ret
      exact ⟨ret_bool E.out.symm, rfl⟩
    · have E : Hid (isTxnB n = false) := by unfold isTxnB Hid; simp; omega
      have d1 : decide (0 ≤ n) = true := by simpa using h1
      have d2 : decide (n < 32) = false := by simpa using h2
      go_enter Try.func89, Try.ntmps89
      go_wp2
      go_ret
      exact ⟨ret_bool E.out.symm, rfl⟩
  · have E : Hid (isTxnB n = false) := by unfold isTxnB Hid; simp; omega
    have d1 : decide (0 ≤ n) = false := by simpa using h1
    go_enter Try.func89, Try.ntmps89
    go_wp2
    go_ret
    exact ⟨ret_bool E.out.symm, rfl⟩

/-- A case by value: its cells are 'gr'. -/
def CaseV (w : World) (gr : Array Value) (c : CaseL) : Prop := ∃ nv, gr = rowF 24 nv ∧ CaseC (· < w.heap.size) w nv c
theorem CaseV.later {w w' : World} {gr : Array Value} {c : CaseL} (h : CaseV w gr c) (hb : Below w.heap.size w w') : CaseV w' gr c := by
  obtain ⟨nv, e, h⟩ := h
  exact ⟨nv, e, h.below hb⟩
theorem CaseV.size {w : World} {gr : Array Value} {c : CaseL} (h : CaseV w gr c) : gr.size = 24 := by
  obtain ⟨nv, e, _⟩ := h
  rw [e, rowF_size]
theorem CaseV.info {w : World} {gr : Array Value} {c : CaseL} (h : CaseV w gr c) : (Try.prog.info? 73).map (·.size) = some gr.size := by rw [h.size]; exact Try.infoCase
theorem CaseV.one {w : World} {gr : Array Value} {c : CaseL} (h : CaseV w gr c) : gr.all (·.oneCell') = true := by
  obtain ⟨nv, e, h⟩ := h
  rw [e]
  exact rowF_all h.one
/-- A case in a box. -/
structure InBox (b : Nat) (w : World) (gr : Array Value) (c : CaseL) : Prop where
  row : w.heap[b]? = some (.cells gr 73 (0, 0))
  case : CaseV w gr c
theorem InBox.later {b : Nat} {w w' : World} {gr : Array Value} {c : CaseL} (h : InBox b w gr c) (hb : Below w.heap.size w w') : InBox b w' gr c :=
  ⟨by rw [hb.block b (Array.getElem?_eq_some_iff.1 h.row).1]; exact h.row, h.case.later hb⟩
theorem InBox.lt {b : Nat} {w : World} {gr : Array Value} {c : CaseL} (h : InBox b w gr c) : b < w.heap.size := (Array.getElem?_eq_some_iff.1 h.row).1
theorem InBox.new {w : World} {gr : Array Value} {c : CaseL} (h : CaseV w gr c) : InBox w.heap.size (w.alloc (.cells gr 73)) gr c :=
  ⟨heap_new _ _, h.later ((Below.refl _ _).alloc (Nat.le_refl _) _)⟩
theorem InBox.blk {b : Nat} {w : World} {gr : Array Value} {c : CaseL} (h : InBox b w gr c) : ∃ nv, gr = rowF 24 nv ∧ BlkAt 24 w b nv ∧ CaseC (· < w.heap.size) w nv c := by
  obtain ⟨nv, e, hc⟩ := h.case
  exact ⟨nv, e, ⟨_, by rw [← e]; exact h.row⟩, hc⟩
theorem InBox.begun {b : Nat} {w : World} {gr : Array Value} {c : CaseL} (h : InBox b w gr c) : w.cell? ⟨b, 0, none⟩ = some (.bool c.begun) := by
  obtain ⟨nv, _, hb, hc⟩ := h.blk
  rw [hb.cell (by omega), hc.begun]
theorem InBox.fixed {b : Nat} {w : World} {gr : Array Value} {c : CaseL} (h : InBox b w gr c) : w.cell? ⟨b, 1, none⟩ = some (.bool c.fixed) := by
  obtain ⟨nv, _, hb, hc⟩ := h.blk
  rw [hb.cell (by omega), hc.fixed]
theorem InBox.ops {b : Nat} {w : World} {gr : Array Value} {c : CaseL} (h : InBox b w gr c) : ∃ a cap, w.cell? ⟨b, 2, none⟩ = some (.slice a c.ops.length cap) ∧ SlOps w a cap c.ops ∧ c.ops.length * 24 ≤ 140737488355328 := by
  obtain ⟨nv, _, hb, hc⟩ := h.blk
  obtain ⟨a, cap, e, hs⟩ := hc.ops.sl
  obtain ⟨_, _, _, _, hl, _⟩ := hc.ops
  exact ⟨a, cap, by rw [hb.cell (by omega), e], hs, hl⟩
theorem InBox.deps {b : Nat} {w : World} {gr : Array Value} {c : CaseL} (h : InBox b w gr c) : ∃ a cap, w.cell? ⟨b, 15, none⟩ = some (.slice a c.deps.length cap) ∧ SlInts w a cap c.deps ∧ c.deps.length * 8 ≤ 140737488355328 := by
  obtain ⟨nv, _, hb, hc⟩ := h.blk
  obtain ⟨a, cap, e, hs⟩ := hc.deps.sl
  obtain ⟨_, _, _, _, hl, _⟩ := hc.deps
  exact ⟨a, cap, by rw [hb.cell (by omega), e], hs, hl⟩
theorem InBox.told {b : Nat} {w : World} {gr : Array Value} {c : CaseL} (h : InBox b w gr c) {i : Nat} (hi : i < 6) : w.cell? ⟨b, 3 + i, none⟩ = some (.bool (c.told i)) := by
  obtain ⟨nv, _, hb, hc⟩ := h.blk
  rw [hb.cell (by omega), hc.told i hi]
theorem InBox.known {b : Nat} {w : World} {gr : Array Value} {c : CaseL} (h : InBox b w gr c) {i : Nat} (hi : i < 6) : w.cell? ⟨b, 9 + i, none⟩ = some (.bool (c.known i)) := by
  obtain ⟨nv, _, hb, hc⟩ := h.blk
  rw [hb.cell (by omega), hc.known i hi]
theorem InBox.has {b : Nat} {w : World} {gr : Array Value} {c : CaseL} (h : InBox b w gr c) {i : Nat} (hi : i < 4) : w.cell? ⟨b, 16 + i, none⟩ = some (.bool (c.has i)) := by
  obtain ⟨nv, _, hb, hc⟩ := h.blk
  rw [hb.cell (by omega), hc.has i hi]
theorem InBox.vals {b : Nat} {w : World} {gr : Array Value} {c : CaseL} (h : InBox b w gr c) {i : Nat} (hi : i < 4) : w.cell? ⟨b, 20 + i, none⟩ = some (.int .i64 (c.vals i)) := by
  obtain ⟨nv, _, hb, hc⟩ := h.blk
  rw [hb.cell (by omega), hc.vals i hi]
theorem InBox.rTold {b : Nat} {w : World} {gr : Array Value} {c : CaseL} (h : InBox b w gr c) : w.rangeAt b 3 (bools 6 c.told).toList := by
  obtain ⟨nv, _, hb, hc⟩ := h.blk
  exact hb.truths (by omega) hc.told
theorem InBox.rKnown {b : Nat} {w : World} {gr : Array Value} {c : CaseL} (h : InBox b w gr c) : w.rangeAt b 9 (bools 6 c.known).toList := by
  obtain ⟨nv, _, hb, hc⟩ := h.blk
  exact hb.truths (by omega) hc.known
theorem InBox.rHas {b : Nat} {w : World} {gr : Array Value} {c : CaseL} (h : InBox b w gr c) : w.rangeAt b 16 (bools 4 c.has).toList := by
  obtain ⟨nv, _, hb, hc⟩ := h.blk
  exact hb.truths (by omega) hc.has
theorem InBox.rVals {b : Nat} {w : World} {gr : Array Value} {c : CaseL} (h : InBox b w gr c) : w.rangeAt b 20 (rowF 4 fun i => .int .i64 (c.vals i)).toList := by
  obtain ⟨nv, _, hb, hc⟩ := h.blk
  exact hb.numbers (by omega) hc.vals
theorem InBox.range {b : Nat} {w : World} {gr : Array Value} {c : CaseL} (h : InBox b w gr c) : w.rangeAt b 0 gr.toList := by
  intro j v hv
  rw [cell_of_row w b (0 + j) _ _ _ h.row, Nat.zero_add]
  simpa using hv
theorem CaseV.len {w : World} {gr : Array Value} {c : CaseL} (h : CaseV w gr c) : (Try.prog.info? 73).map (·.size) = some gr.toList.length := by rw [Array.length_toList]; exact h.info
theorem array24 {α : Type} {cs : Array α} (h : cs.size = 24) : ∃ x0 x1 x2 x3 x4 x5 x6 x7 x8 x9 x10 x11 x12 x13 x14 x15 x16 x17 x18 x19 x20 x21 x22 x23, cs = #[x0, x1, x2, x3, x4, x5, x6, x7, x8, x9, x10, x11, x12, x13, x14, x15, x16, x17, x18, x19, x20, x21, x22, x23] := by
  obtain ⟨l⟩ := cs
  match l, h with
  | [x0, x1, x2, x3, x4, x5, x6, x7, x8, x9, x10, x11, x12, x13, x14, x15, x16, x17, x18, x19, x20, x21, x22, x23], _ => exact ⟨x0, x1, x2, x3, x4, x5, x6, x7, x8, x9, x10, x11, x12, x13, x14, x15, x16, x17, x18, x19, x20, x21, x22, x23, rfl⟩
theorem cells24 {w : World} {b : Nat} {t : TypeId} {fr : Nat × Nat} {x0 x1 x2 x3 x4 x5 x6 x7 x8 x9 x10 x11 x12 x13 x14 x15 x16 x17 x18 x19 x20 x21 x22 x23 : Value} (h : w.heap[b]? = some (.cells #[x0, x1, x2, x3, x4, x5, x6, x7, x8, x9, x10, x11, x12, x13, x14, x15, x16, x17, x18, x19, x20, x21, x22, x23] t fr)) :
    w.cell? ⟨b, 0, none⟩ = some x0 ∧ w.cell? ⟨b, 1, none⟩ = some x1 ∧ w.cell? ⟨b, 2, none⟩ = some x2 ∧ w.cell? ⟨b, 3, none⟩ = some x3 ∧ w.cell? ⟨b, 4, none⟩ = some x4 ∧ w.cell? ⟨b, 5, none⟩ = some x5 ∧ w.cell? ⟨b, 6, none⟩ = some x6 ∧ w.cell? ⟨b, 7, none⟩ = some x7 ∧ w.cell? ⟨b, 8, none⟩ = some x8 ∧ w.cell? ⟨b, 9, none⟩ = some x9 ∧ w.cell? ⟨b, 10, none⟩ = some x10 ∧ w.cell? ⟨b, 11, none⟩ = some x11 ∧ w.cell? ⟨b, 12, none⟩ = some x12 ∧ w.cell? ⟨b, 13, none⟩ = some x13 ∧ w.cell? ⟨b, 14, none⟩ = some x14 ∧ w.cell? ⟨b, 15, none⟩ = some x15 ∧ w.cell? ⟨b, 16, none⟩ = some x16 ∧ w.cell? ⟨b, 17, none⟩ = some x17 ∧ w.cell? ⟨b, 18, none⟩ = some x18 ∧ w.cell? ⟨b, 19, none⟩ = some x19 ∧ w.cell? ⟨b, 20, none⟩ = some x20 ∧ w.cell? ⟨b, 21, none⟩ = some x21 ∧ w.cell? ⟨b, 22, none⟩ = some x22 ∧ w.cell? ⟨b, 23, none⟩ = some x23 := by
  refine ⟨?_, ?_, ?_, ?_, ?_, ?_, ?_, ?_, ?_, ?_, ?_, ?_, ?_, ?_, ?_, ?_, ?_, ?_, ?_, ?_, ?_, ?_, ?_, ?_⟩ <;> (rw [cell_of_row w b _ _ _ _ h]; rfl)
theorem zero_case (w : World) : CaseV w (rowF 24 zcv) zeroC := ⟨zcv, rfl, zcv_case _ w⟩
theorem zrow_lit : rowF 24 zcv = #[.bool false, .bool false, .slice none 0 0, .bool false, .bool false, .bool false, .bool false, .bool false, .bool false, .bool false, .bool false, .bool false, .bool false, .bool false, .bool false, .slice none 0 0, .bool false, .bool false, .bool false, .bool false, .int .i64 0, .int .i64 0, .int .i64 0, .int .i64 0] := rfl
theorem Try.sizeSix (S : Nat → Bool) : (Try.prog.info? 69).map (·.size) = some (bools 6 S).toList.length := by rw [bools_len]; exact Try.infoSix
theorem Try.sizeFour (S : Nat → Bool) : (Try.prog.info? 70).map (·.size) = some (bools 4 S).toList.length := by rw [bools_len]; exact Try.infoFour
theorem Try.sizeFourI (S : Nat → Int) : (Try.prog.info? 71).map (·.size) = some (rowF 4 fun i => Value.int .i64 (S i)).toList.length := by rw [rowF_list, List.length_map, List.length_range]; exact Try.infoFourI
theorem row_six (S : Nat → Bool) : RowT Try.prog 69 (bools 6 S).toList.length := ⟨_, Try.underlying69, rfl, Try.sizeSix S⟩
theorem row_four (S : Nat → Bool) : RowT Try.prog 70 (bools 4 S).toList.length := ⟨_, Try.underlying70, rfl, Try.sizeFour S⟩
theorem row_fourI (S : Nat → Int) : RowT Try.prog 71 (rowF 4 fun i => Value.int .i64 (S i)).toList.length := ⟨_, Try.underlying71, rfl, Try.sizeFourI S⟩
theorem CaseV.row {w : World} {gr : Array Value} {c : CaseL} (h : CaseV w gr c) : RowT Try.prog 73 gr.size := ⟨_, Try.underlying73, rfl, h.info⟩
theorem row_frame : RowT Try.prog 43 7 := ⟨_, Try.underlying43, rfl, Try.infoFrame7⟩

end Go.Proofs.Ytkoefoccbjhoiab

namespace Go.Proofs.Ytkoefoccbjhoiab
open Go.RowKit

def isZeroB (c : CaseL) : Bool := !c.fixed && (decide (c.ops.length + c.deps.length = 0) && (sameB 6 c.told (fun _ => false) && (sameB 6 c.known (fun _ => false) && (sameB 4 c.has (fun _ => false) && sameI 4 c.vals (fun _ => 0)))))

set_option maxRecDepth 100000 in
set_option maxHeartbeats 1000000 in
theorem isZero_0 (gr : Array Value) (c : CaseL) (w : World) (h : CaseV w gr c) (tf : c.fixed = true) :
    Calls Try.prog 96 #[.agg gr] w fun e w' => e = .returned (.bool (isZeroB c)) ∧ Below w.heap.size w w' := by
  have HE : Hid (isZeroB c = false) := by unfold Hid isZeroB; simp [tf]
  have Htf : Hid (c.fixed = true) := tf
  clear tf
  obtain ⟨zr, hzr⟩ : ∃ zr, zr = rowF 24 zcv := ⟨_, rfl⟩
  obtain ⟨W, hW⟩ : ∃ W, W = (w.alloc (.cells gr 73)).alloc (.cells zr 73) := ⟨_, rfl⟩
  have hb : Below w.heap.size w W := by rw [hW]; exact ((Below.refl _ _).alloc (Nat.le_refl _) _).alloc (by rw [size_push]; omega) _
  have hB1 : InBox w.heap.size W gr c := by rw [hW]; exact (InBox.new h).later ((Below.refl _ _).alloc (Nat.le_refl _) _)
  have hB2 : InBox (w.heap.size + 1) W zr zeroC := by
    rw [hW, ← size_push w (.cells gr 73), hzr]
    exact InBox.new (zero_case _)
  have HW : Hid (W = (w.alloc (.cells gr 73)).alloc (.cells zr 73)) := hW
  have HB1 : Hid (InBox w.heap.size W gr c) := hB1
  have HB2 : Hid (InBox (w.heap.size + 1) W zr zeroC) := hB2
  have HZR : Hid (zr = rowF 24 zcv) := hzr
  clear hW hB1 hB2 hzr h
  go_enter Try.func96, Try.ntmps96
  go_upto_region 2 with fail
  rw [← zrow_lit, ← HZR.out, ← HW.out]
  clear HW HZR
  have q1 := HB1.out.fixed
  obtain ⟨a2, c2, q2, hs2, hl2⟩ := HB1.out.ops
  obtain ⟨a5, c5, q5, hs5, hl5⟩ := HB1.out.deps
  obtain ⟨A1, hA1⟩ : ∃ A, A = bools 6 c.told := ⟨_, rfl⟩
  obtain ⟨A2, hA2⟩ : ∃ A, A = bools 6 c.known := ⟨_, rfl⟩
  obtain ⟨A3, hA3⟩ : ∃ A, A = bools 4 c.has := ⟨_, rfl⟩
  obtain ⟨A4, hA4⟩ : ∃ A, A = rowF 4 fun i => Value.int .i64 (c.vals i) := ⟨_, rfl⟩
  obtain ⟨Z6, hZ6⟩ : ∃ A, A = bools 6 fun _ => false := ⟨_, rfl⟩
  obtain ⟨Z4, hZ4⟩ : ∃ A, A = bools 4 fun _ => false := ⟨_, rfl⟩
  obtain ⟨ZI, hZI⟩ : ∃ A, A = rowF 4 fun _ => Value.int .i64 0 := ⟨_, rfl⟩
  have rA1 := HB1.out.rTold
  have rA2 := HB1.out.rKnown
  have rA3 := HB1.out.rHas
  have rA4 := HB1.out.rVals
  have rZ1 : W.rangeAt (w.heap.size + 1) 3 (bools 6 fun _ => false).toList := HB2.out.rTold
  have rZ2 : W.rangeAt (w.heap.size + 1) 9 (bools 6 fun _ => false).toList := HB2.out.rKnown
  have rZ3 : W.rangeAt (w.heap.size + 1) 16 (bools 4 fun _ => false).toList := HB2.out.rHas
  have rZ4 : W.rangeAt (w.heap.size + 1) 20 (rowF 4 fun _ => Value.int .i64 0).toList := HB2.out.rVals
  have zA1 := row_six (c.told)
  have zA2 := row_six (c.known)
  have zA3 := row_four (c.has)
  have zA4 := row_fourI (c.vals)
  have zZ6 := row_six (fun _ => false)
  have zZ4 := row_four (fun _ => false)
  have zZI := row_fourI (fun _ => 0)
  have e1 := fun w => run_equalIn_bools 9998 Try.underlying69 Try.underlying4 Try.infoBool c.told (fun _ => false) w
  have e2 := fun w => run_equalIn_bools 9998 Try.underlying69 Try.underlying4 Try.infoBool c.known (fun _ => false) w
  have e3 := fun w => run_equalIn_bools 9998 Try.underlying70 Try.underlying4 Try.infoBool c.has (fun _ => false) w
  have e4 := fun w => run_equalIn_rows 9998 Try.underlying71 Try.underlying3 Try.infoInt1 c.vals (fun _ => 0) w
  have g6 := Try.sixGuard
  have g4 := Try.fourGuard
  have gI := Try.fourIGuard
  rw [← hA1] at rA1 zA1 e1
  rw [← hA2] at rA2 zA2 e2
  rw [← hA3] at rA3 zA3 e3
  rw [← hA4] at rA4 zA4 e4
  rw [← hZ6] at rZ1 rZ2 zZ6 e1 e2
  rw [← hZ4] at rZ3 zZ4 e3
  rw [← hZI] at rZ4 zZI e4
  clear hA1 hA2 hA3 hA4 hZ6 hZ4 hZI HB1 HB2 hs2 hs5
  rw [Htf.out] at q1
  clear rA1 rZ1 zA1 e1 rA2 rZ2 zA2 e2 zZ6 g6 rA3 rZ3 zA3 zZ4 e3 g4 rA4 rZ4 zA4 zZI e4 gI
  go_wp2_with fail
  go_ret
  exact ⟨ret_bool HE.out.symm, hb⟩

set_option maxRecDepth 100000 in
set_option maxHeartbeats 1000000 in
theorem isZero_1 (gr : Array Value) (c : CaseL) (w : World) (h : CaseV w gr c) (tf : c.fixed = false) (hl : ¬ c.ops.length + c.deps.length = 0) :
    Calls Try.prog 96 #[.agg gr] w fun e w' => e = .returned (.bool (isZeroB c)) ∧ Below w.heap.size w w' := by
  have HE : Hid (isZeroB c = false) := by unfold Hid isZeroB; rw [tf, decide_eq_false hl]; rfl
  have Htf : Hid (c.fixed = false) := tf
  have Hhl : Hid (¬ c.ops.length + c.deps.length = 0) := hl
  clear tf hl
  obtain ⟨zr, hzr⟩ : ∃ zr, zr = rowF 24 zcv := ⟨_, rfl⟩
  obtain ⟨W, hW⟩ : ∃ W, W = (w.alloc (.cells gr 73)).alloc (.cells zr 73) := ⟨_, rfl⟩
  have hb : Below w.heap.size w W := by rw [hW]; exact ((Below.refl _ _).alloc (Nat.le_refl _) _).alloc (by rw [size_push]; omega) _
  have hB1 : InBox w.heap.size W gr c := by rw [hW]; exact (InBox.new h).later ((Below.refl _ _).alloc (Nat.le_refl _) _)
  have hB2 : InBox (w.heap.size + 1) W zr zeroC := by
    rw [hW, ← size_push w (.cells gr 73), hzr]
    exact InBox.new (zero_case _)
  have HW : Hid (W = (w.alloc (.cells gr 73)).alloc (.cells zr 73)) := hW
  have HB1 : Hid (InBox w.heap.size W gr c) := hB1
  have HB2 : Hid (InBox (w.heap.size + 1) W zr zeroC) := hB2
  have HZR : Hid (zr = rowF 24 zcv) := hzr
  clear hW hB1 hB2 hzr h
  go_enter Try.func96, Try.ntmps96
  go_upto_region 2 with fail
  rw [← zrow_lit, ← HZR.out, ← HW.out]
  clear HW HZR
  have q1 := HB1.out.fixed
  obtain ⟨a2, c2, q2, hs2, hl2⟩ := HB1.out.ops
  obtain ⟨a5, c5, q5, hs5, hl5⟩ := HB1.out.deps
  obtain ⟨A1, hA1⟩ : ∃ A, A = bools 6 c.told := ⟨_, rfl⟩
  obtain ⟨A2, hA2⟩ : ∃ A, A = bools 6 c.known := ⟨_, rfl⟩
  obtain ⟨A3, hA3⟩ : ∃ A, A = bools 4 c.has := ⟨_, rfl⟩
  obtain ⟨A4, hA4⟩ : ∃ A, A = rowF 4 fun i => Value.int .i64 (c.vals i) := ⟨_, rfl⟩
  obtain ⟨Z6, hZ6⟩ : ∃ A, A = bools 6 fun _ => false := ⟨_, rfl⟩
  obtain ⟨Z4, hZ4⟩ : ∃ A, A = bools 4 fun _ => false := ⟨_, rfl⟩
  obtain ⟨ZI, hZI⟩ : ∃ A, A = rowF 4 fun _ => Value.int .i64 0 := ⟨_, rfl⟩
  have rA1 := HB1.out.rTold
  have rA2 := HB1.out.rKnown
  have rA3 := HB1.out.rHas
  have rA4 := HB1.out.rVals
  have rZ1 : W.rangeAt (w.heap.size + 1) 3 (bools 6 fun _ => false).toList := HB2.out.rTold
  have rZ2 : W.rangeAt (w.heap.size + 1) 9 (bools 6 fun _ => false).toList := HB2.out.rKnown
  have rZ3 : W.rangeAt (w.heap.size + 1) 16 (bools 4 fun _ => false).toList := HB2.out.rHas
  have rZ4 : W.rangeAt (w.heap.size + 1) 20 (rowF 4 fun _ => Value.int .i64 0).toList := HB2.out.rVals
  have zA1 := row_six (c.told)
  have zA2 := row_six (c.known)
  have zA3 := row_four (c.has)
  have zA4 := row_fourI (c.vals)
  have zZ6 := row_six (fun _ => false)
  have zZ4 := row_four (fun _ => false)
  have zZI := row_fourI (fun _ => 0)
  have e1 := fun w => run_equalIn_bools 9998 Try.underlying69 Try.underlying4 Try.infoBool c.told (fun _ => false) w
  have e2 := fun w => run_equalIn_bools 9998 Try.underlying69 Try.underlying4 Try.infoBool c.known (fun _ => false) w
  have e3 := fun w => run_equalIn_bools 9998 Try.underlying70 Try.underlying4 Try.infoBool c.has (fun _ => false) w
  have e4 := fun w => run_equalIn_rows 9998 Try.underlying71 Try.underlying3 Try.infoInt1 c.vals (fun _ => 0) w
  have g6 := Try.sixGuard
  have g4 := Try.fourGuard
  have gI := Try.fourIGuard
  rw [← hA1] at rA1 zA1 e1
  rw [← hA2] at rA2 zA2 e2
  rw [← hA3] at rA3 zA3 e3
  rw [← hA4] at rA4 zA4 e4
  rw [← hZ6] at rZ1 rZ2 zZ6 e1 e2
  rw [← hZ4] at rZ3 zZ4 e3
  rw [← hZI] at rZ4 zZI e4
  clear hA1 hA2 hA3 hA4 hZ6 hZ4 hZI HB1 HB2 hs2 hs5
  rw [Htf.out] at q1
  have hsum : IntKind.i64.wrap ((c.ops.length : Int) + (c.deps.length : Int)) = (c.ops.length : Int) + (c.deps.length : Int) := wraps_i64 _ (by omega) (by omega)
  have d1 : ((c.ops.length : Int) + (c.deps.length : Int) == 0) = false := by have := Hhl.out; simp; omega
  clear rA1 rZ1 zA1 e1 rA2 rZ2 zA2 e2 zZ6 g6 rA3 rZ3 zA3 zZ4 e3 g4 rA4 rZ4 zA4 zZI e4 gI
  go_wp2_with fail
  go_ret
  exact ⟨ret_bool HE.out.symm, hb⟩

set_option maxRecDepth 100000 in
set_option maxHeartbeats 1000000 in
theorem isZero_2 (gr : Array Value) (c : CaseL) (w : World) (h : CaseV w gr c) (tf : c.fixed = false) (hl : c.ops.length + c.deps.length = 0) (t1 : sameB 6 c.told (fun _ => false) = false) :
    Calls Try.prog 96 #[.agg gr] w fun e w' => e = .returned (.bool (isZeroB c)) ∧ Below w.heap.size w w' := by
  have HE : Hid (isZeroB c = false) := by unfold Hid isZeroB; rw [tf, decide_eq_true hl, t1]; simp
  have Htf : Hid (c.fixed = false) := tf
  have Hhl : Hid (c.ops.length + c.deps.length = 0) := hl
  have Ht1 : Hid (sameB 6 c.told (fun _ => false) = false) := t1
  clear tf hl t1
  obtain ⟨zr, hzr⟩ : ∃ zr, zr = rowF 24 zcv := ⟨_, rfl⟩
  obtain ⟨W, hW⟩ : ∃ W, W = (w.alloc (.cells gr 73)).alloc (.cells zr 73) := ⟨_, rfl⟩
  have hb : Below w.heap.size w W := by rw [hW]; exact ((Below.refl _ _).alloc (Nat.le_refl _) _).alloc (by rw [size_push]; omega) _
  have hB1 : InBox w.heap.size W gr c := by rw [hW]; exact (InBox.new h).later ((Below.refl _ _).alloc (Nat.le_refl _) _)
  have hB2 : InBox (w.heap.size + 1) W zr zeroC := by
    rw [hW, ← size_push w (.cells gr 73), hzr]
    exact InBox.new (zero_case _)
  have HW : Hid (W = (w.alloc (.cells gr 73)).alloc (.cells zr 73)) := hW
  have HB1 : Hid (InBox w.heap.size W gr c) := hB1
  have HB2 : Hid (InBox (w.heap.size + 1) W zr zeroC) := hB2
  have HZR : Hid (zr = rowF 24 zcv) := hzr
  clear hW hB1 hB2 hzr h
  go_enter Try.func96, Try.ntmps96
  go_upto_region 2 with fail
  rw [← zrow_lit, ← HZR.out, ← HW.out]
  clear HW HZR
  have q1 := HB1.out.fixed
  obtain ⟨a2, c2, q2, hs2, hl2⟩ := HB1.out.ops
  obtain ⟨a5, c5, q5, hs5, hl5⟩ := HB1.out.deps
  obtain ⟨A1, hA1⟩ : ∃ A, A = bools 6 c.told := ⟨_, rfl⟩
  obtain ⟨A2, hA2⟩ : ∃ A, A = bools 6 c.known := ⟨_, rfl⟩
  obtain ⟨A3, hA3⟩ : ∃ A, A = bools 4 c.has := ⟨_, rfl⟩
  obtain ⟨A4, hA4⟩ : ∃ A, A = rowF 4 fun i => Value.int .i64 (c.vals i) := ⟨_, rfl⟩
  obtain ⟨Z6, hZ6⟩ : ∃ A, A = bools 6 fun _ => false := ⟨_, rfl⟩
  obtain ⟨Z4, hZ4⟩ : ∃ A, A = bools 4 fun _ => false := ⟨_, rfl⟩
  obtain ⟨ZI, hZI⟩ : ∃ A, A = rowF 4 fun _ => Value.int .i64 0 := ⟨_, rfl⟩
  have rA1 := HB1.out.rTold
  have rA2 := HB1.out.rKnown
  have rA3 := HB1.out.rHas
  have rA4 := HB1.out.rVals
  have rZ1 : W.rangeAt (w.heap.size + 1) 3 (bools 6 fun _ => false).toList := HB2.out.rTold
  have rZ2 : W.rangeAt (w.heap.size + 1) 9 (bools 6 fun _ => false).toList := HB2.out.rKnown
  have rZ3 : W.rangeAt (w.heap.size + 1) 16 (bools 4 fun _ => false).toList := HB2.out.rHas
  have rZ4 : W.rangeAt (w.heap.size + 1) 20 (rowF 4 fun _ => Value.int .i64 0).toList := HB2.out.rVals
  have zA1 := row_six (c.told)
  have zA2 := row_six (c.known)
  have zA3 := row_four (c.has)
  have zA4 := row_fourI (c.vals)
  have zZ6 := row_six (fun _ => false)
  have zZ4 := row_four (fun _ => false)
  have zZI := row_fourI (fun _ => 0)
  have e1 := fun w => run_equalIn_bools 9998 Try.underlying69 Try.underlying4 Try.infoBool c.told (fun _ => false) w
  have e2 := fun w => run_equalIn_bools 9998 Try.underlying69 Try.underlying4 Try.infoBool c.known (fun _ => false) w
  have e3 := fun w => run_equalIn_bools 9998 Try.underlying70 Try.underlying4 Try.infoBool c.has (fun _ => false) w
  have e4 := fun w => run_equalIn_rows 9998 Try.underlying71 Try.underlying3 Try.infoInt1 c.vals (fun _ => 0) w
  have g6 := Try.sixGuard
  have g4 := Try.fourGuard
  have gI := Try.fourIGuard
  rw [← hA1] at rA1 zA1 e1
  rw [← hA2] at rA2 zA2 e2
  rw [← hA3] at rA3 zA3 e3
  rw [← hA4] at rA4 zA4 e4
  rw [← hZ6] at rZ1 rZ2 zZ6 e1 e2
  rw [← hZ4] at rZ3 zZ4 e3
  rw [← hZI] at rZ4 zZI e4
  clear hA1 hA2 hA3 hA4 hZ6 hZ4 hZI HB1 HB2 hs2 hs5
  rw [Htf.out] at q1
  have hsum : IntKind.i64.wrap ((c.ops.length : Int) + (c.deps.length : Int)) = (c.ops.length : Int) + (c.deps.length : Int) := wraps_i64 _ (by omega) (by omega)
  have d1 : ((c.ops.length : Int) + (c.deps.length : Int) == 0) = true := by have := Hhl.out; simp; omega
  rw [Ht1.out] at e1
  clear rA2 rZ2 zA2 e2 rA3 rZ3 zA3 zZ4 e3 g4 rA4 rZ4 zA4 zZI e4 gI
  go_wp2_with (first
    | ((with_reducible apply wpl_mid rA1); (· rfl); (· exact zA1); (· rfl); simp only [Act.put, List.setIfInBounds_toArray, List.set_cons_zero, List.set_cons_succ])
    | ((with_reducible apply wpl_mid rZ1); (· rfl); (· exact zZ6); (· rfl); simp only [Act.put, List.setIfInBounds_toArray, List.set_cons_zero, List.set_cons_succ])
    | fail)
  go_ret
  exact ⟨ret_bool HE.out.symm, hb⟩

set_option maxRecDepth 100000 in
set_option maxHeartbeats 1000000 in
theorem isZero_3 (gr : Array Value) (c : CaseL) (w : World) (h : CaseV w gr c) (tf : c.fixed = false) (hl : c.ops.length + c.deps.length = 0) (t1 : sameB 6 c.told (fun _ => false) = true) (t2 : sameB 6 c.known (fun _ => false) = false) :
    Calls Try.prog 96 #[.agg gr] w fun e w' => e = .returned (.bool (isZeroB c)) ∧ Below w.heap.size w w' := by
  have HE : Hid (isZeroB c = false) := by unfold Hid isZeroB; rw [tf, decide_eq_true hl, t1, t2]; simp
  have Htf : Hid (c.fixed = false) := tf
  have Hhl : Hid (c.ops.length + c.deps.length = 0) := hl
  have Ht1 : Hid (sameB 6 c.told (fun _ => false) = true) := t1
  have Ht2 : Hid (sameB 6 c.known (fun _ => false) = false) := t2
  clear tf hl t1 t2
  obtain ⟨zr, hzr⟩ : ∃ zr, zr = rowF 24 zcv := ⟨_, rfl⟩
  obtain ⟨W, hW⟩ : ∃ W, W = (w.alloc (.cells gr 73)).alloc (.cells zr 73) := ⟨_, rfl⟩
  have hb : Below w.heap.size w W := by rw [hW]; exact ((Below.refl _ _).alloc (Nat.le_refl _) _).alloc (by rw [size_push]; omega) _
  have hB1 : InBox w.heap.size W gr c := by rw [hW]; exact (InBox.new h).later ((Below.refl _ _).alloc (Nat.le_refl _) _)
  have hB2 : InBox (w.heap.size + 1) W zr zeroC := by
    rw [hW, ← size_push w (.cells gr 73), hzr]
    exact InBox.new (zero_case _)
  have HW : Hid (W = (w.alloc (.cells gr 73)).alloc (.cells zr 73)) := hW
  have HB1 : Hid (InBox w.heap.size W gr c) := hB1
  have HB2 : Hid (InBox (w.heap.size + 1) W zr zeroC) := hB2
  have HZR : Hid (zr = rowF 24 zcv) := hzr
  clear hW hB1 hB2 hzr h
  go_enter Try.func96, Try.ntmps96
  go_upto_region 2 with fail
  rw [← zrow_lit, ← HZR.out, ← HW.out]
  clear HW HZR
  have q1 := HB1.out.fixed
  obtain ⟨a2, c2, q2, hs2, hl2⟩ := HB1.out.ops
  obtain ⟨a5, c5, q5, hs5, hl5⟩ := HB1.out.deps
  obtain ⟨A1, hA1⟩ : ∃ A, A = bools 6 c.told := ⟨_, rfl⟩
  obtain ⟨A2, hA2⟩ : ∃ A, A = bools 6 c.known := ⟨_, rfl⟩
  obtain ⟨A3, hA3⟩ : ∃ A, A = bools 4 c.has := ⟨_, rfl⟩
  obtain ⟨A4, hA4⟩ : ∃ A, A = rowF 4 fun i => Value.int .i64 (c.vals i) := ⟨_, rfl⟩
  obtain ⟨Z6, hZ6⟩ : ∃ A, A = bools 6 fun _ => false := ⟨_, rfl⟩
  obtain ⟨Z4, hZ4⟩ : ∃ A, A = bools 4 fun _ => false := ⟨_, rfl⟩
  obtain ⟨ZI, hZI⟩ : ∃ A, A = rowF 4 fun _ => Value.int .i64 0 := ⟨_, rfl⟩
  have rA1 := HB1.out.rTold
  have rA2 := HB1.out.rKnown
  have rA3 := HB1.out.rHas
  have rA4 := HB1.out.rVals
  have rZ1 : W.rangeAt (w.heap.size + 1) 3 (bools 6 fun _ => false).toList := HB2.out.rTold
  have rZ2 : W.rangeAt (w.heap.size + 1) 9 (bools 6 fun _ => false).toList := HB2.out.rKnown
  have rZ3 : W.rangeAt (w.heap.size + 1) 16 (bools 4 fun _ => false).toList := HB2.out.rHas
  have rZ4 : W.rangeAt (w.heap.size + 1) 20 (rowF 4 fun _ => Value.int .i64 0).toList := HB2.out.rVals
  have zA1 := row_six (c.told)
  have zA2 := row_six (c.known)
  have zA3 := row_four (c.has)
  have zA4 := row_fourI (c.vals)
  have zZ6 := row_six (fun _ => false)
  have zZ4 := row_four (fun _ => false)
  have zZI := row_fourI (fun _ => 0)
  have e1 := fun w => run_equalIn_bools 9998 Try.underlying69 Try.underlying4 Try.infoBool c.told (fun _ => false) w
  have e2 := fun w => run_equalIn_bools 9998 Try.underlying69 Try.underlying4 Try.infoBool c.known (fun _ => false) w
  have e3 := fun w => run_equalIn_bools 9998 Try.underlying70 Try.underlying4 Try.infoBool c.has (fun _ => false) w
  have e4 := fun w => run_equalIn_rows 9998 Try.underlying71 Try.underlying3 Try.infoInt1 c.vals (fun _ => 0) w
  have g6 := Try.sixGuard
  have g4 := Try.fourGuard
  have gI := Try.fourIGuard
  rw [← hA1] at rA1 zA1 e1
  rw [← hA2] at rA2 zA2 e2
  rw [← hA3] at rA3 zA3 e3
  rw [← hA4] at rA4 zA4 e4
  rw [← hZ6] at rZ1 rZ2 zZ6 e1 e2
  rw [← hZ4] at rZ3 zZ4 e3
  rw [← hZI] at rZ4 zZI e4
  clear hA1 hA2 hA3 hA4 hZ6 hZ4 hZI HB1 HB2 hs2 hs5
  rw [Htf.out] at q1
  have hsum : IntKind.i64.wrap ((c.ops.length : Int) + (c.deps.length : Int)) = (c.ops.length : Int) + (c.deps.length : Int) := wraps_i64 _ (by omega) (by omega)
  have d1 : ((c.ops.length : Int) + (c.deps.length : Int) == 0) = true := by have := Hhl.out; simp; omega
  rw [Ht1.out] at e1
  rw [Ht2.out] at e2
  clear rA3 rZ3 zA3 zZ4 e3 g4 rA4 rZ4 zA4 zZI e4 gI
  go_wp2_with (first
    | ((with_reducible apply wpl_mid rA1); (· rfl); (· exact zA1); (· rfl); simp only [Act.put, List.setIfInBounds_toArray, List.set_cons_zero, List.set_cons_succ])
    | ((with_reducible apply wpl_mid rZ1); (· rfl); (· exact zZ6); (· rfl); simp only [Act.put, List.setIfInBounds_toArray, List.set_cons_zero, List.set_cons_succ])
    | ((with_reducible apply wpl_mid rA2); (· rfl); (· exact zA2); (· rfl); simp only [Act.put, List.setIfInBounds_toArray, List.set_cons_zero, List.set_cons_succ])
    | ((with_reducible apply wpl_mid rZ2); (· rfl); (· exact zZ6); (· rfl); simp only [Act.put, List.setIfInBounds_toArray, List.set_cons_zero, List.set_cons_succ])
    | fail)
  go_ret
  exact ⟨ret_bool HE.out.symm, hb⟩

set_option maxRecDepth 100000 in
set_option maxHeartbeats 1000000 in
theorem isZero_4 (gr : Array Value) (c : CaseL) (w : World) (h : CaseV w gr c) (tf : c.fixed = false) (hl : c.ops.length + c.deps.length = 0) (t1 : sameB 6 c.told (fun _ => false) = true) (t2 : sameB 6 c.known (fun _ => false) = true) (t3 : sameB 4 c.has (fun _ => false) = false) :
    Calls Try.prog 96 #[.agg gr] w fun e w' => e = .returned (.bool (isZeroB c)) ∧ Below w.heap.size w w' := by
  have HE : Hid (isZeroB c = false) := by unfold Hid isZeroB; rw [tf, decide_eq_true hl, t1, t2, t3]; simp
  have Htf : Hid (c.fixed = false) := tf
  have Hhl : Hid (c.ops.length + c.deps.length = 0) := hl
  have Ht1 : Hid (sameB 6 c.told (fun _ => false) = true) := t1
  have Ht2 : Hid (sameB 6 c.known (fun _ => false) = true) := t2
  have Ht3 : Hid (sameB 4 c.has (fun _ => false) = false) := t3
  clear tf hl t1 t2 t3
  obtain ⟨zr, hzr⟩ : ∃ zr, zr = rowF 24 zcv := ⟨_, rfl⟩
  obtain ⟨W, hW⟩ : ∃ W, W = (w.alloc (.cells gr 73)).alloc (.cells zr 73) := ⟨_, rfl⟩
  have hb : Below w.heap.size w W := by rw [hW]; exact ((Below.refl _ _).alloc (Nat.le_refl _) _).alloc (by rw [size_push]; omega) _
  have hB1 : InBox w.heap.size W gr c := by rw [hW]; exact (InBox.new h).later ((Below.refl _ _).alloc (Nat.le_refl _) _)
  have hB2 : InBox (w.heap.size + 1) W zr zeroC := by
    rw [hW, ← size_push w (.cells gr 73), hzr]
    exact InBox.new (zero_case _)
  have HW : Hid (W = (w.alloc (.cells gr 73)).alloc (.cells zr 73)) := hW
  have HB1 : Hid (InBox w.heap.size W gr c) := hB1
  have HB2 : Hid (InBox (w.heap.size + 1) W zr zeroC) := hB2
  have HZR : Hid (zr = rowF 24 zcv) := hzr
  clear hW hB1 hB2 hzr h
  go_enter Try.func96, Try.ntmps96
  go_upto_region 2 with fail
  rw [← zrow_lit, ← HZR.out, ← HW.out]
  clear HW HZR
  have q1 := HB1.out.fixed
  obtain ⟨a2, c2, q2, hs2, hl2⟩ := HB1.out.ops
  obtain ⟨a5, c5, q5, hs5, hl5⟩ := HB1.out.deps
  obtain ⟨A1, hA1⟩ : ∃ A, A = bools 6 c.told := ⟨_, rfl⟩
  obtain ⟨A2, hA2⟩ : ∃ A, A = bools 6 c.known := ⟨_, rfl⟩
  obtain ⟨A3, hA3⟩ : ∃ A, A = bools 4 c.has := ⟨_, rfl⟩
  obtain ⟨A4, hA4⟩ : ∃ A, A = rowF 4 fun i => Value.int .i64 (c.vals i) := ⟨_, rfl⟩
  obtain ⟨Z6, hZ6⟩ : ∃ A, A = bools 6 fun _ => false := ⟨_, rfl⟩
  obtain ⟨Z4, hZ4⟩ : ∃ A, A = bools 4 fun _ => false := ⟨_, rfl⟩
  obtain ⟨ZI, hZI⟩ : ∃ A, A = rowF 4 fun _ => Value.int .i64 0 := ⟨_, rfl⟩
  have rA1 := HB1.out.rTold
  have rA2 := HB1.out.rKnown
  have rA3 := HB1.out.rHas
  have rA4 := HB1.out.rVals
  have rZ1 : W.rangeAt (w.heap.size + 1) 3 (bools 6 fun _ => false).toList := HB2.out.rTold
  have rZ2 : W.rangeAt (w.heap.size + 1) 9 (bools 6 fun _ => false).toList := HB2.out.rKnown
  have rZ3 : W.rangeAt (w.heap.size + 1) 16 (bools 4 fun _ => false).toList := HB2.out.rHas
  have rZ4 : W.rangeAt (w.heap.size + 1) 20 (rowF 4 fun _ => Value.int .i64 0).toList := HB2.out.rVals
  have zA1 := row_six (c.told)
  have zA2 := row_six (c.known)
  have zA3 := row_four (c.has)
  have zA4 := row_fourI (c.vals)
  have zZ6 := row_six (fun _ => false)
  have zZ4 := row_four (fun _ => false)
  have zZI := row_fourI (fun _ => 0)
  have e1 := fun w => run_equalIn_bools 9998 Try.underlying69 Try.underlying4 Try.infoBool c.told (fun _ => false) w
  have e2 := fun w => run_equalIn_bools 9998 Try.underlying69 Try.underlying4 Try.infoBool c.known (fun _ => false) w
  have e3 := fun w => run_equalIn_bools 9998 Try.underlying70 Try.underlying4 Try.infoBool c.has (fun _ => false) w
  have e4 := fun w => run_equalIn_rows 9998 Try.underlying71 Try.underlying3 Try.infoInt1 c.vals (fun _ => 0) w
  have g6 := Try.sixGuard
  have g4 := Try.fourGuard
  have gI := Try.fourIGuard
  rw [← hA1] at rA1 zA1 e1
  rw [← hA2] at rA2 zA2 e2
  rw [← hA3] at rA3 zA3 e3
  rw [← hA4] at rA4 zA4 e4
  rw [← hZ6] at rZ1 rZ2 zZ6 e1 e2
  rw [← hZ4] at rZ3 zZ4 e3
  rw [← hZI] at rZ4 zZI e4
  clear hA1 hA2 hA3 hA4 hZ6 hZ4 hZI HB1 HB2 hs2 hs5
  rw [Htf.out] at q1
  have hsum : IntKind.i64.wrap ((c.ops.length : Int) + (c.deps.length : Int)) = (c.ops.length : Int) + (c.deps.length : Int) := wraps_i64 _ (by omega) (by omega)
  have d1 : ((c.ops.length : Int) + (c.deps.length : Int) == 0) = true := by have := Hhl.out; simp; omega
  rw [Ht1.out] at e1
  rw [Ht2.out] at e2
  rw [Ht3.out] at e3
  clear rA4 rZ4 zA4 zZI e4 gI
  go_wp2_with (first
    | ((with_reducible apply wpl_mid rA1); (· rfl); (· exact zA1); (· rfl); simp only [Act.put, List.setIfInBounds_toArray, List.set_cons_zero, List.set_cons_succ])
    | ((with_reducible apply wpl_mid rZ1); (· rfl); (· exact zZ6); (· rfl); simp only [Act.put, List.setIfInBounds_toArray, List.set_cons_zero, List.set_cons_succ])
    | ((with_reducible apply wpl_mid rA2); (· rfl); (· exact zA2); (· rfl); simp only [Act.put, List.setIfInBounds_toArray, List.set_cons_zero, List.set_cons_succ])
    | ((with_reducible apply wpl_mid rZ2); (· rfl); (· exact zZ6); (· rfl); simp only [Act.put, List.setIfInBounds_toArray, List.set_cons_zero, List.set_cons_succ])
    | ((with_reducible apply wpl_mid rA3); (· rfl); (· exact zA3); (· rfl); simp only [Act.put, List.setIfInBounds_toArray, List.set_cons_zero, List.set_cons_succ])
    | ((with_reducible apply wpl_mid rZ3); (· rfl); (· exact zZ4); (· rfl); simp only [Act.put, List.setIfInBounds_toArray, List.set_cons_zero, List.set_cons_succ])
    | fail)
  go_ret
  exact ⟨ret_bool HE.out.symm, hb⟩

set_option maxRecDepth 100000 in
set_option maxHeartbeats 1000000 in
theorem isZero_5 (gr : Array Value) (c : CaseL) (w : World) (h : CaseV w gr c) (tf : c.fixed = false) (hl : c.ops.length + c.deps.length = 0) (t1 : sameB 6 c.told (fun _ => false) = true) (t2 : sameB 6 c.known (fun _ => false) = true) (t3 : sameB 4 c.has (fun _ => false) = true) :
    Calls Try.prog 96 #[.agg gr] w fun e w' => e = .returned (.bool (isZeroB c)) ∧ Below w.heap.size w w' := by
  have HE : Hid (isZeroB c = sameI 4 c.vals fun _ => 0) := by unfold Hid isZeroB; rw [tf, decide_eq_true hl, t1, t2, t3]; simp
  have Htf : Hid (c.fixed = false) := tf
  have Hhl : Hid (c.ops.length + c.deps.length = 0) := hl
  have Ht1 : Hid (sameB 6 c.told (fun _ => false) = true) := t1
  have Ht2 : Hid (sameB 6 c.known (fun _ => false) = true) := t2
  have Ht3 : Hid (sameB 4 c.has (fun _ => false) = true) := t3
  clear tf hl t1 t2 t3
  obtain ⟨zr, hzr⟩ : ∃ zr, zr = rowF 24 zcv := ⟨_, rfl⟩
  obtain ⟨W, hW⟩ : ∃ W, W = (w.alloc (.cells gr 73)).alloc (.cells zr 73) := ⟨_, rfl⟩
  have hb : Below w.heap.size w W := by rw [hW]; exact ((Below.refl _ _).alloc (Nat.le_refl _) _).alloc (by rw [size_push]; omega) _
  have hB1 : InBox w.heap.size W gr c := by rw [hW]; exact (InBox.new h).later ((Below.refl _ _).alloc (Nat.le_refl _) _)
  have hB2 : InBox (w.heap.size + 1) W zr zeroC := by
    rw [hW, ← size_push w (.cells gr 73), hzr]
    exact InBox.new (zero_case _)
  have HW : Hid (W = (w.alloc (.cells gr 73)).alloc (.cells zr 73)) := hW
  have HB1 : Hid (InBox w.heap.size W gr c) := hB1
  have HB2 : Hid (InBox (w.heap.size + 1) W zr zeroC) := hB2
  have HZR : Hid (zr = rowF 24 zcv) := hzr
  clear hW hB1 hB2 hzr h
  go_enter Try.func96, Try.ntmps96
  go_upto_region 2 with fail
  rw [← zrow_lit, ← HZR.out, ← HW.out]
  clear HW HZR
  have q1 := HB1.out.fixed
  obtain ⟨a2, c2, q2, hs2, hl2⟩ := HB1.out.ops
  obtain ⟨a5, c5, q5, hs5, hl5⟩ := HB1.out.deps
  obtain ⟨A1, hA1⟩ : ∃ A, A = bools 6 c.told := ⟨_, rfl⟩
  obtain ⟨A2, hA2⟩ : ∃ A, A = bools 6 c.known := ⟨_, rfl⟩
  obtain ⟨A3, hA3⟩ : ∃ A, A = bools 4 c.has := ⟨_, rfl⟩
  obtain ⟨A4, hA4⟩ : ∃ A, A = rowF 4 fun i => Value.int .i64 (c.vals i) := ⟨_, rfl⟩
  obtain ⟨Z6, hZ6⟩ : ∃ A, A = bools 6 fun _ => false := ⟨_, rfl⟩
  obtain ⟨Z4, hZ4⟩ : ∃ A, A = bools 4 fun _ => false := ⟨_, rfl⟩
  obtain ⟨ZI, hZI⟩ : ∃ A, A = rowF 4 fun _ => Value.int .i64 0 := ⟨_, rfl⟩
  have rA1 := HB1.out.rTold
  have rA2 := HB1.out.rKnown
  have rA3 := HB1.out.rHas
  have rA4 := HB1.out.rVals
  have rZ1 : W.rangeAt (w.heap.size + 1) 3 (bools 6 fun _ => false).toList := HB2.out.rTold
  have rZ2 : W.rangeAt (w.heap.size + 1) 9 (bools 6 fun _ => false).toList := HB2.out.rKnown
  have rZ3 : W.rangeAt (w.heap.size + 1) 16 (bools 4 fun _ => false).toList := HB2.out.rHas
  have rZ4 : W.rangeAt (w.heap.size + 1) 20 (rowF 4 fun _ => Value.int .i64 0).toList := HB2.out.rVals
  have zA1 := row_six (c.told)
  have zA2 := row_six (c.known)
  have zA3 := row_four (c.has)
  have zA4 := row_fourI (c.vals)
  have zZ6 := row_six (fun _ => false)
  have zZ4 := row_four (fun _ => false)
  have zZI := row_fourI (fun _ => 0)
  have e1 := fun w => run_equalIn_bools 9998 Try.underlying69 Try.underlying4 Try.infoBool c.told (fun _ => false) w
  have e2 := fun w => run_equalIn_bools 9998 Try.underlying69 Try.underlying4 Try.infoBool c.known (fun _ => false) w
  have e3 := fun w => run_equalIn_bools 9998 Try.underlying70 Try.underlying4 Try.infoBool c.has (fun _ => false) w
  have e4 := fun w => run_equalIn_rows 9998 Try.underlying71 Try.underlying3 Try.infoInt1 c.vals (fun _ => 0) w
  have g6 := Try.sixGuard
  have g4 := Try.fourGuard
  have gI := Try.fourIGuard
  rw [← hA1] at rA1 zA1 e1
  rw [← hA2] at rA2 zA2 e2
  rw [← hA3] at rA3 zA3 e3
  rw [← hA4] at rA4 zA4 e4
  rw [← hZ6] at rZ1 rZ2 zZ6 e1 e2
  rw [← hZ4] at rZ3 zZ4 e3
  rw [← hZI] at rZ4 zZI e4
  clear hA1 hA2 hA3 hA4 hZ6 hZ4 hZI HB1 HB2 hs2 hs5
  rw [Htf.out] at q1
  have hsum : IntKind.i64.wrap ((c.ops.length : Int) + (c.deps.length : Int)) = (c.ops.length : Int) + (c.deps.length : Int) := wraps_i64 _ (by omega) (by omega)
  have d1 : ((c.ops.length : Int) + (c.deps.length : Int) == 0) = true := by have := Hhl.out; simp; omega
  rw [Ht1.out] at e1
  rw [Ht2.out] at e2
  rw [Ht3.out] at e3
  go_wp2_with (first
    | ((with_reducible apply wpl_mid rA1); (· rfl); (· exact zA1); (· rfl); simp only [Act.put, List.setIfInBounds_toArray, List.set_cons_zero, List.set_cons_succ])
    | ((with_reducible apply wpl_mid rZ1); (· rfl); (· exact zZ6); (· rfl); simp only [Act.put, List.setIfInBounds_toArray, List.set_cons_zero, List.set_cons_succ])
    | ((with_reducible apply wpl_mid rA2); (· rfl); (· exact zA2); (· rfl); simp only [Act.put, List.setIfInBounds_toArray, List.set_cons_zero, List.set_cons_succ])
    | ((with_reducible apply wpl_mid rZ2); (· rfl); (· exact zZ6); (· rfl); simp only [Act.put, List.setIfInBounds_toArray, List.set_cons_zero, List.set_cons_succ])
    | ((with_reducible apply wpl_mid rA3); (· rfl); (· exact zA3); (· rfl); simp only [Act.put, List.setIfInBounds_toArray, List.set_cons_zero, List.set_cons_succ])
    | ((with_reducible apply wpl_mid rZ3); (· rfl); (· exact zZ4); (· rfl); simp only [Act.put, List.setIfInBounds_toArray, List.set_cons_zero, List.set_cons_succ])
    | ((with_reducible apply wpl_mid rA4); (· rfl); (· exact zA4); (· rfl); simp only [Act.put, List.setIfInBounds_toArray, List.set_cons_zero, List.set_cons_succ])
    | ((with_reducible apply wpl_mid rZ4); (· rfl); (· exact zZI); (· rfl); simp only [Act.put, List.setIfInBounds_toArray, List.set_cons_zero, List.set_cons_succ])
    | fail)
  go_ret
  exact ⟨ret_bool HE.out.symm, hb⟩

theorem p_isZero (gr : Array Value) (c : CaseL) (w : World) (h : CaseV w gr c) :
    Calls Try.prog 96 #[.agg gr] w fun e w' => e = .returned (.bool (isZeroB c)) ∧ Below w.heap.size w w' := by
  cases tf : c.fixed
  · by_cases hl : c.ops.length + c.deps.length = 0
    · cases t1 : sameB 6 c.told fun _ => false
      · exact isZero_2 gr c w h tf hl t1
      · cases t2 : sameB 6 c.known fun _ => false
        · exact isZero_3 gr c w h tf hl t1 t2
        · cases t3 : sameB 4 c.has fun _ => false
          · exact isZero_4 gr c w h tf hl t1 t2 t3
          · exact isZero_5 gr c w h tf hl t1 t2 t3
    · exact isZero_1 gr c w h tf hl
  · exact isZero_0 gr c w h tf

end Go.Proofs.Ytkoefoccbjhoiab
