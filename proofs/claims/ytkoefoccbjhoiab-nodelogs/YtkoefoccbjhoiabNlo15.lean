/-
  The contract of the statements' own pick.
  Two rows of numbers are alike.
  The contract of the statements' own sameNumbers, at two lists that are alike.
  The contracts of the statements' own sameOps and sameFrame.
  The contracts of the statements' own sameEntry and sameNode.
  The walk of the statement NodeLogs.
-/
import Derived.Test.YtkoefoccbjhoiabNlo1
import Derived.Test.YtkoefoccbjhoiabNlo3
import Derived.Test.YtkoefoccbjhoiabNlo13
import Derived.Test.YtkoefoccbjhoiabNlo14
import Derived.Deep.WholeRow
namespace Go.Proofs.Ytkoefoccbjhoiab
open Go.RowKit

set_option maxRecDepth 100000 in
set_option maxHeartbeats 400000 in
theorem keep_pick_any (a : Int) (n : Nat) (w : World) (h1 : 1 ≤ n) (h2 : n ≤ 1000) :
    Calls Try.prog 41 #[.int .i64 a, .int .i64 n] w fun e w' => (∃ p : Nat, p < n ∧ e = .returned (.int .i64 p)) ∧ w' = w := by
  have e := Int.tmod_eq_emod (a := a) (b := (n : Int))
  have l1 := Int.emod_nonneg a (show (n : Int) ≠ 0 by omega)
  have l2 := Int.emod_lt_of_pos a (show (0 : Int) < (n : Int) by omega)
  have hn : ((n : Int) == 0) = false := by simp; omega
  have bb : -(n : Int) < a.tmod n ∧ a.tmod n < n := by rw [e]; split <;> simp <;> omega
  obtain ⟨b1, b2⟩ := bb
  clear e l1 l2
  by_cases hlt : a.tmod n < 0
  · go_enter Try.func41, Try.ntmps41
    go_wp2
    go_ret
    refine ⟨⟨(a.tmod n + n).toNat, by omega, ret_int ?_⟩, rfl⟩
    omega
  · go_enter Try.func41, Try.ntmps41
    go_wp2
    go_ret
    refine ⟨⟨(a.tmod n).toNat, by omega, ret_int ?_⟩, rfl⟩
    omega

end Go.Proofs.Ytkoefoccbjhoiab

namespace Go.Proofs.Ytkoefoccbjhoiab
open Go.RowKit

theorem run_part_ints {P : Program} {e : TypeId} (he : P.underlying e = some (.int .i64)) (hi : (P.info? e).map (·.size) = some 1) {n : Nat} (S : Nat → Int) {k : Nat} (hk : k < n) (w : World) :
    (part e (rowF n fun i => .int .i64 (S i)) k).run P w = .ok (.int .i64 (S k)) w := by
  cases hq : P.info? e with
  | none => simp [hq] at hi
  | some i =>
    have hs : i.size = 1 := by simpa [hq] using hi
    have hg := rowF_get (fun i => Value.int .i64 (S i)) hk
    simp [part, isAgg, run_underlying he, sizeOf, typeInfo, hq, hs, hg, go_sem]
    try omega
theorem run_equalIn_row {P : Program} {t e : TypeId} {n : Nat} (d : Nat) (ht : P.underlying t = some (.array n e)) (he : P.underlying e = some (.int .i64)) (hi : (P.info? e).map (·.size) = some 1) (S : Nat → Int) (w : World) :
    (Op.equalIn (d + 2) t (.agg (rowF n fun i => .int .i64 (S i))) (.agg (rowF n fun i => .int .i64 (S i)))).run P w = .ok true w := by
  have hsz : ∀ w, (sizeOf e).run P w = .ok 1 w := by
    intro w
    cases hq : P.info? e with
    | none => simp [hq] at hi
    | some i =>
      have hs : i.size = 1 := by simpa [hq] using hi
      simp [sizeOf, typeInfo, hq, hs]
  rw [Op.equalIn]
  simp only [Sem.run_bind, run_underlying ht, Result.andThen_ok, hsz, Std.Legacy.Range.forIn_eq_forIn_range', Std.Legacy.Range.size, Nat.sub_zero, Nat.add_sub_cancel, Nat.div_one]
  have hl : ∀ i ∈ List.range' 0 n 1, i < n := fun i hi => by simpa using (List.mem_range'_1.1 hi).2
  generalize List.range' 0 n 1 = l at hl ⊢
  induction l with
  | nil => simp
  | cons i l ih =>
    have hk : i < n := hl i (by simp)
    have px := run_part_ints he hi S hk w
    have pe : (Op.equalIn (d + 1) e (.int .i64 (S i)) (.int .i64 (S i))).run P w = .ok true w := by simp [Op.equalIn, run_underlying he]
    simp only [List.forIn_cons, Sem.run_bind, Nat.mul_one, px, pe, Result.andThen_ok]
    simp only [Bool.not_true, Bool.false_eq_true, if_false, Sem.run_pure, Result.andThen_ok]
    simpa only [Nat.mul_one] using ih fun j hj => hl j (by simp [hj])
theorem Try.infoInt1 : (Try.prog.info? 3).map (·.size) = some 1 := by kernel_rfl
theorem Try.infoVals : (Try.prog.info? 39).map (·.size) = some 8 := by kernel_rfl
theorem Try.valsGuard : Try.prog.eqGuardType Try.prog.depth 39 = false := by kernel_rfl

end Go.Proofs.Ytkoefoccbjhoiab

namespace Go.Proofs.Ytkoefoccbjhoiab
open Go.RowKit

set_option maxRecDepth 100000 in
set_option maxHeartbeats 400000 in
theorem keep_same_any (a : Option Addr) (cap : Nat) (zs : List Int) (a' : Option Addr) (cap' : Nat) (w : World) (hl : zs.length ≤ maxLen) (hz : IntsAt w.heap.size w a zs) (hy : IntsAt w.heap.size w a' zs) :
    Calls Try.prog 20 #[.slice a zs.length cap, .slice a' zs.length cap'] w fun e w' => e = .returned (.bool true) ∧ Below w.heap.size w w' := by
  unfold maxLen at hl
  have hne : ((zs.length : Int) != (zs.length : Int)) = false := by simp
  rcases hz with rfl | ⟨b, off, rfl, hb, hc⟩
  · go_enter Try.func20, Try.ntmps20
    go_wp2
    refine wp_loop_rounds 1 ?_; rw [rounds_succ]
    go_wp2
    go_ret
    exact ⟨rfl, Below.refl _ _⟩
  rcases hy with rfl | ⟨b', off', rfl, hb', hc'⟩
  · go_enter Try.func20, Try.ntmps20
    go_wp2
    refine wp_loop_rounds 1 ?_; rw [rounds_succ]
    go_wp2
    go_ret
    exact ⟨rfl, Below.refl _ _⟩
  go_enter Try.func20, Try.ntmps20
  go_wp2
  go_loopw [13] (fun i wr => ∃ k : Nat, k ≤ zs.length ∧ i = .int .i64 k ∧ Below w.heap.size w wr) (fun i _ => zs.length - (intOf i).toNat)
  case atStart => exact ⟨0, Nat.zero_le _, rfl, Below.refl _ _⟩
  case round =>
    obtain ⟨k, hk, rfl, hB⟩ := hrel
    by_cases hlt : k < zs.length
    · obtain ⟨q, Hq, e0⟩ := IntsAt.at hc hb hB hlt
      have f0 : wr.cell? ⟨b', off' + k, none⟩ = some (.int .i64 q) := by rw [hB.cell (p := ⟨b', off' + k, none⟩) hb', ← Hq.out]; exact hc' k hlt
      have hi : (k : Int) < (zs.length : Int) := by omega
      clear hc hc'
      go_wp2
      go_quiet (fail)
      go_wp2
      go_roundw
      case rel => exact ⟨k + 1, by omega, by go_num, below_drewN hB _⟩
      case measure => simp [intOf]; omega
    · go_wp2
      go_ret
      exact ⟨rfl, hB⟩

end Go.Proofs.Ytkoefoccbjhoiab

namespace Go.Proofs.Ytkoefoccbjhoiab
open Go.RowKit

set_option maxRecDepth 100000 in
set_option maxHeartbeats 400000 in
theorem keep_sameOps_any (a : Option Addr) (cap : Nat) (zs : List OpL) (a' : Option Addr) (cap' : Nat) (w : World) (hl : zs.length ≤ maxLen) (hz : OpsAt w a zs) (hy : OpsAt w a' zs) :
    Calls Try.prog 39 #[.slice a zs.length cap, .slice a' zs.length cap'] w fun e w' => e = .returned (.bool true) ∧ Below w.heap.size w w' := by
  unfold maxLen at hl
  have hne : ((zs.length : Int) != (zs.length : Int)) = false := by simp
  rcases hz with rfl | ⟨b, off, rfl, hb, hc⟩
  · go_enter Try.func39, Try.ntmps39
    go_wp2
    refine wp_loop_rounds 1 ?_; rw [rounds_succ]
    go_wp2
    go_ret
    exact ⟨rfl, Below.refl _ _⟩
  rcases hy with rfl | ⟨b', off', rfl, hb', hc'⟩
  · go_enter Try.func39, Try.ntmps39
    go_wp2
    refine wp_loop_rounds 1 ?_; rw [rounds_succ]
    go_wp2
    go_ret
    exact ⟨rfl, Below.refl _ _⟩
  go_enter Try.func39, Try.ntmps39
  go_wp2
  go_loopw [13] (fun i wr => ∃ k : Nat, k ≤ zs.length ∧ i = .int .i64 k ∧ Below w.heap.size w wr) (fun i _ => zs.length - (intOf i).toNat)
  case atStart => exact ⟨0, Nat.zero_le _, rfl, Below.refl _ _⟩
  case round =>
    obtain ⟨k, hk, rfl, hB⟩ := hrel
    by_cases hlt : k < zs.length
    · obtain ⟨q0, q1, q2, Hq, e0, e1, e2⟩ := OpsAt.at hc hb hB hlt
      obtain ⟨p0, p1, p2, Hp, f0, f1, f2⟩ := OpsAt.at hc' hb' hB hlt
      have hh : (q0, q1, q2) = (p0, p1, p2) := Hq.out.symm.trans Hp.out
      simp at hh
      obtain ⟨rfl, rfl, rfl⟩ := hh
      have hi : (k : Int) < (zs.length : Int) := by omega
      clear hc hc'
      go_wp2
      go_quiet (fail)
      go_wp2
      go_roundw
      case rel => exact ⟨k + 1, by omega, by go_num, below_drewN hB _⟩
      case measure => simp [intOf]; omega
    · go_wp2
      go_ret
      exact ⟨rfl, hB⟩

end Go.Proofs.Ytkoefoccbjhoiab

namespace Go.Proofs.Ytkoefoccbjhoiab
open Go.RowKit

set_option maxRecDepth 100000 in
set_option maxHeartbeats 1000000 in
theorem keep_sameEntry (v v' : Value) (e : EntryL) (w : World) (h : EntV w v e) (h' : EntV w v' e) :
    Calls Try.prog 40 #[v, v'] w fun r w' => r = .returned (.bool true) ∧ Below w.heap.size w w' := by
  obtain ⟨a1, c1, a2, c2, a3, c3, a4, c4, a5, c5, rfl, x1, x2, x3, x4, x5, _⟩ := h
  obtain ⟨a1', c1', a2', c2', a3', c3', a4', c4', a5', c5', rfl, y1, y2, y3, y4, y5, _⟩ := h'
  obtain ⟨W, hW⟩ : ∃ W, W = (w.alloc (.cells #[.int .i64 e.state, .slice a1 e.ops.length c1, .slice a2 e.first.length c2, .slice a3 e.deps.length c3, .slice a4 e.ats.length c4, .slice a5 e.vals.length c5] 37)).alloc (.cells #[.int .i64 e.state, .slice a1' e.ops.length c1', .slice a2' e.first.length c2', .slice a3' e.deps.length c3', .slice a4' e.ats.length c4', .slice a5' e.vals.length c5'] 37) := ⟨_, rfl⟩
  obtain ⟨r0, r1⟩ := two_rows w (.cells #[.int .i64 e.state, .slice a1 e.ops.length c1, .slice a2 e.first.length c2, .slice a3 e.deps.length c3, .slice a4 e.ats.length c4, .slice a5 e.vals.length c5] 37) (.cells #[.int .i64 e.state, .slice a1' e.ops.length c1', .slice a2' e.first.length c2', .slice a3' e.deps.length c3', .slice a4' e.ats.length c4', .slice a5' e.vals.length c5'] 37)
  rw [← hW] at r0 r1
  have hb : Below w.heap.size w W := by rw [hW]; exact ((Below.refl _ _).alloc (Nat.le_refl _) _).alloc (by rw [size_push]; omega) _
  have hzW : W.heap.size = w.heap.size + 2 := by rw [hW, size_push, size_push]
  have es : (e.state == e.state) = true := by simp
  have HW : Hid (W = (w.alloc (.cells #[.int .i64 e.state, .slice a1 e.ops.length c1, .slice a2 e.first.length c2, .slice a3 e.deps.length c3, .slice a4 e.ats.length c4, .slice a5 e.vals.length c5] 37)).alloc (.cells #[.int .i64 e.state, .slice a1' e.ops.length c1', .slice a2' e.first.length c2', .slice a3' e.deps.length c3', .slice a4' e.ats.length c4', .slice a5' e.vals.length c5'] 37)) := hW
  have KC : Hid (∀ wx, Below W.heap.size W wx → (wx.heap[w.heap.size]? = some (.cells #[.int .i64 e.state, .slice a1 e.ops.length c1, .slice a2 e.first.length c2, .slice a3 e.deps.length c3, .slice a4 e.ats.length c4, .slice a5 e.vals.length c5] 37 (0, 0)) ∧ wx.heap[w.heap.size + 1]? = some (.cells #[.int .i64 e.state, .slice a1' e.ops.length c1', .slice a2' e.first.length c2', .slice a3' e.deps.length c3', .slice a4' e.ats.length c4', .slice a5' e.vals.length c5'] 37 (0, 0)))) := fun wx hx => ⟨by rw [hx.block _ (by omega)]; exact r0, by rw [hx.block _ (by omega)]; exact r1⟩
  clear hW r0 r1
  go_enter Try.func40, Try.ntmps40
  go_upto_region 1 with fail
  rw [← HW.out]
  clear HW
  obtain ⟨r0, r1⟩ := KC.out W (Below.refl _ _)
  have p0 : W.cell? ⟨w.heap.size, 0, none⟩ = some (.int .i64 e.state) := by rw [cell_of_row _ _ _ _ _ _ r0]; rfl
  have p1 : W.cell? ⟨w.heap.size + 1, 0, none⟩ = some (.int .i64 e.state) := by rw [cell_of_row _ _ _ _ _ _ r1]; rfl
  have q1 : W.cell? ⟨w.heap.size, 1, none⟩ = some (.slice a1 e.ops.length c1) := by rw [cell_of_row _ _ _ _ _ _ r0]; rfl
  have z1 : W.cell? ⟨w.heap.size + 1, 1, none⟩ = some (.slice a1' e.ops.length c1') := by rw [cell_of_row _ _ _ _ _ _ r1]; rfl
  clear r0 r1
  go_wp2_with fail
  refine (keep_sameOps_any a1 c1 e.ops a1' c1' W x1.2.1 (x1.later hb).1 (y1.later hb).1).mono ?_
  rintro r w1 ⟨rfl, hx1⟩
  have hb1 : Below W.heap.size W w1 := hx1
  have hw1 : Below w.heap.size w w1 := hb.trans (hb1.mono (by omega))
  obtain ⟨r0, r1⟩ := KC.out w1 hb1
  clear hx1 q1 z1
  have q2 : w1.cell? ⟨w.heap.size, 2, none⟩ = some (.slice a2 e.first.length c2) := by rw [cell_of_row _ _ _ _ _ _ r0]; rfl
  have z2 : w1.cell? ⟨w.heap.size + 1, 2, none⟩ = some (.slice a2' e.first.length c2') := by rw [cell_of_row _ _ _ _ _ _ r1]; rfl
  clear r0 r1
  go_wp2_with fail
  refine (keep_same_any a2 c2 e.first a2' c2' w1 x2.2.1 (x2.later hw1).1 (y2.later hw1).1).mono ?_
  rintro r w2 ⟨rfl, hx2⟩
  have hb2 : Below W.heap.size W w2 := hb1.trans (hx2.mono hb1.size)
  have hw2 : Below w.heap.size w w2 := hb.trans (hb2.mono (by omega))
  obtain ⟨r0, r1⟩ := KC.out w2 hb2
  clear hx2 q2 z2
  have q3 : w2.cell? ⟨w.heap.size, 3, none⟩ = some (.slice a3 e.deps.length c3) := by rw [cell_of_row _ _ _ _ _ _ r0]; rfl
  have z3 : w2.cell? ⟨w.heap.size + 1, 3, none⟩ = some (.slice a3' e.deps.length c3') := by rw [cell_of_row _ _ _ _ _ _ r1]; rfl
  clear r0 r1
  go_wp2_with fail
  refine (keep_same_any a3 c3 e.deps a3' c3' w2 x3.2.1 (x3.later hw2).1 (y3.later hw2).1).mono ?_
  rintro r w3 ⟨rfl, hx3⟩
  have hb3 : Below W.heap.size W w3 := hb2.trans (hx3.mono hb2.size)
  have hw3 : Below w.heap.size w w3 := hb.trans (hb3.mono (by omega))
  obtain ⟨r0, r1⟩ := KC.out w3 hb3
  clear hx3 q3 z3
  have q4 : w3.cell? ⟨w.heap.size, 4, none⟩ = some (.slice a4 e.ats.length c4) := by rw [cell_of_row _ _ _ _ _ _ r0]; rfl
  have z4 : w3.cell? ⟨w.heap.size + 1, 4, none⟩ = some (.slice a4' e.ats.length c4') := by rw [cell_of_row _ _ _ _ _ _ r1]; rfl
  clear r0 r1
  go_wp2_with fail
  refine (keep_same_any a4 c4 e.ats a4' c4' w3 x4.2.1 (x4.later hw3).1 (y4.later hw3).1).mono ?_
  rintro r w4 ⟨rfl, hx4⟩
  have hb4 : Below W.heap.size W w4 := hb3.trans (hx4.mono hb3.size)
  have hw4 : Below w.heap.size w w4 := hb.trans (hb4.mono (by omega))
  obtain ⟨r0, r1⟩ := KC.out w4 hb4
  clear hx4 q4 z4
  have q5 : w4.cell? ⟨w.heap.size, 5, none⟩ = some (.slice a5 e.vals.length c5) := by rw [cell_of_row _ _ _ _ _ _ r0]; rfl
  have z5 : w4.cell? ⟨w.heap.size + 1, 5, none⟩ = some (.slice a5' e.vals.length c5') := by rw [cell_of_row _ _ _ _ _ _ r1]; rfl
  clear r0 r1
  go_wp2_with fail
  refine (keep_same_any a5 c5 e.vals a5' c5' w4 x5.2.1 (x5.later hw4).1 (y5.later hw4).1).mono ?_
  rintro r w5 ⟨rfl, hx5⟩
  have hb5 : Below W.heap.size W w5 := hb4.trans (hx5.mono hb4.size)
  have hw5 : Below w.heap.size w w5 := hb.trans (hb5.mono (by omega))
  obtain ⟨r0, r1⟩ := KC.out w5 hb5
  clear hx5 q5 z5
  clear r0 r1
  go_wp2
  go_ret
  exact ⟨rfl, hw5⟩

set_option maxRecDepth 100000 in
set_option maxHeartbeats 1000000 in
theorem keep_sameNode (nv nv' : Nat → Value) (s : NodeL) (w : World) (h : NodeC (· < w.heap.size) w nv s) (h' : NodeC (· < w.heap.size) w nv' s) :
    Calls Try.prog 37 #[.agg (rowF 201 nv), .agg (rowF 201 nv')] w fun r w' => r = .returned (.bool true) ∧ Below w.heap.size w w' := by
  obtain ⟨ga, hga⟩ : ∃ ga, ga = rowF 201 nv := ⟨_, rfl⟩
  obtain ⟨gb, hgb⟩ : ∃ gb, gb = rowF 201 nv' := ⟨_, rfl⟩
  rw [← hga, ← hgb]
  obtain ⟨W, hW⟩ : ∃ W, W = (w.alloc (.cells ga 41)).alloc (.cells gb 41) := ⟨_, rfl⟩
  obtain ⟨r0, r1⟩ := two_rows w (.cells ga 41) (.cells gb 41)
  rw [← hW] at r0 r1
  have hb : Below w.heap.size w W := by rw [hW]; exact ((Below.refl _ _).alloc (Nat.le_refl _) _).alloc (by rw [size_push]; omega) _
  have hzW : W.heap.size = w.heap.size + 2 := by rw [hW, size_push, size_push]
  have HBa : Hid (BlkAt 201 W w.heap.size nv) := ⟨_, by rw [← hga]; exact r0⟩
  have HBb : Hid (BlkAt 201 W (w.heap.size + 1) nv') := ⟨_, by rw [← hgb]; exact r1⟩
  have HN : Hid (NodeC (· < w.heap.size) w nv s) := h
  have HN' : Hid (NodeC (· < w.heap.size) w nv' s) := h'
  have HW : Hid (W = (w.alloc (.cells ga 41)).alloc (.cells gb 41)) := hW
  clear hW r0 r1 h h' hga hgb
  go_enter Try.func37, Try.ntmps37
  go_upto_region 1 with fail
  rw [← HW.out]
  clear HW
  go_wp2_with fail
  go_loopw [6] (fun i wr => ∃ k : Nat, k ≤ 32 ∧ i = .int .i64 k ∧ Below W.heap.size W wr) (fun i _ => 32 - (intOf i).toNat)
  case atStart => exact ⟨0, Nat.zero_le _, rfl, Below.refl _ _⟩
  case round =>
    obtain ⟨k, hk, rfl, hB⟩ := hrel
    have hbw : Below w.heap.size w wr := hb.trans (hB.mono (by omega))
    have hsz := hB.size
    have HBar : Hid (BlkAt 201 wr w.heap.size nv) := HBa.out.later hB (by omega)
    have HBbr : Hid (BlkAt 201 wr (w.heap.size + 1) nv') := HBb.out.later hB (by omega)
    by_cases hlt : k < 32
    · have n1 : (0 : Int) ≤ (k : Int) ∧ (k : Int) < 32 := by omega
      obtain ⟨ca, hca⟩ : ∃ ca, ca = (sixV nv (k * 6)).toList := ⟨_, rfl⟩
      obtain ⟨cb, hcb⟩ : ∃ cb, cb = (sixV nv' (k * 6)).toList := ⟨_, rfl⟩
      have ra : wr.rangeAt w.heap.size (k * 6) ca := by
        rw [hca]
        exact BlkAt.range HBar.out (o := k * 6) (n := 6) (by omega)
      have rb : wr.rangeAt (w.heap.size + 1) (k * 6) cb := by
        rw [hcb]
        exact BlkAt.range HBbr.out (o := k * 6) (n := 6) (by omega)
      have hsa : (Try.prog.info? 37).map (·.size) = some ca.length := by rw [hca]; exact Try.infoEntry
      have hsb : (Try.prog.info? 37).map (·.size) = some cb.length := by rw [hcb]; exact Try.infoEntry
      have HVa : Hid (EntV w (.agg ca.toArray) (s.ent k)) := by rw [hca]; exact (HN.out.es.ent k hlt).v
      have HVb : Hid (EntV w (.agg cb.toArray) (s.ent k)) := by rw [hcb]; exact (HN'.out.es.ent k hlt).v
      clear hca hcb
      go_wp2_with fail
      have HRa : Hid (∀ wx, Below wr.heap.size wr wx → wx.rangeAt w.heap.size (k * 6) ca) := fun wx hx => range_later ra hx (by omega)
      have HRb : Hid (∀ wx, Below wr.heap.size wr wx → wx.rangeAt (w.heap.size + 1) (k * 6) cb) := fun wx hx => range_later rb hx (by omega)
      clear ra rb
      refine wp_region_held_drew (S := fun w' => Below wr.heap.size wr w') (by kernel_rfl) ((Below.refl _ _).drew) ?_
      intro hH
      refine wpAnyH_takeD (i := 0) (d := some 9) (v := .int .i64 k) rfl rfl (by kernel_rfl) (by kernel_rfl) (by kernel_rfl) (fun _ _ _ h => h) (Or.inl ⟨by rfl, fun _ _ => by go_simp⟩) hH ?_
      simp only [Act.put, List.setIfInBounds_toArray, List.set_cons_zero, List.set_cons_succ]
      refine wpAnyH_takeD (i := 1) (d := some 10) (v := .pointer (some ⟨w.heap.size, 0, none⟩)) rfl rfl (by kernel_rfl) (by kernel_rfl) (by kernel_rfl) (fun _ _ _ h => h) (Or.inl ⟨by rfl, fun _ _ => by go_simp⟩) hH ?_
      simp only [Act.put, List.setIfInBounds_toArray, List.set_cons_zero, List.set_cons_succ]
      refine wpAnyH_takeD (i := 2) (d := some 11) (v := .pointer (some ⟨w.heap.size, k * 6, none⟩)) rfl rfl (by kernel_rfl) (by kernel_rfl) (by kernel_rfl) (fun _ _ _ h => h) (Or.inl ⟨by rfl, fun _ _ => by go_simp⟩) hH ?_
      simp only [Act.put, List.setIfInBounds_toArray, List.set_cons_zero, List.set_cons_succ]
      refine wpAnyH_takeD (i := 3) (d := some 12) (v := .agg ca.toArray) rfl rfl (by kernel_rfl) (by kernel_rfl) (by kernel_rfl) (fun _ _ _ h => h) (yieldsIf_load_mid (by rfl) _ _ rfl _ _ rfl ca _ (HRa.out) Try.underlying37 rfl hsa) hH ?_
      simp only [Act.put, List.setIfInBounds_toArray, List.set_cons_zero, List.set_cons_succ]
      refine wpAnyH_takeD (i := 4) (d := some 13) (v := .int .i64 k) rfl rfl (by kernel_rfl) (by kernel_rfl) (by kernel_rfl) (fun _ _ _ h => h) (Or.inl ⟨by rfl, fun _ _ => by go_simp⟩) hH ?_
      simp only [Act.put, List.setIfInBounds_toArray, List.set_cons_zero, List.set_cons_succ]
      refine wpAnyH_takeD (i := 5) (d := some 14) (v := .pointer (some ⟨w.heap.size + 1, 0, none⟩)) rfl rfl (by kernel_rfl) (by kernel_rfl) (by kernel_rfl) (fun _ _ _ h => h) (Or.inl ⟨by rfl, fun _ _ => by go_simp⟩) hH ?_
      simp only [Act.put, List.setIfInBounds_toArray, List.set_cons_zero, List.set_cons_succ]
      refine wpAnyH_takeD (i := 6) (d := some 15) (v := .pointer (some ⟨w.heap.size + 1, k * 6, none⟩)) rfl rfl (by kernel_rfl) (by kernel_rfl) (by kernel_rfl) (fun _ _ _ h => h) (Or.inl ⟨by rfl, fun _ _ => by go_simp⟩) hH ?_
      simp only [Act.put, List.setIfInBounds_toArray, List.set_cons_zero, List.set_cons_succ]
      refine wpAnyH_takeD (i := 7) (d := some 16) (v := .agg cb.toArray) rfl rfl (by kernel_rfl) (by kernel_rfl) (by kernel_rfl) (fun _ _ _ h => h) (yieldsIf_load_mid (by rfl) _ _ rfl _ _ rfl cb _ (HRb.out) Try.underlying37 rfl hsb) hH ?_
      simp only [Act.put, List.setIfInBounds_toArray, List.set_cons_zero, List.set_cons_succ]
      refine wpAnyH_ready (rs := [8]) (by kernel_rfl) (by simp) ?_
      refine AllReadyH.cons rfl (fun K hK => ?_) AllReadyH.nil
      go_simp
      refine (keep_sameEntry _ _ (s.ent k) _ (HVa.out.later (hbw.drew)) (HVb.out.later (hbw.drew))).mono ?_
      rintro r x2 ⟨rfl, hb2⟩
      go_wp2_with fail
      refine hK.out _ _ (hH.trans hb2) (fun hH2 => ?_)
      clear hK K hH
      have hH := hH2
      clear hH2 hb2
      refine wpAnyH_takeD (i := 9) (d := some 18) (v := .bool false) rfl rfl (by kernel_rfl) (by kernel_rfl) (by kernel_rfl) (fun _ _ _ h => h) (Or.inl ⟨by rfl, fun _ _ => by go_simp⟩) hH ?_
      simp only [Act.put, List.setIfInBounds_toArray, List.set_cons_zero, List.set_cons_succ]
      refine wpAnyH_done (by kernel_rfl) ?_ _
      have hB2 : Below W.heap.size W x2 := hB.trans (hH.mono (by omega))
      clear hH
      go_wp2
      go_roundw
      case rel => exact ⟨k + 1, by omega, by go_num, hB2⟩
      case measure => simp [intOf]; omega
    · obtain ⟨ao, co, eo, ho⟩ := HN.out.order.sl
      obtain ⟨ap, cp, ep, hp⟩ := HN'.out.order.sl
      have q0 : wr.cell? ⟨w.heap.size, 192, none⟩ = some (.slice ao s.order.length co) := by rw [HBar.out.cell (by omega), eo]
      have q1 : wr.cell? ⟨w.heap.size + 1, 192, none⟩ = some (.slice ap s.order.length cp) := by rw [HBbr.out.cell (by omega), ep]
      clear eo ep
      go_wp2_with fail
      refine (keep_same_any ao co s.order ap cp wr ho.2.1 (ho.later hbw).1 (hp.later hbw).1).mono ?_
      rintro r x1 ⟨rfl, hb1⟩
      have hbx : Below w.heap.size w x1 := hbw.trans (hb1.mono (by omega))
      obtain ⟨vr, hvr⟩ : ∃ vr, vr = (rowF 8 fun i => .int .i64 (s.vals i)).toList := ⟨_, rfl⟩
      have ra : x1.rangeAt w.heap.size 193 vr := by
        rw [hvr]
        refine range_later (w := wr) ?_ hb1 (by omega)
        have := BlkAt.range HBar.out (o := 193) (n := 8) (by omega)
        have e : (List.range 8).map (fun i => nv (193 + i)) = (rowF 8 fun i => .int .i64 (s.vals i)).toList := by
          unfold rowF
          exact List.map_congr_left fun i hi => HN.out.es.vals i (List.mem_range.1 hi)
        rw [← e]; exact this
      have rb : x1.rangeAt (w.heap.size + 1) 193 vr := by
        rw [hvr]
        refine range_later (w := wr) ?_ hb1 (by omega)
        have := BlkAt.range HBbr.out (o := 193) (n := 8) (by omega)
        have e : (List.range 8).map (fun i => nv' (193 + i)) = (rowF 8 fun i => .int .i64 (s.vals i)).toList := by
          unfold rowF
          exact List.map_congr_left fun i hi => HN'.out.es.vals i (List.mem_range.1 hi)
        rw [← e]; exact this
      have hsv : (Try.prog.info? 39).map (·.size) = some vr.length := by rw [hvr, rowF_toList]; exact Try.infoVals
      have hg := Try.valsGuard
      have he := fun w => run_equalIn_row 9998 Try.underlying39 Try.underlying3 Try.infoInt1 s.vals w
      have hva : vr.toArray = rowF 8 fun i => .int .i64 (s.vals i) := by rw [hvr]
      rw [← hva] at he
      clear hvr hva hb1 q0 q1
      go_wp2_with (first
        | (refine wpList_wanted (by rfl) fun K hK => ?_; refine wp_load_mid 39 _ rfl w.heap.size 193 rfl vr _ ra Try.underlying39 rfl hsv ?_; refine hK _ _ ?_)
        | (refine wpList_wanted (by rfl) fun K hK => ?_; refine wp_load_mid 39 _ rfl (w.heap.size + 1) 193 rfl vr _ rb Try.underlying39 rfl hsv ?_; refine hK _ _ ?_))
      go_ret
      exact ⟨rfl, hbx⟩

end Go.Proofs.Ytkoefoccbjhoiab

namespace Go.Proofs.Ytkoefoccbjhoiab
open Go.RowKit

set_option maxRecDepth 100000 in
set_option maxHeartbeats 2000000 in
theorem logs_walk (p : Int) (a : Option Addr) (cap : Nat) (fs : List FrameL) (w : World) (_hl : fs.length ≤ maxLen) (hz : FrsIn w.heap.size w a fs) :
    Calls Try.prog 10 #[.int .i64 p, .slice a fs.length cap] w fun e w' => e = .returned (.bool true) ∧ Below w.heap.size w w' := by
  obtain ⟨zr, hzr⟩ : ∃ zr, zr = rowF 201 zv := ⟨_, rfl⟩
  have hz0 := Try.zeroNode
  rw [← hzr] at hz0
  have HZR : Hid (zr = rowF 201 zv) := hzr
  have HZ : Hid (FrsIn w.heap.size w a fs) := hz
  clear hzr hz
  obtain ⟨W, hW⟩ : ∃ W, W = w.alloc (.cells zr 41) := ⟨_, rfl⟩
  have r0 : W.heap[w.heap.size]? = some (.cells zr 41 (0, 0)) := by rw [hW]; exact heap_new _ _
  have hbW : Below w.heap.size w W := by rw [hW]; exact (Below.refl _ _).alloc (Nat.le_refl _) _
  have HW : Hid (W = w.alloc (.cells zr 41)) := hW
  clear hW
  go_enter Try.func10, Try.ntmps10
  go_wp2_with fail
  refine (keep_pick_any p 6 _ (by decide) (by decide)).mono ?_
  rintro e w' ⟨⟨q, hq, rfl⟩, hw⟩
  rw [hw]
  clear hw w'
  go_upto_region 5 with (first
    | (refine wpList_alloc_as rfl 41 rfl zr hz0 ?_))
  rw [← HW.out]
  clear HW
  go_loopw [6, 7] (fun v i wr => ∃ (k : Nat) (mv : Nat → Value) (s : NodeL) (zs : List (List UInt8)), k ≤ fs.length ∧ k ≤ 40 ∧ zs.length ≤ k ∧ i = .int .i64 k ∧ Hid (wr.heap[w.heap.size]? = some (.cells (rowF 201 mv) 41 (0, 0))) ∧
      Hid (NodeC (fun b => w.heap.size < b ∧ v.ownBlock ≠ some b) wr mv s) ∧ Hid (wr.ownsRow (w.heap.size + 1) 9 1 v zs.length (txc zs)) ∧ Below w.heap.size w wr ∧ Hid (replayFrom q zeroN zs = (s, 0))) (fun _ i _ => fs.length - (intOf i).toNat)
  case atStart => exact ⟨0, zv, zeroN, [], Nat.zero_le _, Nat.zero_le _, Nat.zero_le _, rfl, by rw [← HZR.out]; exact r0, zero_node _ _, World.ownsRow_nil _ _ _ _, hbW, rfl⟩
  case round =>
    obtain ⟨k, mv, s, zs, hk, hk40, hzk, rfl, q0, HN, HOW, hB, HRP⟩ := hrel
    clear r0 hbW
    obtain ⟨la, lc, hlv, _⟩ := txIn_of_owns HOW.out
    subst hlv
    have hlt1 : w.heap.size < wr.heap.size := (Array.getElem?_eq_some_iff.1 q0.out).1
    obtain ⟨mr, hmr⟩ : ∃ mr, mr = rowF 201 mv := ⟨_, rfl⟩
    have q0r : wr.heap[w.heap.size]? = some (.cells mr 41 (0, 0)) := by rw [hmr]; exact q0.out
    have hsm : (Try.prog.info? 41).map (·.size) = some mr.size := by rw [hmr, rowF_size]; exact Try.infoNode
    have HMR : Hid (mr = rowF 201 mv) := hmr
    clear hmr q0
    by_cases hgo : k < fs.length ∧ k < 40
    · --ROUND
      obtain ⟨hlt, h40⟩ := hgo
      rcases HZ.out with e | ⟨b, off, rfl, hbb, hc⟩
      · rw [e] at hlt; simp at hlt
      obtain ⟨cs, h7, hra, hfv⟩ := hc k hlt
      clear hc
      obtain ⟨f, hf⟩ : ∃ f, f = fs.getD k zeroF := ⟨_, rfl⟩
      rw [← hf] at hfv
      clear hf
      have hfw := hfv.later hB
      have hrw := range_later hra hB hbb
      clear hra hfv
      obtain ⟨a3, c3, a4, c4, a5, c5, a6, c6, e7, hfl⟩ := hfw
      have HFV : Hid (FrameV wr (.agg #[.int .i64 f.kind, .int .i64 q, .int .i64 f.id, .slice a3 f.ops.length c3, .slice a4 f.deps.length c4, .slice a5 f.ats.length c5, .slice a6 f.vals.length c6]) ⟨f.kind, q, f.id, f.ops, f.deps, f.ats, f.vals⟩) := ⟨a3, c3, a4, c4, a5, c5, a6, c6, rfl, hfl⟩
      clear hfl
      obtain rfl : cs = [.int .i64 f.kind, .int .i64 f.node, .int .i64 f.id, .slice a3 f.ops.length c3, .slice a4 f.deps.length c4, .slice a5 f.ats.length c5, .slice a6 f.vals.length c6] := by
        have := congrArg (fun v => match v with | Value.agg x => x.toList | _ => []) e7
        simpa using this
      clear e7
      obtain ⟨X, hX⟩ : ∃ X, X = wr.alloc (.cells #[.int .i64 f.kind, .int .i64 q, .int .i64 f.id, .slice a3 f.ops.length c3, .slice a4 f.deps.length c4, .slice a5 f.ats.length c5, .slice a6 f.vals.length c6] 43) := ⟨_, rfl⟩
      have HX : Hid (X = wr.alloc (.cells #[.int .i64 f.kind, .int .i64 q, .int .i64 f.id, .slice a3 f.ops.length c3, .slice a4 f.deps.length c4, .slice a5 f.ats.length c5, .slice a6 f.vals.length c6] 43)) := hX
      have hbX : Below wr.heap.size wr X := by rw [hX]; exact (Below.refl _ _).alloc (Nat.le_refl _) _
      have hzX : X.heap.size = wr.heap.size + 1 := by rw [hX]; exact size_push _ _
      have fX : X.heap[wr.heap.size]? = some (.cells #[.int .i64 f.kind, .int .i64 q, .int .i64 f.id, .slice a3 f.ops.length c3, .slice a4 f.deps.length c4, .slice a5 f.ats.length c5, .slice a6 f.vals.length c6] 43 (0, 0)) := by rw [hX]; exact heap_new _ _
      clear hX
      have p0 : X.heap[w.heap.size]? = some (.cells mr 41 (0, 0)) := by rw [hbX.block _ (by omega)]; exact q0r
      go_wp2_with (first
        | (refine wpList_load_mid rfl 43 _ rfl b (off + k * 7) rfl _ _ hrw Try.underlying43 rfl Try.infoFrame7 ?_)
        | (refine wpList_load_row rfl 41 _ rfl w.heap.size rfl 41 mr (0, 0) _ (by rw [← HX.out]; exact p0) Try.underlying41 rfl hsm ?_))
      rw [← HX.out, HMR.out]
      have hto := take_new mv s q _ ⟨f.kind, q, f.id, f.ops, f.deps, f.ats, f.vals⟩ X (HN.out.any.below hbX) (HFV.out.later hbX)
      refine hto.mono ?_
      clear hto
      rintro r y ⟨nv', x, rfl, hn, _, hby⟩
      obtain ⟨fq, hfq⟩ : ∃ fq : FrameL, fq = ⟨f.kind, q, f.id, f.ops, f.deps, f.ats, f.vals⟩ := ⟨_, rfl⟩
      rw [← hfq] at hn ⊢
      have HFQ : Hid (fq = ⟨f.kind, q, f.id, f.ops, f.deps, f.ats, f.vals⟩) := hfq
      obtain ⟨s1, hs1⟩ : ∃ s1, s1 = (takeN s q fq).1 := ⟨_, rfl⟩
      obtain ⟨e1, he1⟩ : ∃ e1, e1 = (takeN s q fq).2.2 := ⟨_, rfl⟩
      rw [← hs1] at hn
      rw [← he1]
      have HS1 : Hid (s1 = (takeN s q fq).1) := hs1
      have HE1 : Hid (e1 = (takeN s q fq).2.2) := he1
      obtain ⟨er, her⟩ : ∃ er, er = rowF 201 nv' := ⟨_, rfl⟩
      rw [← her]
      have hse : (Try.prog.info? 41).map (·.size) = some er.size := by rw [her, rowF_size]; exact Try.infoNode
      have honee : er.all (·.oneCell') = true := by rw [her]; exact rowF_all hn.one
      have hze : mr.size = er.size := by rw [HMR.out, her, rowF_size, rowF_size]
      have hzz : zr.size = er.size := by rw [HZR.out, her, rowF_size, rowF_size]
      have HER : Hid (er = rowF 201 nv') := her
      obtain ⟨V, hV⟩ : ∃ V, V = y.alloc (.cells er 41) := ⟨_, rfl⟩
      have HV : Hid (V = y.alloc (.cells er 41)) := hV
      have hzy := hby.size
      have hbV : Below X.heap.size X V := by rw [hV]; exact hby.alloc hzy _
      have v0 : V.heap[w.heap.size]? = some (.cells mr 41 (0, 0)) := by rw [hbV.block _ (by omega)]; exact p0
      have v1 : V.heap[y.heap.size]? = some (.cells er 41 (0, 0)) := by rw [hV]; exact heap_new _ _
      have fV : V.heap[wr.heap.size]? = some (.cells #[.int .i64 f.kind, .int .i64 q, .int .i64 f.id, .slice a3 f.ops.length c3, .slice a4 f.deps.length c4, .slice a5 f.ats.length c5, .slice a6 f.vals.length c6] 43 (0, 0)) := by rw [hbV.block _ (by omega)]; exact fX
      have hzV : V.heap.size = y.heap.size + 1 := by rw [hV]; exact size_push _ _
      have HNV : Hid (NodeC (fun b => wr.heap.size < b) V nv' s1) := by
        rw [hV]
        exact (hn.mono (fun b _ hb => by omega)).later (SameOn.of_size ((Below.refl _ _).alloc (Nat.le_refl _) _))
      have hbVw : Below wr.heap.size wr V := hbX.trans (hbV.mono (by omega))
      clear hs1 he1 her hV hn hbX hby hbV q0r p0 fX HX hfq
      go_upto_region 10 with (first
        | (refine wpList_alloc_as rfl 41 rfl zr hz0 ?_)
        | (refine wpList_store_row rfl 41 _ _ rfl y.heap.size er rfl rfl 41 _ (heap_new _ _) hse hzz honee ?_))
      rw [World.setRow_alloc_new, ← HV.out]
      clear HV
      obtain ⟨vo, hvo⟩ : ∃ vo, vo = Value.slice la zs.length lc := ⟨_, rfl⟩
      have HVO : Hid (vo = Value.slice la zs.length lc) := hvo
      have HOWV : Hid (∀ wx, Below wr.heap.size wr wx → wx.ownsRow (w.heap.size + 1) 9 1 (.slice la zs.length lc) zs.length (txc zs)) := fun wx hx => own_same HOW.out (fun k hk => hx.block k (World.ownsRow.lt HOW.out k hk).2)
      have HOLT : Hid (∀ k, (Value.slice la zs.length lc).ownBlock = some k → w.heap.size + 1 ≤ k ∧ k < wr.heap.size) := fun k hk => World.ownsRow.lt HOW.out k hk
      have HFVV : Hid (FrameV V (.agg #[.int .i64 f.kind, .int .i64 q, .int .i64 f.id, .slice a3 f.ops.length c3, .slice a4 f.deps.length c4, .slice a5 f.ats.length c5, .slice a6 f.vals.length c6]) fq) := by
        unfold Hid
        rw [HFQ.out]
        exact HFV.out.later hbVw
      clear hvo
      go_wp2_with (first
        | (refine wpList_load_row rfl 43 _ rfl wr.heap.size rfl 43 _ (0, 0) _ fV Try.underlying43 rfl Try.infoFrame7 ?_))
      refine (encode_any _ fq V HFVV.out).mono ?_
      rintro r w2 ⟨rfl, hb2⟩
      have hz2 := hb2.size
      have u0 : w2.heap[w.heap.size]? = some (.cells mr 41 (0, 0)) := by rw [hb2.block _ (by omega)]; exact v0
      have u1 : w2.heap[y.heap.size]? = some (.cells er 41 (0, 0)) := by rw [hb2.block _ (by omega)]; exact v1
      have hbw2 : Below wr.heap.size wr w2 := hbVw.trans (hb2.mono (by omega))
      have hBw2 : Below w.heap.size w w2 := hB.trans (hbw2.mono (by omega))
      by_cases te : e1 = 0
      · have de : (e1 != 0) = false := by simpa using te
        have hg0 : goodL fq = 0 := taken_good (by rw [← HE1.out]; exact te)
        have ee : encE fq = encL fq := by unfold encE; rw [if_pos hg0]
        rw [ee, hg0]
        have HTE : Hid (e1 = 0) := te
        have HN2 : Hid (NodeC (fun b => wr.heap.size < b) w2 nv' s1) := HNV.out.later (SameOn.of_size hb2)
        have HRP1 : Hid (replayFrom q zeroN (zs ++ [encL fq]) = (s1, 0)) := by
          unfold Hid
          rw [HS1.out]
          exact replay_taken HRP.out (by rw [← HE1.out]; exact HTE.out)
        obtain ⟨t, ht⟩ : ∃ t, t = encL fq := ⟨_, rfl⟩
        rw [← ht] at HRP1 ⊢
        clear te hg0 ee ht v0 v1 fV HNV HN HRP HFVV HFV hb2
        go_upto_region 12 with fail
        have HO2 := HOWV.out w2.drew ((hbw2).trans ((Below.refl w2.heap.size w2).drew.mono hbw2.size))
        have hd2 : Below w2.heap.size w2 w2.drew := (Below.refl w2.heap.size w2).drew
        have HR2 : Hid (w2.drew.rangeAt y.heap.size 0 er.toList) := by
          have h1 : BlkAt 201 w2 y.heap.size nv' := ⟨41, by rw [← HER.out]; exact u1⟩
          have := row_range (h1.later hd2 (by omega))
          rw [HER.out]
          exact this
        have hsel : (Try.prog.info? 41).map (·.size) = some er.toList.length := by rw [hse]; simp
        have hea : er.toList.toArray = er := by simp
        refine wp_region_gate_drew (T := [5, 6]) (S := fun w' => w'.rangeAt y.heap.size 0 er.toList) (by kernel_rfl) HR2.out ?_
        intro hH
        generalize w2.drew = Z0 at *
        have hzZ := hd2.size
        have n0 : Z0.heap[w.heap.size]? = some (.cells mr 41 (0, 0)) := by rw [hd2.block _ (by omega)]; exact u0
        have HNZ : Hid (NodeC (fun b => wr.heap.size < b) Z0 nv' s1) := HN2.out.later (SameOn.of_size hd2)
        have hBZ : Below w.heap.size w Z0 := hBw2.trans (hd2.mono (by omega))
        clear HN2 hBw2 hbw2 hd2 u0 u1 HR2
        refine wpAnyG_takeW (i := 1) (d := some 54) (v := .slice la zs.length lc) rfl rfl (by kernel_rfl) (by kernel_rfl) (by kernel_rfl) (fun _ _ _ h => h) (by decide) (Or.inl ⟨by rfl, fun _ _ => by go_simp⟩) hH ?_
        try simp only [Act.put]
        try simp only [List.setIfInBounds_toArray]
        try simp only [List.set_cons_zero, List.set_cons_succ]
        refine wpAnyG_takeW (i := 2) (d := some 55) (v := .string (str t)) rfl rfl (by kernel_rfl) (by kernel_rfl) (by kernel_rfl) (fun _ _ _ h => h) (by decide) (Or.inl ⟨by rfl, fun _ _ => by go_simp⟩) hH ?_
        try simp only [Act.put]
        try simp only [List.setIfInBounds_toArray]
        try simp only [List.set_cons_zero, List.set_cons_succ]
        refine wpAnyG_take (i := 0) (d := some 53) (v := .agg er.toList.toArray) rfl rfl (by kernel_rfl) (by kernel_rfl) (by kernel_rfl) (fun _ _ _ h => h) (by kernel_rfl) (by decide) (by kernel_rfl) (yieldsIf_load_mid (by rfl) _ _ rfl _ _ rfl er.toList _ (fun _ h => h) Try.underlying41 rfl hsel) hH ?_
        try simp only [Act.put]
        try simp only [List.setIfInBounds_toArray]
        try simp only [List.set_cons_zero, List.set_cons_succ]
        rw [hea]
        refine wpAnyG_ready (rs := [3]) (by kernel_rfl) (by simp) ?_
        refine AllReadyG.cons rfl (fun K hK => ?_) AllReadyG.nil
        go_simp
        have hb1 : Below Z0.heap.size Z0 (Z0.alloc (.cells #[.string (str t)] 9)) := (Below.refl _ _).alloc (Nat.le_refl _) _
        refine hK.out _ _ (range_later hH hb1 (by omega)) (fun hH2 => ?_)
        clear hK K hH
        have hH := hH2
        clear hH2
        have HO3 : Hid ((Z0.alloc (.cells #[.string (str t)] 9)).ownsRow (w.heap.size + 1) 9 1 (.slice la zs.length lc) zs.length (txc zs)) := own_same HO2 (fun k hk => hb1.block k (World.ownsRow.lt HO2 k hk).2)
        have m0 : (Z0.alloc (.cells #[.string (str t)] 9)).heap[w.heap.size]? = some (.cells mr 41 (0, 0)) := by rw [hb1.block _ (by omega)]; exact n0
        have m1 : (Z0.alloc (.cells #[.string (str t)] 9)).heap[Z0.heap.size]? = some (.cells #[.string (str t)] 9 (0, 0)) := heap_new _ _
        have HN3 : Hid (NodeC (fun b => wr.heap.size < b) (Z0.alloc (.cells #[.string (str t)] 9)) nv' s1) := HNZ.out.later (SameOn.of_size hb1)
        have hB3 : Below w.heap.size w (Z0.alloc (.cells #[.string (str t)] 9)) := hBZ.trans (hb1.mono (by omega))
        have hz3 : (Z0.alloc (.cells #[.string (str t)] 9)).heap.size = Z0.heap.size + 1 := size_push _ _
        generalize Z0.alloc (.cells #[.string (str t)] 9) = Z1 at *
        clear hb1 n0 HNZ hBZ HO2
        refine wpAnyG_ready (rs := [4]) (by kernel_rfl) (by simp) ?_
        refine AllReadyG.cons rfl (fun K hK => ?_) AllReadyG.nil
        refine step_append_text (by rfl) _ _ (by rfl) (w.heap.size + 1) (.slice la zs.length lc) zs (by rfl) HO3.out Z0.heap.size t (by rfl) m1 (by omega) (by omega) ?_
        intro g cp Z2 own2 grow2 new2
        have hgz := grow2.size
        have hne : (Value.slice la zs.length lc).ownBlock ≠ some y.heap.size := by
          intro e
          have := (HOLT.out _ e).2
          omega
        have hH2 : Z2.rangeAt y.heap.size 0 er.toList := fun j u hu => World.grownBy.cell grow2 (hH j u hu) (fun e => hne (by simpa using e.symm))
        refine hK.out _ _ hH2 (fun _ => ?_)
        clear hK K hH hH2
        have HN4 : Hid (NodeC (fun b => w.heap.size < b ∧ (Value.slice (some ⟨g, 0, none⟩) (zs.length + 1) cp).ownBlock ≠ some b) Z2 nv' s1) := by
          have h1 : NodeC (fun b => wr.heap.size < b ∧ b < Z1.heap.size) Z2 nv' s1 := (HN3.out.mono (fun b hb hk => ⟨hk, hb⟩)).later (fun b hb1 hb2 => grow2.block b hb1 (fun e => by have := (HOLT.out _ e.symm).2; omega))
          refine h1.mono (fun b _ hb => ⟨by omega, fun e => ?_⟩)
          have eg : g = b := by simpa [Value.ownBlock] using e
          rcases new2 with h | h
          · have := (HOLT.out _ h).2; omega
          · omega
        have k0 : Z2.heap[w.heap.size]? = some (.cells mr 41 (0, 0)) := by
          rw [grow2.block _ (by omega) (fun e => by have := (HOLT.out _ e.symm).1; omega)]
          exact m0
        have hB4 : Below w.heap.size w (Z2.setRow w.heap.size er) := setRow_below (hB3.grown grow2 (by omega) (fun k hk => by have := (HOLT.out _ hk).1; omega)) (Nat.le_refl _) _
        have HO4 : Hid (Z2.ownsRow (w.heap.size + 1) 9 1 (.slice (some ⟨g, 0, none⟩) (zs.length + 1) cp) (zs.length + 1) (txc (zs ++ [t]))) := own2
        try simp only [Act.put]
        try simp only [List.setIfInBounds_toArray]
        try simp only [List.set_cons_zero, List.set_cons_succ]
        refine wpAnyG_of_any _ _ _ _ (by kernel_rfl) ?_
        refine wpAny_ready (rs := [5]) (by kernel_rfl) (by simp) ?_
        refine AllReady.cons rfl (fun K hK => ?_) AllReady.nil
        rw [if_pos (by rfl)]
        refine wp_store_row 41 _ _ rfl w.heap.size er rfl rfl 41 mr k0 hse hze honee ?_
        refine hK _ _ ?_
        clear hK K
        try simp only [Act.put]
        try simp only [List.setIfInBounds_toArray]
        try simp only [List.set_cons_zero, List.set_cons_succ]
        refine wpAny_takeD (i := 6) (d := some 6) (v := .slice (some ⟨g, 0, none⟩) (zs.length + 1) cp) rfl rfl (by kernel_rfl) (by kernel_rfl) (by kernel_rfl) (fun _ _ _ h => h) (Or.inl ⟨by rfl, fun _ => by go_simp⟩) ?_
        try simp only [Act.put]
        try simp only [List.setIfInBounds_toArray]
        try simp only [List.set_cons_zero, List.set_cons_succ]
        refine wpAny_done (by kernel_rfl) ?_ _
        go_wp2_with fail
        refine ⟨⟨k + 1, nv', s1, zs ++ [t], hlt, by omega, by rw [List.length_append]; show zs.length + 1 ≤ k + 1; omega, by rw [Int.natCast_add]; rfl, by rw [← HER.out]; exact heap_setRow k0, ?_, ?_, hB4, HRP1⟩, by simp [intOf]; omega⟩
        · exact HN4.out.later (fun b _ hb => setRow_other _ _ (by omega))
        · unfold Hid
          rw [List.length_append]
          exact own_same HO4.out (fun k hk => setRow_other _ _ (by have := (World.ownsRow.lt HO4.out k hk).1; omega))
      · have de : (e1 != 0) = true := by simpa using te
        have HN2 : Hid (NodeC (fun b => w.heap.size < b ∧ (Value.slice la zs.length lc).ownBlock ≠ some b) w2 mv s) := HN.out.later (SameOn.of_size hbw2)
        have HO2 : Hid _ := HOWV.out w2 hbw2
        clear te
        go_wp2_with fail
        refine ⟨⟨k + 1, mv, s, zs, hlt, by omega, by omega, by rw [Int.natCast_add]; rfl, by rw [← HMR.out]; exact u0, HN2, HO2, hBw2, HRP⟩, by simp [intOf]; omega⟩
    · --OUT
      have hout : ¬ k < fs.length ∨ (k < fs.length ∧ ¬ k < 40) := by omega
      clear hgo
      rcases hout with ho | ⟨ho, ho2⟩
      · have HRC : Hid (Calls Try.prog 31 #[.int .i64 q, .slice la zs.length lc] wr fun r w' => ∃ nv', r = .returned (.tuple #[.agg (rowF 201 nv'), .int .i64 0]) ∧ NodeC (· < w'.heap.size) w' nv' s ∧ Below wr.heap.size wr w') := by
          obtain ⟨a2, c2, e2, htx⟩ := txIn_of_owns HOW.out
          cases e2
          have hR : replayN (q : Int) zs = (s, 0) := by
            unfold replayN
            rw [if_neg (by unfold nodeB; simp; omega)]
            exact HRP.out
          have := replay_any q la lc zs wr (by unfold maxLen; omega) htx
          rw [hR] at this
          exact this
        go_upto_region 13 with fail
        go_wp2_with fail
        refine HRC.out.mono ?_
        rintro r y ⟨nv', rfl, hn, hby⟩
        obtain ⟨er, her⟩ : ∃ er, er = rowF 201 nv' := ⟨_, rfl⟩
        rw [← her]
        have hse : (Try.prog.info? 41).map (·.size) = some er.size := by rw [her, rowF_size]; exact Try.infoNode
        have honee : er.all (·.oneCell') = true := by rw [her]; exact rowF_all hn.one
        have hzz : zr.size = er.size := by rw [HZR.out, her, rowF_size, rowF_size]
        have HER : Hid (er = rowF 201 nv') := her
        obtain ⟨V, hV⟩ : ∃ V, V = y.alloc (.cells er 41) := ⟨_, rfl⟩
        have HV : Hid (V = y.alloc (.cells er 41)) := hV
        have hzy := hby.size
        have hyV : Below y.heap.size y V := by rw [hV]; exact (Below.refl _ _).alloc (Nat.le_refl _) _
        have hbV : Below wr.heap.size wr V := hby.trans (hyV.mono hzy)
        have v0 : V.heap[w.heap.size]? = some (.cells mr 41 (0, 0)) := by rw [hbV.block _ (by omega)]; exact q0r
        have v1 : V.heap[y.heap.size]? = some (.cells er 41 (0, 0)) := by rw [hV]; exact heap_new _ _
        have HSN : Hid (Calls Try.prog 37 #[.agg mr, .agg er] V fun r w' => r = .returned (.bool true) ∧ Below V.heap.size V w') := by
          unfold Hid
          rw [HMR.out, HER.out]
          exact keep_sameNode mv nv' s V (HN.out.any.below hbV) (hn.below hyV)
        have HVw : Hid (Below w.heap.size w V) := hB.trans (hbV.mono (by omega))
        clear her hV hn hby hyV hbV hB HRC
        go_upto_region 14 with (first
          | (refine wpList_alloc_as rfl 41 rfl zr hz0 ?_)
          | (refine wpList_store_row rfl 41 _ _ rfl y.heap.size er rfl rfl 41 _ (heap_new _ _) hse hzz honee ?_))
        rw [World.setRow_alloc_new, ← HV.out]
        clear HV
        go_wp2_with (first
          | (refine wpList_wanted (by rfl) fun K hK => wp_load_row 41 _ rfl w.heap.size rfl 41 mr (0, 0) _ v0 Try.underlying41 rfl hsm (hK _ _ ?_))
          | (refine wpList_wanted (by rfl) fun K hK => wp_load_row 41 _ rfl y.heap.size rfl 41 er (0, 0) _ v1 Try.underlying41 rfl hse (hK _ _ ?_))
          | (go_at_call 37; refine HSN.out.mono ?_; rintro e w8 ⟨rfl, hb8⟩)
          | (go_at_call 36; refine (keep_takes _).mono ?_; rintro e w9 ⟨rfl, hb9⟩))
        go_ret
        exact ⟨rfl, HVw.out.trans ((hb8.trans (hb9.mono hb8.size)).mono (HVw.out.size))⟩
      · have ho3 : decide ((k : Int) < 40) = false := by simp; omega
        have HRC : Hid (Calls Try.prog 31 #[.int .i64 q, .slice la zs.length lc] wr fun r w' => ∃ nv', r = .returned (.tuple #[.agg (rowF 201 nv'), .int .i64 0]) ∧ NodeC (· < w'.heap.size) w' nv' s ∧ Below wr.heap.size wr w') := by
          obtain ⟨a2, c2, e2, htx⟩ := txIn_of_owns HOW.out
          cases e2
          have hR : replayN (q : Int) zs = (s, 0) := by
            unfold replayN
            rw [if_neg (by unfold nodeB; simp; omega)]
            exact HRP.out
          have := replay_any q la lc zs wr (by unfold maxLen; omega) htx
          rw [hR] at this
          exact this
        go_upto_region 13 with fail
        go_wp2_with fail
        refine HRC.out.mono ?_
        rintro r y ⟨nv', rfl, hn, hby⟩
        obtain ⟨er, her⟩ : ∃ er, er = rowF 201 nv' := ⟨_, rfl⟩
        rw [← her]
        have hse : (Try.prog.info? 41).map (·.size) = some er.size := by rw [her, rowF_size]; exact Try.infoNode
        have honee : er.all (·.oneCell') = true := by rw [her]; exact rowF_all hn.one
        have hzz : zr.size = er.size := by rw [HZR.out, her, rowF_size, rowF_size]
        have HER : Hid (er = rowF 201 nv') := her
        obtain ⟨V, hV⟩ : ∃ V, V = y.alloc (.cells er 41) := ⟨_, rfl⟩
        have HV : Hid (V = y.alloc (.cells er 41)) := hV
        have hzy := hby.size
        have hyV : Below y.heap.size y V := by rw [hV]; exact (Below.refl _ _).alloc (Nat.le_refl _) _
        have hbV : Below wr.heap.size wr V := hby.trans (hyV.mono hzy)
        have v0 : V.heap[w.heap.size]? = some (.cells mr 41 (0, 0)) := by rw [hbV.block _ (by omega)]; exact q0r
        have v1 : V.heap[y.heap.size]? = some (.cells er 41 (0, 0)) := by rw [hV]; exact heap_new _ _
        have HSN : Hid (Calls Try.prog 37 #[.agg mr, .agg er] V fun r w' => r = .returned (.bool true) ∧ Below V.heap.size V w') := by
          unfold Hid
          rw [HMR.out, HER.out]
          exact keep_sameNode mv nv' s V (HN.out.any.below hbV) (hn.below hyV)
        have HVw : Hid (Below w.heap.size w V) := hB.trans (hbV.mono (by omega))
        clear her hV hn hby hyV hbV hB HRC
        go_upto_region 14 with (first
          | (refine wpList_alloc_as rfl 41 rfl zr hz0 ?_)
          | (refine wpList_store_row rfl 41 _ _ rfl y.heap.size er rfl rfl 41 _ (heap_new _ _) hse hzz honee ?_))
        rw [World.setRow_alloc_new, ← HV.out]
        clear HV
        go_wp2_with (first
          | (refine wpList_wanted (by rfl) fun K hK => wp_load_row 41 _ rfl w.heap.size rfl 41 mr (0, 0) _ v0 Try.underlying41 rfl hsm (hK _ _ ?_))
          | (refine wpList_wanted (by rfl) fun K hK => wp_load_row 41 _ rfl y.heap.size rfl 41 er (0, 0) _ v1 Try.underlying41 rfl hse (hK _ _ ?_))
          | (go_at_call 37; refine HSN.out.mono ?_; rintro e w8 ⟨rfl, hb8⟩)
          | (go_at_call 36; refine (keep_takes _).mono ?_; rintro e w9 ⟨rfl, hb9⟩))
        go_ret
        exact ⟨rfl, HVw.out.trans ((hb8.trans (hb9.mono hb8.size)).mono (HVw.out.size))⟩

end Go.Proofs.Ytkoefoccbjhoiab
