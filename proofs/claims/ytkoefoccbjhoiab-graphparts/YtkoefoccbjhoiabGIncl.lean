/-
  The contracts of package graph's include and ahead, and of slices.Index over ints.
-/
import Derived.Test.YtkoefoccbjhoiabGSmall
set_option linter.unusedVariables false
set_option linter.unusedSimpArgs false
namespace Go.Proofs.Ytkoefoccbjhoiab
open Go.RowKit

theorem grown_drew {w w1 : World} {row : Option Nat} (h : w.grownBy w1 row) : w.grownBy w1.drew row := ⟨h.os, h.tape, h.output, h.size, h.block⟩
theorem grown_drewN {w w1 : World} {row : Option Nat} (h : w.grownBy w1 row) (k : Nat) : w.grownBy (w1.drewN k) row := ⟨h.os, h.tape, h.output, h.size, h.block⟩
theorem grown_trans {w w1 w2 : World} {row : Option Nat} (h : w.grownBy w1 row) (k : w1.grownBy w2 row) : w.grownBy w2 row :=
  ⟨k.os.trans h.os, k.tape.trans h.tape, k.output.trans h.output, Nat.le_trans h.size k.size, fun i hi hr => (k.block i (Nat.lt_of_lt_of_le hi h.size) hr).trans (h.block i hi hr)⟩
theorem grown_below {w w1 : World} {c : Nat} (h : w.grownBy w1 (some c)) (hc : c < w.heap.size) : Below c w w1 :=
  (Below.refl _ _).grown h (by omega) (by intro k hk; cases hk; exact Nat.le_refl _)
theorem below_grown {w w1 : World} (h : Below w.heap.size w w1) (row : Option Nat) : w.grownBy w1 row := ⟨h.os, h.tape, h.output, h.size, fun k hk _ => h.block k hk⟩
theorem StAt.later {w w1 : World} {c B : Nat} {gv : Nat → Value} {s : St} {sv : Value} (h : StAt w c gv s sv) (hb : Below B w w1) (hc : c < B) : StAt w1 c gv s sv := BlkAt.later h hb hc
theorem StAt.lt {w : World} {c : Nat} {gv : Nat → Value} {s : St} {sv : Value} (h : StAt w c gv s sv) : c < w.heap.size := BlkAt.lt h
theorem StAt.alloc {w : World} {c : Nat} {gv : Nat → Value} {s : St} {sv : Value} (h : StAt w c gv s sv) (o : Obj) : StAt (w.alloc o) c gv s sv :=
  h.later (B := w.heap.size) ((Below.refl _ _).alloc (Nat.le_refl _) _) h.lt

def inclTo (s : St) (n : Nat) (T : Nat → Bool) (k : Nat) : St := { s with reach := upd s.reach n (fun j => s.reach n j || (decide (j < k) && T j)) }
theorem inclTo_zero (s : St) (n : Nat) (T : Nat → Bool) : inclTo s n T 0 = s := by
  unfold inclTo
  have : upd s.reach n (fun j => s.reach n j || (decide (j < 0) && T j)) = s.reach := by
    funext i j
    unfold upd
    split
    · rename_i e; subst e; simp
    · rfl
  rw [this]
theorem inclTo_hit (s : St) (n : Nat) (T : Nat → Bool) (k : Nat) (h : T k = true) : ({ inclTo s n T k with reach := upd (inclTo s n T k).reach n (upd ((inclTo s n T k).reach n) k true) } : St) = inclTo s n T (k + 1) := by
  unfold inclTo
  simp only [upd_same]
  congr 1
  funext i j
  unfold upd
  by_cases e : i = n
  · simp only [e, if_true]
    by_cases e2 : j = k
    · subst e2; simp [h]
    · have : decide (j < k + 1) = decide (j < k) := by rw [Bool.eq_iff_iff]; simp; omega
      simp [e2, this]
  · simp [e]
theorem inclTo_miss (s : St) (n : Nat) (T : Nat → Bool) (k : Nat) (h : T k = false) : inclTo s n T (k + 1) = inclTo s n T k := by
  unfold inclTo
  congr 2
  funext j
  by_cases e2 : j = k
  · subst e2; simp [h]
  · have : decide (j < k + 1) = decide (j < k) := by rw [Bool.eq_iff_iff]; simp; omega
    rw [this]
theorem StAt.same {w : World} {c : Nat} {gv : Nat → Value} {s s' : St} {sv : Value} (h : StAt w c gv s sv) (h1 : s.met = s'.met) (h2 : ∀ i, i < 32 → s.turn i = s'.turn i) (h3 : ∀ i, i < 32 → s.back i = s'.back i) (h4 : ∀ i, i < 32 → s.opn i = s'.opn i)
    (h5 : ∀ i j, i < 32 → j < 32 → s.reach i j = s'.reach i j) : StAt w c gv s' sv := by
  refine BlkAt.congr h fun i hi => ?_
  unfold sCell
  repeat' split
  · rfl
  · rw [h1]
  · rw [h2 _ (by omega)]
  · rw [h3 _ (by omega)]
  · rfl
  · rw [h4 _ (by omega)]
  · rw [h5 _ _ (by omega) (by omega)]

set_option maxRecDepth 100000 in
set_option maxHeartbeats 400000 in
theorem incl_any (c : Nat) (gv : Nat → Value) (s : St) (sv : Value) (n : Nat) (hn : n < 32) (T : Nat → Bool) (w : World) (hs : StAt w c gv s sv) :
    Calls Try.prog 129 #[.pointer (some ⟨c, 162 + n * 32, none⟩), .agg (bools 32 T)] w fun e w' => e = .returned (.tuple #[]) ∧ StAt w' c gv { s with reach := upd s.reach n (fun j => s.reach n j || T j) } sv ∧ w.grownBy w' (some c) := by
  have hlt := hs.lt
  go_enter Try.func129, Try.ntmps129
  go_wp2_with (refine wpList_load_row rfl 22 _ rfl w.heap.size rfl 22 (bools 32 T) (0, 0) _ (heap_new _ _) Try.underlying22 rfl (by rw [bools_size]; exact Try.infoSet) ?_)
  have hg0 : w.grownBy (w.alloc (.cells (bools 32 T) 22)) (some c) := grown_alloc (World.grownBy.refl _ _) _
  have hs0 := hs.alloc (.cells (bools 32 T) 22)
  rw [← inclTo_zero s n T] at hs0
  clear hs
  go_loopw [7] (fun i wr => ∃ k : Nat, k ≤ 32 ∧ i = .int .i64 k ∧ StAt wr c gv (inclTo s n T k) sv ∧ w.grownBy wr (some c)) (fun i _ => 32 - (intOf i).toNat)
  case atStart => exact ⟨0, Nat.zero_le _, rfl, hs0, hg0⟩
  case round =>
    obtain ⟨k, hk, rfl, hS, hG⟩ := hrel
    clear hs0 hg0
    by_cases hlt : k < 32
    · have hix := fun wx => run_index_bools Try.underlying22 Try.underlying4 Try.infoBool T hlt wx
      cases tk : T k
      · rw [tk] at hix
        have HM : Hid (inclTo s n T (k + 1) = inclTo s n T k) := inclTo_miss s n T k tk
        go_wp2
        go_roundw
        case rel => exact ⟨k + 1, by omega, by go_num, by rw [HM.out]; exact hS, hG⟩
        case measure => simp [intOf]; omega
      · rw [tk] at hix
        have c0 : wr.cell? ⟨c, 162 + n * 32 + k, none⟩ = some (.bool ((inclTo s n T k).reach n k)) := by rw [BlkAt.cell hS (by omega), sCell_reach _ _ _ hlt]
        have f0 : wr.frozen? ⟨c, 162 + n * 32 + k, none⟩ = false := BlkAt.frozen hS _
        have HS : Hid (StAt wr c gv (inclTo s n T k) sv) := hS
        have HM : Hid (_ = inclTo s n T (k + 1)) := inclTo_hit s n T k tk
        clear hS
        go_wp2
        go_roundw
        case rel => exact ⟨k + 1, by omega, by go_num, by rw [← HM.out]; exact HS.out.putReach hlt true, grown_put_same hG _ _⟩
        case measure => simp [intOf]; omega
    · go_wp2
      go_end0
      obtain rfl : k = 32 := by omega
      refine ⟨rfl, hS.same rfl (fun _ _ => rfl) (fun _ _ => rfl) (fun _ _ => rfl) (fun i j _ hj => ?_), hG⟩
      unfold inclTo upd
      by_cases e : i = n
      · simp [e, hj]
      · simp [e]

set_option maxRecDepth 100000 in
set_option maxHeartbeats 400000 in
theorem index_any (a : Option Addr) (cap : Nat) (zs : List Int) (n : Int) (i : Nat) (w : World) (hl : zs.length ≤ maxLen) (hz : IntsAt w.heap.size w a zs) (hi : i < zs.length) (hn : zs.getD i 0 = n) (hb : ∀ j, j < i → zs.getD j 0 ≠ n) :
    Calls Try.prog 140 #[.slice a zs.length cap, .int .i64 n] w fun e w' => e = .returned (.int .i64 i) ∧ w' = w := by
  unfold maxLen at hl
  rcases hz with rfl | ⟨b, off, rfl, _, hc⟩
  · simp at hi
  · have h64 : (zs.length : Int) ≤ 9223372036854775807 := by omega
    go_enter Try.func140, Try.ntmps140
    go_wp2
    go_loop [8] (fun v => ∃ k : Nat, k ≤ i ∧ v = .int .i64 k) (fun v => zs.length - (intOf v).toNat)
    case atStart => exact ⟨0, Nat.zero_le _, rfl⟩
    case round =>
      obtain ⟨k, hk, rfl⟩ := hrel
      have hlt : k < zs.length := by omega
      obtain ⟨q, Hq⟩ : ∃ q : Int, Hid (zs.getD k 0 = q) := ⟨_, rfl⟩
      have e0 : w.cell? ⟨b, off + k, none⟩ = some (.int .i64 q) := by rw [← Hq.out]; exact hc k hlt
      clear hc
      by_cases e : k = i
      · subst e
        have hq : (n == q) = true := by rw [← Hq.out, hn]; simp
        go_wp2
        go_ret
        exact ⟨rfl, rfl⟩
      · have hq : (n == q) = false := by
          have := hb k (by omega)
          rw [Hq.out] at this
          exact beq_eq_false_iff_ne.2 (fun h => this h.symm)
        go_wp2
        go_round
        case rel => exact ⟨k + 1, by omega, by go_num⟩
        case measure => simp [intOf]; omega

end Go.Proofs.Ytkoefoccbjhoiab
