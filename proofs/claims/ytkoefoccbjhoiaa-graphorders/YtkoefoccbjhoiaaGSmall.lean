/-
  The contracts of the small functions of package graph.
-/
import Derived.Test.YtkoefoccbjhoiaaCel
set_option linter.unusedVariables false
set_option linter.unusedSimpArgs false
namespace Go.Proofs.Ytkoefoccbjhoiaa
open Go.RowKit

def txnB' (n : Int) : Bool := decide (0 ≤ n ∧ n < 32)

set_option maxRecDepth 100000 in
set_option maxHeartbeats 400000 in
theorem g_isTxn (n : Int) (w : World) :
    Calls Try.prog 84 #[.int .i64 n] w fun e w' => e = .returned (.bool (txnB' n)) ∧ w' = w := by
  by_cases h1 : 0 ≤ n
  · by_cases h2 : n < 32
    · have E : Hid (txnB' n = true) := by unfold txnB' Hid; simp; omega
      have d1 : decide (0 ≤ n) = true := by simpa using h1
      have d2 : decide (n < 32) = true := by simpa using h2
      go_enter Try.func84, Try.ntmps84
      go_wp2
      go_ret
      exact ⟨ret_bool E.out.symm, rfl⟩
    · have E : Hid (txnB' n = false) := by unfold txnB' Hid; simp; omega
      have d1 : decide (0 ≤ n) = true := by simpa using h1
      have d2 : decide (n < 32) = false := by simpa using h2
      go_enter Try.func84, Try.ntmps84
      go_wp2
      go_ret
      exact ⟨ret_bool E.out.symm, rfl⟩
  · have E : Hid (txnB' n = false) := by unfold txnB' Hid; simp; omega
    have d1 : decide (0 ≤ n) = false := by simpa using h1
    go_enter Try.func84, Try.ntmps84
    go_wp2
    go_ret
    exact ⟨ret_bool E.out.symm, rfl⟩

theorem Try.setGuard : Try.prog.eqGuardType Try.prog.depth 60 = false := by kernel_rfl

theorem load_row {w : World} {c : Nat} {gv : Nat → Value} {s : St} {sv : Value} (hs : StAt w c gv s sv) {n : Nat} (hn : n < 32) :
    (Instr.loadAt 60 (.pointer (some ⟨c, 162 + n * 32, none⟩))).run Try.prog w = .ok (.agg (bools 32 (s.reach n))) w := by
  have := run_loadAt_mid (P := Try.prog) w c (162 + n * 32) 60 (bools 32 (s.reach n)).toList _ (hs.row hn) Try.underlying60 rfl (by rw [bools_len]; exact Try.infoSet)
  simpa using this
theorem StAt.drewN {w : World} {c : Nat} {gv : Nat → Value} {s : St} {sv : Value} (h : StAt w c gv s sv) (k : Nat) : StAt (w.drewN k) c gv s sv := h
theorem StAt.drew {w : World} {c : Nat} {gv : Nat → Value} {s : St} {sv : Value} (h : StAt w c gv s sv) : StAt w.drew c gv s sv := h

theorem Try.sizeSet (S : Nat → Bool) : (Try.prog.info? 60).map (·.size) = some (bools 32 S).toList.length := by rw [bools_len]; exact Try.infoSet


set_option maxRecDepth 100000 in
set_option maxHeartbeats 400000 in
theorem together_any (c : Nat) (gv : Nat → Value) (s : St) (sv : Value) (n m : Nat) (hn : n < 32) (hm : m < 32) (w : World) (hs : StAt w c gv s sv) :
    Calls Try.prog 100 #[.pointer (some ⟨c, 0, none⟩), .int .i64 n, .int .i64 m] w fun e w' => e = .returned (.bool (sameB 32 (s.reach n) (s.reach m))) ∧ ∃ k, w' = w.drewN k := by
  have r1 := hs.row hn
  have r2 := hs.row hm
  have hg := Try.setGuard
  have he := fun w => run_equalIn_bools 9998 Try.underlying60 Try.underlying4 Try.infoBool (s.reach n) (s.reach m) w
  have n1 : (0 : Int) ≤ (n : Int) ∧ (n : Int) < 32 := by omega
  have m1 : (0 : Int) ≤ (m : Int) ∧ (m : Int) < 32 := by omega
  go_enter Try.func100, Try.ntmps100
  go_wp2
  refine wp_region_quiet_lit (by kernel_rfl) (by kernel_rfl) ?_
  repeat (quiet_step (fail))
  refine wpQuiet_load_mid (by rfl) _ _ rfl _ _ rfl (bools 32 (s.reach n)).toList _ r1 Try.underlying60 rfl (Try.sizeSet _) ?_
  simp only [Act.put, List.setIfInBounds_toArray, List.set_cons_zero, List.set_cons_succ, Array.toArray_toList]
  repeat (quiet_step (fail))
  refine wpQuiet_load_mid (by rfl) _ _ rfl _ _ rfl (bools 32 (s.reach m)).toList _ r2 Try.underlying60 rfl (Try.sizeSet _) ?_
  simp only [Act.put, List.setIfInBounds_toArray, List.set_cons_zero, List.set_cons_succ, Array.toArray_toList]
  repeat (quiet_step (fail))
  refine wpQuiet_nil ?_
  rintro _ ⟨nq, rfl⟩
  go_wp2
  go_ret
  exact ⟨rfl, _, rfl⟩

end Go.Proofs.Ytkoefoccbjhoiaa
