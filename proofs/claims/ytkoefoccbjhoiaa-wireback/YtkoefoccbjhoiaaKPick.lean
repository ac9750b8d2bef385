/-
  The contract of the statements' own pick.
-/
import Derived.Test.YtkoefoccbjhoiaaBase
set_option linter.unusedVariables false
set_option linter.unusedSimpArgs false
namespace Go.Proofs.Ytkoefoccbjhoiaa
open Go.RowKit

set_option maxRecDepth 100000 in
set_option maxHeartbeats 400000 in
theorem keep_pick_any (a : Int) (n : Nat) (w : World) (h1 : 1 ≤ n) (h2 : n ≤ 1000) :
    Calls Try.prog 45 #[.int .i64 a, .int .i64 n] w fun e w' => (∃ p : Nat, p < n ∧ e = .returned (.int .i64 p)) ∧ w' = w := by
  have e := Int.tmod_eq_emod (a := a) (b := (n : Int))
  have l1 := Int.emod_nonneg a (show (n : Int) ≠ 0 by omega)
  have l2 := Int.emod_lt_of_pos a (show (0 : Int) < (n : Int) by omega)
  have hn : ((n : Int) == 0) = false := by simp; omega
  have bb : -(n : Int) < a.tmod n ∧ a.tmod n < n := by rw [e]; split <;> simp <;> omega
  obtain ⟨b1, b2⟩ := bb
  clear e l1 l2
  by_cases hlt : a.tmod n < 0
  · go_enter Try.func45, Try.ntmps45
    go_wp2
    go_ret
    refine ⟨⟨(a.tmod n + n).toNat, by omega, ret_int ?_⟩, rfl⟩
    omega
  · go_enter Try.func45, Try.ntmps45
    go_wp2
    go_ret
    refine ⟨⟨(a.tmod n).toNat, by omega, ret_int ?_⟩, rfl⟩
    omega

end Go.Proofs.Ytkoefoccbjhoiaa
