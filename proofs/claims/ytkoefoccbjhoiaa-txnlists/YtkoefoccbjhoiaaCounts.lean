/-
  The contracts of the statements' own 'counts': each answers true.
-/
import Derived.Test.YtkoefoccbjhoiaaUnion
set_option linter.unusedVariables false
set_option linter.unusedSimpArgs false
namespace Go.Proofs.Ytkoefoccbjhoiaa
open Go.RowKit

theorem of_four : ofL 4 = 1 := by decide
theorem do_five : doL 5 3 2 = 7 := by decide
theorem union_one_two : unionL [1] [2] = [1, 2] := by decide
theorem two_new (w : World) (x y : Int) (t : TypeId) :
    IntsAt ((w.alloc (.cells #[.int .i64 x] t)).alloc (.cells #[.int .i64 y] t)).heap.size ((w.alloc (.cells #[.int .i64 x] t)).alloc (.cells #[.int .i64 y] t)) (some ⟨w.heap.size, 0, none⟩) [x] ∧
    IntsAt ((w.alloc (.cells #[.int .i64 x] t)).alloc (.cells #[.int .i64 y] t)).heap.size ((w.alloc (.cells #[.int .i64 x] t)).alloc (.cells #[.int .i64 y] t)) (some ⟨w.heap.size + 1, 0, none⟩) [y] := by
  refine ⟨Or.inr ⟨_, 0, rfl, by simp; omega, fun i hi => ?_⟩, Or.inr ⟨_, 0, rfl, by simp, fun i hi => ?_⟩⟩
  · obtain rfl : i = 0 := by simp at hi; exact hi
    simp
  · obtain rfl : i = 0 := by simp at hi; exact hi
    simp

set_option maxRecDepth 100000 in
set_option maxHeartbeats 400000 in
theorem keep_counts (w : World) : Calls Try.prog 33 #[] w fun e w' => e = .returned (.bool true) ∧ Below w.heap.size w w' := by
  go_enter Try.func33, Try.ntmps33
  go_wp2_with fail
  refine (shard_any _ _).mono ?_
  rintro e w' ⟨rfl, rfl⟩
  go_wp2_with fail
  refine (of_any _ _).mono ?_
  rintro e w0 ⟨rfl, hw0⟩
  subst hw0
  rw [of_four]
  go_wp2_with fail
  refine (do_any 5 3 0 2 _).mono ?_
  rintro e w1 ⟨rfl, hb1⟩
  rw [do_five]
  go_wp2_with fail
  obtain ⟨hx, hy⟩ := two_new w1 1 2 3
  refine (union_any _ 1 [1] _ 1 [2] _ (by decide) hx (by decide) hy).mono ?_
  rintro e w2 ⟨v, rfl, hown, hb2⟩
  rw [union_one_two] at hown
  obtain ⟨a, cap, rfl, _⟩ := IntsAt.of_owns hown
  have hb := hb1.trans ((((Below.refl _ w1).alloc (Nat.le_refl _) _).alloc (by simp) _).trans (hb2.mono (by simp; omega)) |>.mono hb1.size)
  clear hown hb1 hb2 hx hy
  go_wp2
  go_ret
  exact ⟨rfl, hb⟩

set_option maxRecDepth 100000 in
set_option maxHeartbeats 400000 in
theorem law_counts (w : World) : Calls Try.prog 27 #[] w fun e w' => e = .returned (.bool true) ∧ Below w.heap.size w w' := by
  go_enter Try.func27, Try.ntmps27
  go_wp2_with fail
  refine (shard_any _ _).mono ?_
  rintro e w' ⟨rfl, rfl⟩
  go_wp2_with fail
  refine (of_any _ _).mono ?_
  rintro e w0 ⟨rfl, hw0⟩
  subst hw0
  rw [of_four]
  go_wp2_with fail
  refine (do_any 5 3 0 2 _).mono ?_
  rintro e w1 ⟨rfl, hb1⟩
  rw [do_five]
  go_wp2_with fail
  obtain ⟨hx, hy⟩ := two_new w1 1 2 3
  refine (union_any _ 1 [1] _ 1 [2] _ (by decide) hx (by decide) hy).mono ?_
  rintro e w2 ⟨v, rfl, hown, hb2⟩
  rw [union_one_two] at hown
  obtain ⟨a, cap, rfl, _⟩ := IntsAt.of_owns hown
  have hb := hb1.trans ((((Below.refl _ w1).alloc (Nat.le_refl _) _).alloc (by simp) _).trans (hb2.mono (by simp; omega)) |>.mono hb1.size)
  clear hown hb1 hb2 hx hy
  go_wp2
  go_ret
  exact ⟨rfl, hb⟩

end Go.Proofs.Ytkoefoccbjhoiaa
