/-
  The contract of the statements' own 'frames'.
-/
import Derived.Test.YtkoefoccbjhoiaaLFrm
import Derived.Deep.Cut
set_option linter.unusedVariables false
set_option linter.unusedSimpArgs false
namespace Go.Proofs.Ytkoefoccbjhoiaa
open Go.RowKit
attribute [local go_sem ↓] Go.wp_at_zero Go.wp_at_succ

theorem known_frame' (w : World) : FrameV w (.agg #[.int .i64 4, .int .i64 2, .int .i64 7, .slice none 0 0, .slice none 0 0, .slice none 0 0, .slice none 0 0]) ⟨4, 2, 7, [], [], [], []⟩ :=
  ⟨none, 0, none, 0, none, 0, none, 0, rfl, ⟨Or.inl rfl, Nat.zero_le _, Nat.le_refl _, fun _ => ⟨rfl, rfl⟩⟩, ⟨Or.inl rfl, Nat.zero_le _, Nat.le_refl _, fun _ => ⟨rfl, rfl⟩⟩, ⟨Or.inl rfl, Nat.zero_le _, Nat.le_refl _, fun _ => ⟨rfl, rfl⟩⟩, ⟨Or.inl rfl, Nat.zero_le _, Nat.le_refl _, fun _ => ⟨rfl, rfl⟩⟩⟩
theorem known_good' : goodL ⟨4, 2, 7, [], [], [], []⟩ = 0 := by decide
theorem known_enc' : encE ⟨4, 2, 7, [], [], [], []⟩ = [4, 2, 7, 0, 0, 0] := by decide

set_option maxRecDepth 100000 in
set_option maxHeartbeats 400000 in
theorem law_frames_any (w : World) : Calls Try.prog 40 #[] w fun e w' => e = .returned (.bool true) ∧ Below w.heap.size w w' := by
  go_enter Try.func40, Try.ntmps40
  go_wp2_with fail
  refine (encode_any _ _ _ (known_frame' w)).mono ?_
  rintro e w1 ⟨rfl, hb⟩
  rw [known_good', known_enc']
  have hs : str [4, 2, 7, 0, 0, 0] = ⟨#[4, 2, 7, 0, 0, 0]⟩ := rfl
  rw [hs]
  go_wp2
  go_ret
  exact ⟨rfl, hb⟩

end Go.Proofs.Ytkoefoccbjhoiaa
