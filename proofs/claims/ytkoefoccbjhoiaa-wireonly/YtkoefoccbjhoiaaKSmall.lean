/-
  The contract of the statements' own frames.
-/
import Derived.Test.YtkoefoccbjhoiaaKSmF
import Derived.Test.YtkoefoccbjhoiaaKPick
set_option linter.unusedVariables false
set_option linter.unusedSimpArgs false
namespace Go.Proofs.Ytkoefoccbjhoiaa
open Go.RowKit

def knownF : FrameL := ⟨4, 2, 7, [], [], [], []⟩
theorem known_good : goodL knownF = 0 := by decide
theorem known_enc : encE knownF = [4, 2, 7, 0, 0, 0] := by decide
theorem known_frame (w : World) : FrameV w (.agg #[.int .i64 4, .int .i64 2, .int .i64 7, .slice none 0 0, .slice none 0 0, .slice none 0 0, .slice none 0 0]) knownF :=
  ⟨none, 0, none, 0, none, 0, none, 0, rfl, ⟨Or.inl rfl, Nat.zero_le _, Nat.le_refl _, fun _ => ⟨rfl, rfl⟩⟩, ⟨Or.inl rfl, Nat.zero_le _, Nat.le_refl _, fun _ => ⟨rfl, rfl⟩⟩, ⟨Or.inl rfl, Nat.zero_le _, Nat.le_refl _, fun _ => ⟨rfl, rfl⟩⟩, ⟨Or.inl rfl, Nat.zero_le _, Nat.le_refl _, fun _ => ⟨rfl, rfl⟩⟩⟩
theorem str_list (l : List UInt8) : (str l).toList = l := by rw [Lib.toList_data]; rfl

set_option maxRecDepth 100000 in
set_option maxHeartbeats 400000 in
theorem keep_frames_any (w : World) : Calls Try.prog 44 #[] w fun e w' => e = .returned (.bool true) ∧ Below w.heap.size w w' := by
  go_enter Try.func44, Try.ntmps44
  go_wp2_with fail
  refine (encode_any _ _ _ (known_frame w)).mono ?_
  rintro e w1 ⟨rfl, hb⟩
  rw [known_good, known_enc]
  have hs : str [4, 2, 7, 0, 0, 0] = ⟨#[4, 2, 7, 0, 0, 0]⟩ := rfl
  rw [hs]
  go_wp2
  go_ret
  exact ⟨rfl, hb⟩

end Go.Proofs.Ytkoefoccbjhoiaa
