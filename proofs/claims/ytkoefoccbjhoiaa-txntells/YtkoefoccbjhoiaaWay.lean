/-
  The document's own answer of being in the way, and ours.
-/
import Derived.Test.YtkoefoccbjhoiaaRefSmall
set_option linter.unusedVariables false
set_option linter.unusedSimpArgs false
namespace Go.Proofs.Ytkoefoccbjhoiaa
open Go.RowKit

theorem way_conflict (a b : List OpL) (s : Int) : wayL a b s = conflictL a b s := by
  unfold wayL conflictL
  congr 1
  funext x
  unfold conflictB meetsL
  rw [Bool.eq_iff_iff, List.any_eq_true, Bool.and_eq_true, List.any_eq_true]
  unfold wayB meetB
  simp only [Bool.and_eq_true, beq_iff_eq, Bool.not_eq_true', Bool.or_eq_true, bne_iff_ne, ne_eq, Bool.and_eq_false_iff, beq_eq_false_iff_ne]
  constructor
  · rintro ⟨y, hy, ⟨h1, h2⟩, h3⟩
    exact ⟨h2, y, hy, h1, h3⟩
  · rintro ⟨h2, y, hy, h1, h3⟩
    exact ⟨y, hy, ⟨h1, h2⟩, h3⟩

end Go.Proofs.Ytkoefoccbjhoiaa
