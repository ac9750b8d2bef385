/-
  Plain mathematics: being in the way goes both ways, and only where both touch the shard.
-/
import Derived.Test.YtkoefoccbjhoiaaOps
set_option linter.unusedVariables false
set_option linter.unusedSimpArgs false
namespace Go.Proofs.Ytkoefoccbjhoiaa
open Go.RowKit

theorem meetB_comm (o p : OpL) : meetB o p = meetB p o := by
  unfold meetB
  rw [Bool.or_comm (o.1 != 1)]
  have : (o.2.1 == p.2.1) = (p.2.1 == o.2.1) := by
    rw [Bool.eq_iff_iff, beq_iff_eq, beq_iff_eq]
    exact eq_comm
  rw [this]

theorem conflict_iff (a b : List OpL) (s : Int) : conflictL a b s = true ↔ ∃ o ∈ a, ∃ p ∈ b, o.2.1 % 2 = s ∧ meetB o p = true := by
  simp only [conflictL, conflictB, meetsL, List.any_eq_true, Bool.and_eq_true, beq_iff_eq]
  constructor
  · rintro ⟨o, ho, hs, p, hp, hm⟩
    exact ⟨o, ho, p, hp, hs, hm⟩
  · rintro ⟨o, ho, p, hp, hs, hm⟩
    exact ⟨o, ho, hs, p, hp, hm⟩

theorem meet_key {o p : OpL} (h : meetB o p = true) : o.2.1 = p.2.1 := by
  unfold meetB at h
  simp at h
  exact h.1

theorem conflict_comm (a b : List OpL) (s : Int) : conflictL a b s = conflictL b a s := by
  rw [Bool.eq_iff_iff, conflict_iff, conflict_iff]
  constructor
  · rintro ⟨o, ho, p, hp, hs, hm⟩
    exact ⟨p, hp, o, ho, by rw [← meet_key hm]; exact hs, by rw [meetB_comm]; exact hm⟩
  · rintro ⟨o, ho, p, hp, hs, hm⟩
    exact ⟨p, hp, o, ho, by rw [← meet_key hm]; exact hs, by rw [meetB_comm]; exact hm⟩

theorem conflict_touches {a b : List OpL} {s : Int} (h : conflictL a b s = true) : touchesL a s = true ∧ touchesL b s = true := by
  obtain ⟨o, ho, p, hp, hs, hm⟩ := (conflict_iff a b s).1 h
  constructor
  · exact List.any_eq_true.2 ⟨o, ho, by simp [touchB, hs]⟩
  · exact List.any_eq_true.2 ⟨p, hp, by simp [touchB, ← meet_key hm, hs]⟩

end Go.Proofs.Ytkoefoccbjhoiaa
