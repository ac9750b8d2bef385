/-
  Plain facts on lists, of our own: what a loop has seen of a list so far.
-/
import Derived.WalkKit
set_option linter.unusedVariables false
set_option linter.unusedSimpArgs false
namespace Go.Proofs.Ytkoefoccbjhoiaa
open Go.RowKit

theorem any_step {α : Type} {p : α → Bool} {zs : List α} {k : Nat} {d x : α} (hk : k < zs.length) (hx : zs.getD k d = x) (hno : (zs.take k).any p = false) (hp : p x = false) : (zs.take (k + 1)).any p = false := by
  rw [List.take_succ_eq_append_getElem hk, List.any_append, hno]
  have : zs[k] = x := by rw [← hx]; simp [List.getD, hk]
  simp [this, hp]

theorem any_hit {α : Type} {p : α → Bool} {zs : List α} {k : Nat} {d x : α} (hk : k < zs.length) (hx : zs.getD k d = x) (hp : p x = true) : zs.any p = true := by
  have : zs[k] = x := by rw [← hx]; simp [List.getD, hk]
  exact List.any_eq_true.2 ⟨x, this ▸ List.getElem_mem hk, hp⟩

theorem any_end {α : Type} {p : α → Bool} {zs : List α} {k : Nat} (hk : ¬ k < zs.length) (hno : (zs.take k).any p = false) : zs.any p = false := by
  rwa [List.take_of_length_le (by omega)] at hno

theorem all_step {α : Type} {p : α → Bool} {zs : List α} {k : Nat} {d x : α} (hk : k < zs.length) (hx : zs.getD k d = x) (hno : (zs.take k).all p = true) (hp : p x = true) : (zs.take (k + 1)).all p = true := by
  rw [List.take_succ_eq_append_getElem hk, List.all_append, hno]
  have : zs[k] = x := by rw [← hx]; simp [List.getD, hk]
  simp [this, hp]

theorem all_miss {α : Type} {p : α → Bool} {zs : List α} {k : Nat} {d x : α} (hk : k < zs.length) (hx : zs.getD k d = x) (hp : p x = false) : zs.all p = false := by
  have : zs[k] = x := by rw [← hx]; simp [List.getD, hk]
  exact List.all_eq_false.2 ⟨x, this ▸ List.getElem_mem hk, by simp [hp]⟩

theorem all_end {α : Type} {p : α → Bool} {zs : List α} {k : Nat} (hk : ¬ k < zs.length) (hno : (zs.take k).all p = true) : zs.all p = true := by
  rwa [List.take_of_length_le (by omega)] at hno

end Go.Proofs.Ytkoefoccbjhoiaa
