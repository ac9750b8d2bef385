/-
  The contract of package book's first.
-/
import Derived.Test.YtkoefoccbjhoiaaBWrite
import Derived.Deep.RegionHeld3
import Derived.Deep.DrawnRows
set_option linter.unusedVariables false
set_option linter.unusedSimpArgs false
namespace Go.Proofs.Ytkoefoccbjhoiaa
open Go.RowKit

theorem str_cut2 (a b : UInt8) (t : List UInt8) : (str (a :: b :: t)).extract 2 (t.length + 1 + 1) = str t := by
  apply ByteArray.ext
  apply Array.toList_inj.1
  rw [Lib.extract_data]
  simp [str]
theorem or_bytes (a b : UInt8) : bits .or .i64 ((a.toNat : Int) * 256) (b.toNat : Int) = (a.toNat : Int) * 256 + b.toNat := by
  have := a.toNat_lt
  have := b.toNat_lt
  exact or_byte (by omega) (by omega) (by omega) (by omega)

set_option maxRecDepth 100000 in
set_option maxHeartbeats 400000 in
theorem first_short {l : List UInt8} (w : World) (h : l.length < 2) :
    Calls Try.prog 83 #[.string (str l)] w fun e w' => e = .returned (.tuple #[.string (str []), .bool false]) ∧ Below w.heap.size w w' := by
  have z := str_size l
  go_enter Try.func83, Try.ntmps83
  go_wp2_with fail
  go_ret2
  exact ⟨rfl, Below.refl _ _⟩

set_option maxRecDepth 100000 in
set_option maxHeartbeats 1000000 in
theorem first_yes {a b : UInt8} {t : List UInt8} (w : World) (hl : t.length + 2 ≤ maxLen) (h0 : 0 < a.toNat * 256 + b.toNat) (h1 : a.toNat * 256 + b.toNat ≤ 400) (h2 : a.toNat * 256 + b.toNat ≤ t.length) :
    Calls Try.prog 83 #[.string (str (a :: b :: t))] w fun e w' => e = .returned (.tuple #[.string (str (t.take (a.toNat * 256 + b.toNat))), .bool true]) ∧ Below w.heap.size w w' := by
  unfold maxLen at hl
  have z := str_size (a :: b :: t)
  have z2 := str_size t
  have ho := or_bytes a b
  have hc := str_cut2 a b t
  have ht := str_take0 t (a.toNat * 256 + b.toNat)
  have ta := a.toNat_lt
  have tb := b.toNat_lt
  simp only [List.length_cons] at z
  have tt : decide (0 < (a.toNat : Int) * 256 + b.toNat ∧ (a.toNat : Int) * 256 + b.toNat ≤ 400) = true := by simp; omega
  have n0 : (0 : Int) < (t.length : Int) + 1 + 1 := by omega
  have n1 : (1 : Int) < (t.length : Int) + 1 + 1 := by omega
  have n2 : (2 : Int) ≤ (t.length : Int) + 1 + 1 := by omega
  have n3 : ¬ (t.length : Int) + 1 + 1 < 2 := by omega
  have x0 : ∀ h : 0 < (str (a :: b :: t)).size, ((str (a :: b :: t))[0]'h) = a := fun _ => rfl
  have x1 : ∀ h : 1 < (str (a :: b :: t)).size, ((str (a :: b :: t))[1]'h) = b := fun _ => rfl
  have w0 : IntKind.i64.wrap (a.toNat : Int) = a.toNat := wraps_i64 _ (by omega) (by omega)
  have w1 : IntKind.i64.wrap (b.toNat : Int) = b.toNat := wraps_i64 _ (by omega) (by omega)
  have w2 : IntKind.i64.wrap ((a.toNat : Int) * 256) = (a.toNat : Int) * 256 := wraps_i64 _ (by omega) (by omega)
  go_enter Try.func83, Try.ntmps83
  go_wp2_with fail
  go_region
  all_goals
    go_wp2_with fail
    refine (mayBe_any _ _).mono ?_
    rintro e w3 ⟨rfl, rfl⟩
    rw [tt]
    go_wp2_with fail
    go_ret2
    exact ⟨by rw [← ht]; rfl, below_drewN (Below.refl _ _) 1⟩

set_option maxRecDepth 100000 in
set_option maxHeartbeats 1000000 in
theorem first_no {a b : UInt8} {t : List UInt8} (w : World) (hl : t.length + 2 ≤ maxLen) (h : a.toNat * 256 + b.toNat = 0 ∨ 400 < a.toNat * 256 + b.toNat ∨ t.length < a.toNat * 256 + b.toNat) :
    Calls Try.prog 83 #[.string (str (a :: b :: t))] w fun e w' => e = .returned (.tuple #[.string (str []), .bool false]) ∧ Below w.heap.size w w' := by
  unfold maxLen at hl
  have z := str_size (a :: b :: t)
  have z2 := str_size t
  have ho := or_bytes a b
  have hc := str_cut2 a b t
  have ta := a.toNat_lt
  have tb := b.toNat_lt
  simp only [List.length_cons] at z
  have n0 : (0 : Int) < (t.length : Int) + 1 + 1 := by omega
  have n1 : (1 : Int) < (t.length : Int) + 1 + 1 := by omega
  have n2 : (2 : Int) ≤ (t.length : Int) + 1 + 1 := by omega
  have n3 : ¬ (t.length : Int) + 1 + 1 < 2 := by omega
  have x0 : ∀ h : 0 < (str (a :: b :: t)).size, ((str (a :: b :: t))[0]'h) = a := fun _ => rfl
  have x1 : ∀ h : 1 < (str (a :: b :: t)).size, ((str (a :: b :: t))[1]'h) = b := fun _ => rfl
  have w0 : IntKind.i64.wrap (a.toNat : Int) = a.toNat := wraps_i64 _ (by omega) (by omega)
  have w1 : IntKind.i64.wrap (b.toNat : Int) = b.toNat := wraps_i64 _ (by omega) (by omega)
  have w2 : IntKind.i64.wrap ((a.toNat : Int) * 256) = (a.toNat : Int) * 256 := wraps_i64 _ (by omega) (by omega)
  by_cases h0 : 0 < a.toNat * 256 + b.toNat ∧ a.toNat * 256 + b.toNat ≤ 400
  · have tt : decide (0 < (a.toNat : Int) * 256 + b.toNat ∧ (a.toNat : Int) * 256 + b.toNat ≤ 400) = true := by simp; omega
    have h2 : t.length < a.toNat * 256 + b.toNat := by omega
    clear h h0
    go_enter Try.func83, Try.ntmps83
    go_wp2_with fail
    go_region
    all_goals
      go_wp2_with fail
      refine (mayBe_any _ _).mono ?_
      rintro e w3 ⟨rfl, rfl⟩
      rw [tt]
      go_wp2_with fail
      go_ret2
      exact ⟨rfl, below_drewN (Below.refl _ _) 1⟩
  · have tt : decide (0 < (a.toNat : Int) * 256 + b.toNat ∧ (a.toNat : Int) * 256 + b.toNat ≤ 400) = false := by simp; omega
    clear h h0
    go_enter Try.func83, Try.ntmps83
    go_wp2_with fail
    go_region
    all_goals
      go_wp2_with fail
      refine (mayBe_any _ _).mono ?_
      rintro e w3 ⟨rfl, rfl⟩
      rw [tt]
      go_wp2_with fail
      go_ret2
      exact ⟨rfl, below_drewN (Below.refl _ _) 1⟩

theorem first_none {l : List UInt8} (w : World) (hl : l.length ≤ maxLen) (h : NoRec l) :
    Calls Try.prog 83 #[.string (str l)] w fun e w' => e = .returned (.tuple #[.string (str []), .bool false]) ∧ Below w.heap.size w w' := by
  match l, hl, h with
  | [], _, _ => exact first_short w (by simp)
  | [a], _, _ => exact first_short w (by simp)
  | a :: b :: t, hl, h => exact first_no w (by simpa using hl) (no_two h)

theorem first_some {s t : List UInt8} (w : World) (hl : (rc s ++ t).length ≤ maxLen) (hs : RecOk s) :
    Calls Try.prog 83 #[.string (str (rc s ++ t))] w fun e w' => e = .returned (.tuple #[.string (str s), .bool true]) ∧ Below w.heap.size w w' := by
  obtain ⟨a, b, e, he⟩ := hd_get s hs.2
  have e2 : rc s ++ t = a :: b :: (s ++ t) := by unfold rc; rw [e]; simp
  obtain ⟨k1, k2⟩ := hs
  have := first_yes (a := a) (b := b) (t := s ++ t) w (by rw [e2] at hl; simpa using hl) (by omega) (by omega) (by simp; omega)
  rw [← he, List.take_left] at this
  rw [e2]
  exact this

end Go.Proofs.Ytkoefoccbjhoiaa
