/-
  The walk of TxnUnions: it answers true at all lists and numbers, and writes nothing that was there.
-/
import Derived.Test.YtkoefoccbjhoiaaRising
import Derived.Test.YtkoefoccbjhoiaaKHas
import Derived.Test.YtkoefoccbjhoiaaOpen
import Derived.Test.YtkoefoccbjhoiaaCounts
set_option linter.unusedVariables false
set_option linter.unusedSimpArgs false
namespace Go.Proofs.Ytkoefoccbjhoiaa
open Go.RowKit

theorem has_iff (zs : List Int) (n : Int) : hasL zs n = true ↔ n ∈ zs := by
  unfold hasL eqB
  simp

theorem unionTo_mem (p : Nat → Bool) (k : Nat) (n : Int) : n ∈ unionTo p k ↔ ∃ i : Nat, i < k ∧ p i = true ∧ (i : Int) = n := by
  unfold unionTo
  simp [and_assoc]

theorem union_has (a b : List Int) (n : Int) (h0 : 0 ≤ n) (h1 : n < 32) : hasL (unionL a b) n = (hasL a n || hasL b n) := by
  rw [Bool.eq_iff_iff, has_iff, Bool.or_eq_true, has_iff, has_iff, unionL, unionTo_mem]
  constructor
  · rintro ⟨i, _, hp, rfl⟩
    simpa [unionB] using hp
  · intro h
    obtain ⟨i, rfl⟩ := Int.eq_ofNat_of_zero_le h0
    exact ⟨i, by omega, by simpa [unionB] using h, rfl⟩

theorem union_not (a b : List Int) (n : Int) (h : ¬ 0 ≤ n ∨ ¬ n < 32) : hasL (unionL a b) n = false := by
  rw [← Bool.not_eq_true, has_iff, unionL, unionTo_mem]
  rintro ⟨i, hi, _, rfl⟩
  omega

theorem rising_of (xs : List Nat) : ∀ (l : Int), (∀ x ∈ xs, l < (x : Int) ∧ x < 32) → xs.Pairwise (· < ·) → risingFrom l (xs.map Int.ofNat) = true := by
  induction xs with
  | nil => intros; rfl
  | cons x r ih =>
    intro l h hp
    have hx := h x (by simp)
    obtain ⟨h1, h2⟩ := List.pairwise_cons.1 hp
    rw [List.map_cons, risingFrom, ih (Int.ofNat x) (fun y hy => ⟨by have := h1 y hy; simp; omega, (h y (by simp [hy])).2⟩) h2]
    have e1 : decide (Int.ofNat x ≤ l) = false := by simp; omega
    have e2 : decide (32 ≤ Int.ofNat x) = false := by simp; omega
    rw [e1, e2]
    rfl

theorem union_rises (a b : List Int) : risingFrom (-1) (unionL a b) = true := by
  refine rising_of _ _ (fun x hx => ?_) (List.Pairwise.filter _ List.pairwise_lt_range)
  have := List.mem_range.1 (List.mem_filter.1 hx).1
  omega

theorem union_len (a b : List Int) : (unionL a b).length ≤ 32 := unionTo_len _ _

set_option maxRecDepth 100000 in
set_option maxHeartbeats 400000 in
/-- What stands behind 'in': the last statement. -/
theorem unions_walk (a : Option Addr) (cap : Nat) (zs : List Int) (a' : Option Addr) (cap' : Nat) (ys : List Int) (n : Int) (w : World) (hl : zs.length ≤ maxLen) (hz : IntsAt w.heap.size w a zs) (_ : ∀ x ∈ zs, Fits x) (hl' : ys.length ≤ maxLen) (hy : IntsAt w.heap.size w a' ys) (_ : ∀ x ∈ ys, Fits x) (_ : Fits n) :
    Calls Try.prog 6 #[.slice a zs.length cap, .slice a' ys.length cap', .int .i64 n] w fun e w' => e = .returned (.bool true) ∧ Below w.heap.size w w' := by
  go_enter Try.func6, Try.ntmps6
  go_wp2_with fail
  refine (union_any _ _ _ _ _ _ _ hl hz hl' hy).mono ?_
  rintro e w1 ⟨v, rfl, hown, hb1⟩
  obtain ⟨au, cu, rfl, hu⟩ := IntsAt.of_owns hown
  have hul : (unionL zs ys).length ≤ maxLen := by have := union_len zs ys; unfold maxLen; omega
  have hr : Hid (risingFrom (-1) (unionL zs ys) = true) := union_rises zs ys
  clear hown
  have hz1 : IntsAt w1.heap.size w1 a zs := (hz.later hb1).mono hb1.size
  have hy1 : IntsAt w1.heap.size w1 a' ys := (hy.later hb1).mono hb1.size
  by_cases h0 : 0 ≤ n
  · by_cases h1 : n < 32
    · have hh : Hid (hasL (unionL zs ys) n = (hasL zs n || hasL ys n)) := union_has zs ys n h0 h1
      go_wp2_with fail
      refine (keep_has _ _ _ _ _ hl hz1).mono ?_
      rintro e w2 ⟨rfl, hw⟩
      subst hw
      cases ta : hasL zs n
      · go_wp2_with fail
        refine (keep_has _ _ _ _ _ hl' hy1).mono ?_
        rintro e w2 ⟨rfl, hw⟩
        subst hw
        go_wp2_with fail
        refine (rising_any _ _ _ _ hul hu).mono ?_
        rintro e w2 ⟨rfl, hw⟩
        subst hw
        rw [hr.out]
        go_wp2_with fail
        refine (keep_has _ _ _ _ _ hul hu).mono ?_
        rintro e w2 ⟨rfl, hw⟩
        subst hw
        rw [hh.out, ta, Bool.false_or]
        have heq : (hasL ys n == hasL ys n) = true := by simp
        go_wp2_with fail
        refine (keep_counts _).mono ?_
        rintro e w3 ⟨rfl, hb4⟩
        have hb5 := hb1.trans (hb4.mono hb1.size)
        clear hb4 hb1
        go_wp2
        go_ret
        exact ⟨rfl, hb5⟩
      · go_wp2_with fail
        refine (rising_any _ _ _ _ hul hu).mono ?_
        rintro e w2 ⟨rfl, hw⟩
        subst hw
        rw [hr.out]
        go_wp2_with fail
        refine (keep_has _ _ _ _ _ hul hu).mono ?_
        rintro e w2 ⟨rfl, hw⟩
        subst hw
        rw [hh.out, ta, Bool.true_or]
        go_wp2_with fail
        refine (keep_counts _).mono ?_
        rintro e w3 ⟨rfl, hb4⟩
        have hb5 := hb1.trans (hb4.mono hb1.size)
        clear hb4 hb1
        go_wp2
        go_ret
        exact ⟨rfl, hb5⟩
    · have hh : Hid (hasL (unionL zs ys) n = false) := union_not zs ys n (Or.inr h1)
      go_wp2_with fail
      refine (rising_any _ _ _ _ hul hu).mono ?_
      rintro e w2 ⟨rfl, hw⟩
      subst hw
      rw [hr.out]
      go_wp2_with fail
      refine (keep_has _ _ _ _ _ hul hu).mono ?_
      rintro e w2 ⟨rfl, hw⟩
      subst hw
      rw [hh.out]
      go_wp2_with fail
      refine (keep_counts _).mono ?_
      rintro e w3 ⟨rfl, hb4⟩
      have hb5 := hb1.trans (hb4.mono hb1.size)
      clear hb4 hb1
      go_wp2
      go_ret
      exact ⟨rfl, hb5⟩
  · have hh : Hid (hasL (unionL zs ys) n = false) := union_not zs ys n (Or.inl h0)
    go_wp2_with fail
    refine (rising_any _ _ _ _ hul hu).mono ?_
    rintro e w2 ⟨rfl, hw⟩
    subst hw
    rw [hr.out]
    go_wp2_with fail
    refine (keep_has _ _ _ _ _ hul hu).mono ?_
    rintro e w2 ⟨rfl, hw⟩
    subst hw
    rw [hh.out]
    go_wp2_with fail
    refine (keep_counts _).mono ?_
    rintro e w3 ⟨rfl, hb4⟩
    have hb5 := hb1.trans (hb4.mono hb1.size)
    clear hb4 hb1
    go_wp2
    go_ret
    exact ⟨rfl, hb5⟩

end Go.Proofs.Ytkoefoccbjhoiaa
