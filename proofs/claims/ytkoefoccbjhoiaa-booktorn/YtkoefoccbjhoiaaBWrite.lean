/-
  The contracts of package book's mayBeLong, Write and Tear.
-/
import Derived.Test.YtkoefoccbjhoiaaBookL
import Derived.Test.YtkoefoccbjhoiaaRSix
set_option linter.unusedVariables false
set_option linter.unusedSimpArgs false
namespace Go.Proofs.Ytkoefoccbjhoiaa
open Go.RowKit

theorem str_take0 (l : List UInt8) (p : Nat) : (str l).extract 0 p = str (l.take p) := by
  apply ByteArray.ext
  apply Array.toList_inj.1
  rw [Lib.extract_data]
  simp [str]

set_option maxRecDepth 100000 in
set_option maxHeartbeats 400000 in
theorem mayBe_any (n : Int) (w : World) :
    Calls Try.prog 82 #[.int .i64 n] w fun e w' => e = .returned (.bool (decide (0 < n ∧ n ≤ 400))) ∧ w' = w := by
  by_cases h : 0 < n ∧ n ≤ 400
  · have E : Hid (decide (0 < n ∧ n ≤ 400) = true) := by unfold Hid; simpa using h
    obtain ⟨h0, h1⟩ := h
    go_enter Try.func82, Try.ntmps82
    go_wp2
    go_ret
    exact ⟨ret_bool E.out.symm, rfl⟩
  · have E : Hid (decide (0 < n ∧ n ≤ 400) = false) := by unfold Hid; simpa using h
    by_cases h0 : 0 < n
    · have h1 : ¬ n ≤ 400 := fun h1 => h ⟨h0, h1⟩
      clear h
      go_enter Try.func82, Try.ntmps82
      go_wp2
      go_ret
      exact ⟨ret_bool (by simp [h1]), rfl⟩
    · clear h
      go_enter Try.func82, Try.ntmps82
      go_wp2
      go_ret
      exact ⟨ret_bool (by simp; omega), rfl⟩

set_option maxRecDepth 100000 in
set_option maxHeartbeats 1000000 in
theorem write_any (l s : List UInt8) (w : World) (hl : l.length ≤ maxLen) (hs : s.length ≤ maxLen) :
    Calls Try.prog 47 #[.string (str l), .string (str s)] w fun e w' => e = .returned (.tuple #[.string (str (wOut l s)), .int .i64 (wErr l s)]) ∧ Below w.heap.size w w' := by
  unfold maxLen at hl hs
  have z1 := str_size l
  have z2 := str_size s
  by_cases h1 : 65536 < l.length
  · have E : Hid (wErr l s = 2) := by unfold Hid wErr; rw [if_pos h1]
    have F : Hid (wOut l s = l) := by unfold Hid wOut; rw [E.out]; rfl
    go_enter Try.func47, Try.ntmps47
    go_wp2_with fail
    go_ret2
    exact ⟨by rw [E.out, F.out]; rfl, Below.refl _ _⟩
  · by_cases h2 : 0 < s.length ∧ s.length ≤ 400
    · have t2 : Hid (decide (0 < (s.length : Int) ∧ (s.length : Int) ≤ 400) = true) := by unfold Hid; simp; omega
      by_cases h3 : 65536 < l.length + s.length + 2
      · have E : Hid (wErr l s = 5) := by unfold Hid wErr; rw [if_neg h1, if_neg (by omega), if_pos h3]
        have F : Hid (wOut l s = l) := by unfold Hid wOut; rw [E.out]; rfl
        obtain ⟨h20, h21⟩ := h2
        go_enter Try.func47, Try.ntmps47
        go_wp2_with fail
        refine (mayBe_any _ _).mono ?_
        rintro e w1 ⟨rfl, rfl⟩
        rw [t2.out]
        go_wp2_with fail
        go_ret2
        exact ⟨by rw [E.out, F.out]; rfl, Below.refl _ _⟩
      · have E : Hid (wErr l s = 0) := by unfold Hid wErr; rw [if_neg h1, if_neg (by omega), if_neg h3]
        have F : Hid (wOut l s = l ++ rc s) := by unfold Hid wOut; rw [E.out]; rfl
        obtain ⟨h20, h21⟩ := h2
        have hown := World.ownsRow_lit (base := w.heap.size) (e := 5) (size := 1) w #[.int .u8 ((s.length : Int) / 256), .int .u8 ((s.length : Int) % 256)] 2 (Nat.le_refl _) (by decide) rfl
        have e1 : byCells (hd s) = [.int .u8 ((s.length : Int) / 256), .int .u8 ((s.length : Int) % 256)] := by simp [byCells, hd, byt_nat (n := (s.length : Int) / 256) (by omega) (by omega), byt_nat (n := (s.length : Int) % 256) (by omega) (by omega)]
        have hown' : (w.alloc (.cells #[.int .u8 ((s.length : Int) / 256), .int .u8 ((s.length : Int) % 256)] 5)).ownsRow w.heap.size 5 1 (.slice (some ⟨w.heap.size, 0, none⟩) 2 2) 2 (byCells (hd s)) := by rw [e1]; exact hown
        have hcv := conv_bytes hown'
        have z3 := str_size (hd s)
        have z4 : (hd s).length = 2 := rfl
        have c1 := str_cat l (hd s)
        have c2 := str_cat (l ++ hd s) s
        have z5 := str_size (l ++ hd s)
        have z6 : (l ++ hd s).length = l.length + 2 := by simp [z4]
        rw [z4] at z3
        rw [z6] at z5
        clear hown hown' e1 z4 z6
        go_enter Try.func47, Try.ntmps47
        go_wp2_with fail
        refine (mayBe_any _ _).mono ?_
        rintro e w1 ⟨rfl, rfl⟩
        rw [t2.out]
        go_wp2_with fail
        go_ret2
        exact ⟨by rw [E.out, F.out]; rfl, (Below.refl _ _).alloc (Nat.le_refl _) _⟩
    · have t2 : Hid (decide (0 < (s.length : Int) ∧ (s.length : Int) ≤ 400) = false) := by unfold Hid; simp; omega
      have E : Hid (wErr l s = 1) := by unfold Hid wErr; rw [if_neg h1, if_pos (by omega)]
      have F : Hid (wOut l s = l) := by unfold Hid wOut; rw [E.out]; rfl
      clear h2
      go_enter Try.func47, Try.ntmps47
      go_wp2_with fail
      refine (mayBe_any _ _).mono ?_
      rintro e w1 ⟨rfl, rfl⟩
      rw [t2.out]
      go_wp2_with fail
      go_ret2
      exact ⟨by rw [E.out, F.out]; rfl, Below.refl _ _⟩

theorem tear_cut {l s : List UInt8} {n : Int} {x : Nat} (h : (x : Int) = l.length + min (max n 0) (s.length + 2 : Nat)) : Ending.returned (.string ((str (l ++ rc s)).extract 0 x)) = .returned (.string (str (l ++ (rc s).take n.toNat))) := by
  have e := rc_len s
  rw [str_take0, List.take_append, List.take_of_length_le (by omega)]
  by_cases h1 : n < (s.length + 2 : Nat)
  · rw [show x - l.length = n.toNat by omega]
  · rw [List.take_of_length_le (by omega), List.take_of_length_le (by omega)]
theorem tear_none {l : List UInt8} {x : Nat} (h : (x : Int) = l.length) : Ending.returned (.string ((str l).extract 0 x)) = .returned (.string (str l)) := by
  rw [str_take0, List.take_of_length_le (by omega)]

set_option maxRecDepth 100000 in
set_option maxHeartbeats 1000000 in
theorem tear_any (l s : List UInt8) (n : Int) (w : World) (hl : l.length ≤ maxLen) (hs : s.length ≤ maxLen) :
    Calls Try.prog 49 #[.string (str l), .string (str s), .int .i64 n] w fun e w' => e = .returned (.string (str (tearL l s n))) ∧ Below w.heap.size w w' := by
  have hl' := hl
  have hs' := hs
  unfold maxLen at hl' hs'
  have z1 := str_size l
  by_cases h0 : wErr l s = 0
  · have F : Hid (wOut l s = l ++ rc s) := by unfold Hid wOut; rw [if_pos h0]
    have G : Hid (tearL l s n = l ++ (rc s).take n.toNat) := by unfold Hid tearL; rw [if_pos h0]
    obtain ⟨k1, k2, k3⟩ := wErr_ok h0
    have z2 := str_size (l ++ rc s)
    have z3 : (l ++ rc s).length = l.length + s.length + 2 := by simp [rc_len]; omega
    rw [z3] at z2
    clear z3
    go_enter Try.func49, Try.ntmps49
    go_wp2_with fail
    refine (write_any l s _ hl hs).mono ?_
    rintro e w1 ⟨rfl, hb⟩
    rw [F.out]
    clear F
    go_wp2_with fail
    all_goals go_ret
    all_goals rw [G.out]
    all_goals refine ⟨?_, hb⟩
    all_goals refine Eq.trans (b := .returned (.string ((str (l ++ rc s)).extract 0 _))) rfl (tear_cut ?_)
    all_goals omega
  · have F : Hid (wOut l s = l) := by unfold Hid wOut; rw [if_neg h0]
    have G : Hid (tearL l s n = l) := by unfold Hid tearL; rw [if_neg h0]
    go_enter Try.func49, Try.ntmps49
    go_wp2_with fail
    refine (write_any l s _ hl hs).mono ?_
    rintro e w1 ⟨rfl, hb⟩
    rw [F.out]
    clear F
    go_wp2_with fail
    all_goals go_ret
    all_goals rw [G.out]
    all_goals refine ⟨?_, hb⟩
    all_goals refine Eq.trans (b := .returned (.string ((str l).extract 0 _))) rfl (tear_none ?_)
    all_goals omega

end Go.Proofs.Ytkoefoccbjhoiaa
