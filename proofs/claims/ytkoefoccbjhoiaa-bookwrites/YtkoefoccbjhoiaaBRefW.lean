/-
  The contracts of the document's own WriteLog and TearLog.
-/
import Derived.Test.YtkoefoccbjhoiaaBWrite
set_option linter.unusedVariables false
set_option linter.unusedSimpArgs false
namespace Go.Proofs.Ytkoefoccbjhoiaa
open Go.RowKit

set_option maxRecDepth 100000 in
set_option maxHeartbeats 1000000 in
theorem writeLog_any (l s : List UInt8) (w : World) (hl : l.length ≤ maxLen) (hs : s.length ≤ maxLen) :
    Calls Try.prog 48 #[.string (str l), .string (str s)] w fun e w' => e = .returned (.tuple #[.string (str (wOut l s)), .int .i64 (wErr l s)]) ∧ Below w.heap.size w w' := by
  unfold maxLen at hl hs
  have z1 := str_size l
  have z2 := str_size s
  have e0 := str_empty s
  by_cases h1 : 65536 < l.length
  · have E : Hid (wErr l s = 2) := by unfold Hid wErr; rw [if_pos h1]
    have F : Hid (wOut l s = l) := by unfold Hid wOut; rw [E.out]; rfl
    go_enter Try.func48, Try.ntmps48
    go_wp2_with fail
    go_ret2
    exact ⟨by rw [E.out, F.out]; rfl, Below.refl _ _⟩
  · by_cases h0 : s.length = 0
    · have E : Hid (wErr l s = 1) := by unfold Hid wErr; rw [if_neg h1, if_pos (by omega)]
      have F : Hid (wOut l s = l) := by unfold Hid wOut; rw [E.out]; rfl
      have e1 : s.isEmpty = true := by cases s with | nil => rfl | cons => simp at h0
      rw [e1] at e0
      clear e1
      go_enter Try.func48, Try.ntmps48
      go_wp2_with fail
      go_ret2
      exact ⟨by rw [E.out, F.out]; rfl, Below.refl _ _⟩
    · have e1 : s.isEmpty = false := by cases s with | nil => simp at h0 | cons => rfl
      rw [e1] at e0
      clear e1
      by_cases h2 : 400 < s.length
      · have E : Hid (wErr l s = 1) := by unfold Hid wErr; rw [if_neg h1, if_pos (by omega)]
        have F : Hid (wOut l s = l) := by unfold Hid wOut; rw [E.out]; rfl
        go_enter Try.func48, Try.ntmps48
        go_wp2_with fail
        go_ret2
        exact ⟨by rw [E.out, F.out]; rfl, Below.refl _ _⟩
      · by_cases h3 : 65536 < l.length + s.length + 2
        · have E : Hid (wErr l s = 5) := by unfold Hid wErr; rw [if_neg h1, if_neg (by omega), if_pos h3]
          have F : Hid (wOut l s = l) := by unfold Hid wOut; rw [E.out]; rfl
          go_enter Try.func48, Try.ntmps48
          go_wp2_with fail
          go_ret2
          exact ⟨by rw [E.out, F.out]; rfl, Below.refl _ _⟩
        · have E : Hid (wErr l s = 0) := by unfold Hid wErr; rw [if_neg h1, if_neg (by omega), if_neg h3]
          have F : Hid (wOut l s = l ++ [byt ((s.length : Int) / 256)] ++ [byt ((s.length : Int) % 256)] ++ s) := by unfold Hid wOut; rw [E.out]; simp [rc, hd]
          have em : (s.length : Int).tmod 256 = (s.length : Int) % 256 := Int.tmod_eq_emod_of_nonneg (by omega)
          have ed : (s.length : Int).tdiv 256 = (s.length : Int) / 256 := Int.tdiv_eq_ediv_of_nonneg (by omega)
          go_enter Try.func48, Try.ntmps48
          go_wp2_with fail
          refine (byteOf_any ((s.length : Int) / 256) _ (by omega) (by omega)).mono ?_
          rintro e w1 ⟨rfl, hb1⟩
          have c1 := str_cat l [byt ((s.length : Int) / 256)]
          have z3 := str_size [byt ((s.length : Int) / 256)]
          have z4 := str_size (l ++ [byt ((s.length : Int) / 256)])
          simp only [List.length_append, List.length_cons, List.length_nil] at z3 z4
          go_wp2_with fail
          refine (byteOf_any ((s.length : Int) % 256) _ (by omega) (by omega)).mono ?_
          rintro e w2 ⟨rfl, hc⟩
          have hb2 := hb1.trans (hc.mono hb1.size)
          have c2 : str (l ++ [byt ((s.length : Int) / 256)]) ++ str [byt ((s.length : Int) % 256)] = str (l ++ [byt ((s.length : Int) / 256), byt ((s.length : Int) % 256)]) := by rw [str_cat]; simp
          have z5 := str_size [byt ((s.length : Int) % 256)]
          have z6 := str_size (l ++ [byt ((s.length : Int) / 256), byt ((s.length : Int) % 256)])
          have c3 : str (l ++ [byt ((s.length : Int) / 256), byt ((s.length : Int) % 256)]) ++ str s = str (l ++ byt ((s.length : Int) / 256) :: byt ((s.length : Int) % 256) :: s) := by rw [str_cat]; simp
          simp only [List.length_append, List.length_cons, List.length_nil] at z5 z6
          clear hc hb1
          go_wp2_with fail
          go_ret2
          exact ⟨by rw [E.out, F.out]; simp, hb2⟩

set_option maxRecDepth 100000 in
set_option maxHeartbeats 1000000 in
theorem tearLog_any (l s : List UInt8) (n : Int) (w : World) (hl : l.length ≤ maxLen) (hs : s.length ≤ maxLen) :
    Calls Try.prog 50 #[.string (str l), .string (str s), .int .i64 n] w fun e w' => e = .returned (.string (str (tearL l s n))) ∧ Below w.heap.size w w' := by
  have hl' := hl
  have hs' := hs
  unfold maxLen at hl' hs'
  have z1 := str_size l
  by_cases h0 : wErr l s = 0
  · have F : Hid (wOut l s = l ++ rc s) := by unfold Hid wOut; rw [if_pos h0]
    have G : Hid (tearL l s n = l ++ (rc s).take n.toNat) := by unfold Hid tearL; rw [if_pos h0]
    obtain ⟨k1, k2, k3⟩ := wErr_ok h0
    obtain ⟨k4, k5⟩ := k2
    have z2 := str_size (l ++ rc s)
    have z3 : (l ++ rc s).length = l.length + s.length + 2 := by simp [rc_len]; omega
    rw [z3] at z2
    have R := rc_len s
    have H0 : Hid (wErr l s = 0) := h0
    clear z3 h0
    by_cases h1 : n ≤ 0
    · have G2 : Hid (l ++ (rc s).take n.toNat = l) := by unfold Hid; rw [show n.toNat = 0 by omega]; simp
      go_enter Try.func50, Try.ntmps50
      go_wp2_with fail
      refine (writeLog_any l s _ hl hs).mono ?_
      rintro e w1 ⟨rfl, hb⟩
      rw [F.out, H0.out]
      go_wp2_with fail
      go_ret
      exact ⟨by rw [G.out, G2.out]; rfl, hb⟩
    · by_cases h2 : n ≤ s.length + 2
      · go_enter Try.func50, Try.ntmps50
        go_wp2_with fail
        refine (writeLog_any l s _ hl hs).mono ?_
        rintro e w1 ⟨rfl, hb⟩
        rw [F.out, H0.out]
        go_wp2_with fail
        go_ret
        refine ⟨?_, hb⟩
        rw [G.out]
        refine Eq.trans (b := .returned (.string ((str (l ++ rc s)).extract 0 _))) rfl (tear_cut ?_)
        omega
      · have G2 : Hid (l ++ (rc s).take n.toNat = l ++ rc s) := by unfold Hid; rw [List.take_of_length_le (by omega)]
        by_cases h3 : 402 < n
        · go_enter Try.func50, Try.ntmps50
          go_wp2_with fail
          refine (writeLog_any l s _ hl hs).mono ?_
          rintro e w1 ⟨rfl, hb⟩
          rw [F.out, H0.out]
          go_wp2_with fail
          go_ret
          exact ⟨by rw [G.out, G2.out]; rfl, hb⟩
        · go_enter Try.func50, Try.ntmps50
          go_wp2_with fail
          refine (writeLog_any l s _ hl hs).mono ?_
          rintro e w1 ⟨rfl, hb⟩
          rw [F.out, H0.out]
          go_wp2_with fail
          go_ret
          exact ⟨by rw [G.out, G2.out]; rfl, hb⟩
  · have F : Hid (wOut l s = l) := by unfold Hid wOut; rw [if_neg h0]
    have G : Hid (tearL l s n = l) := by unfold Hid tearL; rw [if_neg h0]
    have h0' : (wErr l s != 0) = true := by simpa using h0
    go_enter Try.func50, Try.ntmps50
    go_wp2_with fail
    refine (writeLog_any l s _ hl hs).mono ?_
    rintro e w1 ⟨rfl, hb⟩
    rw [F.out]
    go_wp2_with fail
    go_ret
    exact ⟨by rw [G.out]; rfl, hb⟩

end Go.Proofs.Ytkoefoccbjhoiaa
