/-
  The contracts of Rising and of the statements' own 'has', and what holds of the union.
-/
import Derived.Test.YtkoefoccbjhoiaaBase
set_option linter.unusedVariables false
set_option linter.unusedSimpArgs false
namespace Go.Proofs.Ytkoefoccbjhoiaa
open Go.RowKit

def risingFrom : Int → List Int → Bool
  | _, [] => true
  | l, n :: r => !(decide (n ≤ l) || decide (32 ≤ n)) && risingFrom n r

theorem drop_at {zs : List Int} {k : Nat} {q : Int} (hk : k < zs.length) (hq : zs.getD k 0 = q) : zs.drop k = q :: zs.drop (k + 1) := by
  rw [List.drop_eq_getElem_cons hk]
  have : zs[k] = q := by rw [← hq]; simp [List.getD, hk]
  rw [this]

theorem rising_no {zs : List Int} {k : Nat} {q l m : Int} (hk : k < zs.length) (hq : zs.getD k 0 = q) (h : risingFrom m zs = risingFrom l (zs.drop k)) (hn : q ≤ l ∨ 32 ≤ q) : risingFrom m zs = false := by
  rw [h, drop_at hk hq, risingFrom]
  have : (decide (q ≤ l) || decide (32 ≤ q)) = true := by simpa using hn
  rw [this]
  rfl
theorem rising_yes {zs : List Int} {k : Nat} {q l m : Int} (hk : k < zs.length) (hq : zs.getD k 0 = q) (h : risingFrom m zs = risingFrom l (zs.drop k)) (h1 : ¬ q ≤ l) (h2 : ¬ 32 ≤ q) : risingFrom m zs = risingFrom q (zs.drop (k + 1)) := by
  rw [h, drop_at hk hq, risingFrom]
  simp [h1, h2]
theorem rising_end {zs : List Int} {k : Nat} {l m : Int} (hk : ¬ k < zs.length) (h : risingFrom m zs = risingFrom l (zs.drop k)) : risingFrom m zs = true := by
  rw [h, List.drop_of_length_le (by omega)]
  rfl

set_option maxRecDepth 100000 in
set_option maxHeartbeats 400000 in
theorem rising_any (a : Option Addr) (cap : Nat) (zs : List Int) (w : World) (hl : zs.length ≤ maxLen) (hz : IntsAt w.heap.size w a zs) :
    Calls Try.prog 28 #[.slice a zs.length cap] w fun e w' => e = .returned (.bool (risingFrom (-1) zs)) ∧ w' = w := by
  unfold maxLen at hl
  rcases hz with rfl | ⟨b, off, rfl, hb, hc⟩
  · go_enter Try.func28, Try.ntmps28
    go_wp2
    refine wp_loop_rounds 1 ?_; rw [rounds_succ]
    go_wp2
    go_ret
    exact ⟨rfl, rfl⟩
  · go_enter Try.func28, Try.ntmps28
    go_wp2
    go_loop [3, 8] (fun l i => ∃ (k : Nat) (q : Int), k ≤ zs.length ∧ i = .int .i64 k ∧ l = .int .i64 q ∧ Hid (risingFrom (-1) zs = risingFrom q (zs.drop k))) (fun _ i => zs.length - (intOf i).toNat)
    case atStart => exact ⟨0, -1, Nat.zero_le _, rfl, rfl, rfl⟩
    case round =>
      obtain ⟨k, l, hk, rfl, rfl, hno⟩ := hrel
      by_cases hlt : k < zs.length
      · obtain ⟨q, Hq, e0⟩ := IntsAt.at hc hb (Below.refl _ _) hlt
        clear hc
        by_cases t1 : q ≤ l
        · go_wp2
          go_ret
          exact ⟨ret_bool (rising_no hlt Hq.out hno.out (Or.inl t1)).symm, rfl⟩
        · by_cases t2 : 32 ≤ q
          · go_wp2
            go_ret
            exact ⟨ret_bool (rising_no hlt Hq.out hno.out (Or.inr t2)).symm, rfl⟩
          · go_wp2
            go_round
            case rel => exact ⟨k + 1, q, by omega, by go_num, rfl, rising_yes hlt Hq.out hno.out t1 t2⟩
            case measure => simp [intOf]; omega
      · go_wp2
        go_ret
        exact ⟨ret_bool (rising_end hlt hno.out).symm, rfl⟩

end Go.Proofs.Ytkoefoccbjhoiaa
