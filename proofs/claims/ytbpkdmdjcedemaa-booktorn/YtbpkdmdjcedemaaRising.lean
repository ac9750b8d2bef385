/-
  The contracts of Rising and of the statements' own 'has', and what holds of the union.
-/
import Derived.Test.YtbpkdmdjcedemaaUnion
namespace Go.Proofs.Ytbpkdmdjcedemaa
open Go.RowKit

theorem IntsAt.at {w wr : World} {B b off : Nat} {zs : List Int} (hc : ∀ i, i < zs.length → w.cell? ⟨b, off + i, none⟩ = some (.int .i64 (zs.getD i 0)))
    (hb : b < B) (hB : Below B w wr) {k : Nat} (hk : k < zs.length) : ∃ q : Int, Hid (zs.getD k 0 = q) ∧ wr.cell? ⟨b, off + k, none⟩ = some (.int .i64 q) := by
  refine ⟨_, rfl, ?_⟩
  rw [hB.cell (p := ⟨b, off + k, none⟩) hb]
  exact hc k hk

def eqB (n m : Int) : Bool := m == n
def hasL (zs : List Int) (n : Int) : Bool := zs.any (eqB n)

set_option maxHeartbeats 400000 in
theorem keep_has (a : Option Addr) (cap : Nat) (zs : List Int) (n : Int) (w : World) (hl : zs.length ≤ maxLen) (hz : IntsAt w.heap.size w a zs) :
    Calls Try.prog 33 #[.slice a zs.length cap, .int .i64 n] w fun e w' => e = .returned (.bool (hasL zs n)) ∧ w' = w := by
  unfold maxLen at hl
  rcases hz with rfl | ⟨b, off, rfl, hb, hc⟩
  · go_enter Try.func33, Try.ntmps33
    go_wp2
    refine wp_loop_rounds 1 ?_; rw [rounds_succ]
    go_wp2
    go_ret
    exact ⟨rfl, rfl⟩
  · go_enter Try.func33, Try.ntmps33
    go_wp2
    go_loop [9] (fun i => ∃ k : Nat, k ≤ zs.length ∧ i = .int .i64 k ∧ (zs.take k).any (eqB n) = false) (fun i => zs.length - (intOf i).toNat)
    case atStart => exact ⟨0, Nat.zero_le _, rfl, rfl⟩
    case round =>
      obtain ⟨k, hk, rfl, hno⟩ := hrel
      by_cases hlt : k < zs.length
      · obtain ⟨q, Hq, e0⟩ := IntsAt.at hc hb (Below.refl _ _) hlt
        have hm : Hid (eqB n q = (q == n)) := rfl
        clear hc
        cases t1 : q == n
        · go_wp2
          go_round
          case rel => exact ⟨k + 1, by omega, by go_num, any_step hlt Hq.out hno (by rw [hm.out, t1])⟩
          case measure => simp [intOf]; omega
        · go_wp2
          go_ret
          exact ⟨ret_bool (any_hit hlt Hq.out (by rw [hm.out, t1])).symm, rfl⟩
      · go_wp2
        go_ret
        exact ⟨ret_bool (any_end hlt hno).symm, rfl⟩

def risingFrom : Int → List Int → Bool
  | _, [] => true
  | l, n :: r => !(decide (n ≤ l) || decide (32 ≤ n)) && risingFrom n r

theorem drop_at {zs : List Int} {k : Nat} {q : Int} (hk : k < zs.length) (hq : zs.getD k 0 = q) : zs.drop k = q :: zs.drop (k + 1) := by
  rw [List.drop_eq_getElem_cons hk]
  have : zs[k] = q := by rw [← hq]; simp [List.getD, hk]
  rw [this]

theorem rising_no {zs : List Int} {k : Nat} {q l m : Int} (hk : k < zs.length) (hq : zs.getD k 0 = q) (h : risingFrom m zs = risingFrom l (zs.drop k)) (hn : q ≤ l ∨ 32 ≤ q) : risingFrom m zs = false := by
  rw [h, drop_at hk hq, risingFrom]
  have : (decide (q ≤ l) || decide (32 ≤ q)) = true := by simpa using hn
  rw [this]
  rfl
theorem rising_yes {zs : List Int} {k : Nat} {q l m : Int} (hk : k < zs.length) (hq : zs.getD k 0 = q) (h : risingFrom m zs = risingFrom l (zs.drop k)) (h1 : ¬ q ≤ l) (h2 : ¬ 32 ≤ q) : risingFrom m zs = risingFrom q (zs.drop (k + 1)) := by
  rw [h, drop_at hk hq, risingFrom]
  simp [h1, h2]
theorem rising_end {zs : List Int} {k : Nat} {l m : Int} (hk : ¬ k < zs.length) (h : risingFrom m zs = risingFrom l (zs.drop k)) : risingFrom m zs = true := by
  rw [h, List.drop_of_length_le (by omega)]
  rfl

set_option maxHeartbeats 400000 in
theorem rising_any (a : Option Addr) (cap : Nat) (zs : List Int) (w : World) (hl : zs.length ≤ maxLen) (hz : IntsAt w.heap.size w a zs) :
    Calls Try.prog 27 #[.slice a zs.length cap] w fun e w' => e = .returned (.bool (risingFrom (-1) zs)) ∧ w' = w := by
  unfold maxLen at hl
  rcases hz with rfl | ⟨b, off, rfl, hb, hc⟩
  · go_enter Try.func27, Try.ntmps27
    go_wp2
    refine wp_loop_rounds 1 ?_; rw [rounds_succ]
    go_wp2
    go_ret
    exact ⟨rfl, rfl⟩
  · go_enter Try.func27, Try.ntmps27
    go_wp2
    go_loop [3, 8] (fun l i => ∃ (k : Nat) (q : Int), k ≤ zs.length ∧ i = .int .i64 k ∧ l = .int .i64 q ∧ Hid (risingFrom (-1) zs = risingFrom q (zs.drop k))) (fun _ i => zs.length - (intOf i).toNat)
    case atStart => exact ⟨0, -1, Nat.zero_le _, rfl, rfl, rfl⟩
    case round =>
      obtain ⟨k, l, hk, rfl, rfl, hno⟩ := hrel
      by_cases hlt : k < zs.length
      · obtain ⟨q, Hq, e0⟩ := IntsAt.at hc hb (Below.refl _ _) hlt
        clear hc
        by_cases t1 : q ≤ l
        · go_wp2
          go_ret
          exact ⟨ret_bool (rising_no hlt Hq.out hno.out (Or.inl t1)).symm, rfl⟩
        · by_cases t2 : 32 ≤ q
          · go_wp2
            go_ret
            exact ⟨ret_bool (rising_no hlt Hq.out hno.out (Or.inr t2)).symm, rfl⟩
          · go_wp2
            go_round
            case rel => exact ⟨k + 1, q, by omega, by go_num, rfl, rising_yes hlt Hq.out hno.out t1 t2⟩
            case measure => simp [intOf]; omega
      · go_wp2
        go_ret
        exact ⟨ret_bool (rising_end hlt hno.out).symm, rfl⟩

end Go.Proofs.Ytbpkdmdjcedemaa
