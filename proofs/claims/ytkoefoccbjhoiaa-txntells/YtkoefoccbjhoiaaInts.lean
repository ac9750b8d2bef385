/-
  The contract of package txn's include: it puts the transactions of a list into a set.
-/
import Derived.Test.YtkoefoccbjhoiaaSmall
import Derived.Test.YtkoefoccbjhoiaaLists
set_option linter.unusedVariables false
set_option linter.unusedSimpArgs false
namespace Go.Proofs.Ytkoefoccbjhoiaa
open Go.RowKit

set_option maxRecDepth 100000 in
set_option maxHeartbeats 400000 in
theorem include_any (c : Nat) (S : Nat → Bool) (a : Option Addr) (cap : Nat) (zs : List Int) (w : World) (hl : zs.length ≤ maxLen) (hz : IntsAt c w a zs) (hs : SetAt 32 w c S) :
    Calls Try.prog 68 #[.pointer (some ⟨c, 0, none⟩), .slice a zs.length cap] w fun e w' => e = .returned (.tuple #[]) ∧ SetAt 32 w' c (fun i => S i || zs.contains (i : Int)) ∧ Below c w w' := by
  unfold maxLen at hl
  rcases hz with rfl | ⟨b, off, rfl, hb, hc⟩
  · go_enter Try.func68, Try.ntmps68
    go_wp2
    refine wp_loop_rounds 1 ?_; rw [rounds_succ]
    go_wp2
    go_end0
    exact ⟨rfl, hs.congr (by simp), Below.refl _ _⟩
  · go_enter Try.func68, Try.ntmps68
    go_wp2
    go_loopw [8] (fun i wr => ∃ k : Nat, k ≤ zs.length ∧ i = .int .i64 k ∧ SetAt 32 wr c (fun i => S i || (zs.take k).contains (i : Int)) ∧ Below c w wr) (fun i _ => zs.length - (intOf i).toNat)
    case atStart => exact ⟨0, Nat.zero_le _, rfl, hs.congr (by simp), Below.refl _ _⟩
    case round =>
      obtain ⟨k, hk, rfl, hS, hBw⟩ := hrel
      have hsz := hBw.size
      by_cases hlt : k < zs.length
      · obtain ⟨q, Hq⟩ : ∃ q : Int, Hid (zs.getD k 0 = q) := ⟨_, rfl⟩
        have e0 : wr.cell? ⟨b, off + k, none⟩ = some (.int .i64 q) := by rw [hBw.cell (p := ⟨b, off + k, none⟩) hb, ← Hq.out]; exact hc k hlt
        have cs := contains_step hlt Hq.out
        have HC : Hid (∀ i : Nat, (zs.take (k + 1)).contains (i : Int) = ((zs.take k).contains (i : Int) || (i : Int) == q)) := cs
        clear cs hc
        by_cases t1 : 0 ≤ q
        · by_cases t2 : q < 32
          · obtain ⟨m, rfl⟩ := Int.eq_ofNat_of_zero_le t1
            have hm : m < 32 := by omega
            have f0 := hS.cell hm
            have f1 := hS.frozen m
            have HS : Hid (SetAt 32 wr c (fun i => S i || (zs.take k).contains (i : Int))) := hS
            clear hS
            go_wp2
            go_roundw
            case rel => exact ⟨k + 1, by omega, by go_num, (HS.out.put m true).congr (fun i _ => by rw [HC.out]; exact or_cast _ _ _ _), hBw.setCell (by simp) _⟩
            case measure => simp [intOf]; omega
          · go_wp2
            go_roundw
            case rel => exact ⟨k + 1, by omega, by go_num, hS.congr (fun i hi => by rw [HC.out]; exact or_miss _ _ (by omega)), hBw⟩
            case measure => simp [intOf]; omega
        · go_wp2
          go_roundw
          case rel => exact ⟨k + 1, by omega, by go_num, hS.congr (fun i hi => by rw [HC.out]; exact or_miss _ _ (by omega)), hBw⟩
          case measure => simp [intOf]; omega
      · go_wp2
        go_end0
        exact ⟨rfl, hS.congr (fun i hi => by rw [List.take_of_length_le (by omega)]), hBw⟩

end Go.Proofs.Ytkoefoccbjhoiaa
