/-
  Texts in memory: the contracts of the document's own SameTexts and of the statements' own books.
-/
import Derived.Test.YtkoefoccbjhoiaaBRead
set_option linter.unusedVariables false
set_option linter.unusedSimpArgs false
namespace Go.Proofs.Ytkoefoccbjhoiaa
open Go.RowKit

/-- A slice of texts that lies in memory, in a block below B: nothing, or its cells. -/
def TxAt (B : Nat) (w : World) (a : Option Addr) (zs : List (List UInt8)) : Prop :=
  zs = [] ∨ ∃ b off, a = some ⟨b, off, none⟩ ∧ b < B ∧ ∀ i, i < zs.length → w.cell? ⟨b, off + i, none⟩ = some (.string (str (zs.getD i [])))
theorem TxAt.later {B : Nat} {w w' : World} {a : Option Addr} {zs : List (List UInt8)} (h : TxAt B w a zs) (hB : Below B w w') : TxAt B w' a zs := by
  rcases h with h | ⟨b, off, ha, hb, hc⟩
  · exact Or.inl h
  · refine Or.inr ⟨b, off, ha, hb, fun i hi => ?_⟩
    rw [hB.cell (p := ⟨b, off + i, none⟩) hb]
    exact hc i hi
theorem TxAt.mono {B B' : Nat} {w : World} {a : Option Addr} {zs : List (List UInt8)} (h : TxAt B w a zs) (hB : B ≤ B') : TxAt B' w a zs := by
  rcases h with h | ⟨b, off, ha, hb, hc⟩
  · exact Or.inl h
  · exact Or.inr ⟨b, off, ha, by omega, hc⟩
theorem TxAt.of_owns {w : World} {base : Nat} {e : TypeId} {v : Value} {zs : List (List UInt8)} (h : w.ownsRow base e 1 v zs.length (txs zs)) : ∃ a cap, v = .slice a zs.length cap ∧ TxAt w.heap.size w a zs := by
  rcases h.2 with ⟨rfl, hn⟩ | ⟨g, cap, cur, rfl, hg, hh, hc, hm, hcur, hx⟩
  · exact ⟨none, 0, by rw [hn], Or.inl (List.eq_nil_of_length_eq_zero hn)⟩
  · have hlt : g < w.heap.size := by
      by_cases hq : g < w.heap.size
      · exact hq
      · rw [Array.getElem?_eq_none (by omega)] at hh
        cases hh
    refine ⟨some ⟨g, 0, none⟩, cap, rfl, Or.inr ⟨g, 0, rfl, hlt, fun i hi => ?_⟩⟩
    rw [cell_of_row w g (0 + i) cur e _ hh]
    have h1 : (cur.toList.take (zs.length * 1))[i]? = (txs zs)[i]? := by rw [hx]
    rw [List.getElem?_take_of_lt (by omega)] at h1
    simp only [Array.getElem?_toList] at h1
    rw [Nat.zero_add, h1]
    simp [txs, List.getD, hi]
theorem TxAt.at {B b off : Nat} {w wr : World} {zs : List (List UInt8)} {k : Nat} (hc : ∀ i, i < zs.length → w.cell? ⟨b, off + i, none⟩ = some (.string (str (zs.getD i [])))) (hb : b < B) (hB : Below B w wr) (hk : k < zs.length) : ∃ s, Hid (zs.getD k [] = s) ∧ wr.cell? ⟨b, off + k, none⟩ = some (.string (str s)) :=
  ⟨_, rfl, by rw [hB.cell (p := ⟨b, off + k, none⟩) hb]; exact hc k hk⟩

set_option maxRecDepth 100000 in
set_option maxHeartbeats 400000 in
theorem sameTexts_any (a : Option Addr) (cap : Nat) (zs : List (List UInt8)) (a' : Option Addr) (cap' : Nat) (w : World) (hl : zs.length ≤ maxLen) (hz : TxAt w.heap.size w a zs) (hy : TxAt w.heap.size w a' zs) :
    Calls Try.prog 54 #[.slice a zs.length cap, .slice a' zs.length cap'] w fun e w' => e = .returned (.bool true) ∧ Below w.heap.size w w' := by
  unfold maxLen at hl
  have hne : ((zs.length : Int) != (zs.length : Int)) = false := by simp
  rcases hz with rfl | ⟨b, off, rfl, hb, hc⟩
  · go_enter Try.func54, Try.ntmps54
    go_wp2
    refine wp_loop_rounds 1 ?_; rw [rounds_succ]
    go_wp2
    go_ret
    exact ⟨rfl, Below.refl _ _⟩
  rcases hy with rfl | ⟨b', off', rfl, hb', hc'⟩
  · go_enter Try.func54, Try.ntmps54
    go_wp2
    refine wp_loop_rounds 1 ?_; rw [rounds_succ]
    go_wp2
    go_ret
    exact ⟨rfl, Below.refl _ _⟩
  go_enter Try.func54, Try.ntmps54
  go_wp2
  go_loopw [13] (fun i wr => ∃ k : Nat, k ≤ zs.length ∧ i = .int .i64 k ∧ Below w.heap.size w wr) (fun i _ => zs.length - (intOf i).toNat)
  case atStart => exact ⟨0, Nat.zero_le _, rfl, Below.refl _ _⟩
  case round =>
    obtain ⟨k, hk, rfl, hB⟩ := hrel
    by_cases hlt : k < zs.length
    · obtain ⟨q, Hq, e0⟩ := TxAt.at hc hb hB hlt
      have f0 : wr.cell? ⟨b', off' + k, none⟩ = some (.string (str q)) := by rw [hB.cell (p := ⟨b', off' + k, none⟩) hb', ← Hq.out]; exact hc' k hlt
      have hi : (k : Int) < (zs.length : Int) := by omega
      clear hc hc'
      go_wp2
      go_quiet (fail)
      go_wp2
      go_roundw
      case rel => exact ⟨k + 1, by omega, by go_num, below_drewN hB _⟩
      case measure => simp [intOf]; omega
    · go_wp2
      go_ret
      exact ⟨rfl, hB⟩

theorem two_ok : RecOk [97, 98] := by unfold RecOk; decide
theorem books_recs : str (wOut [] [97, 98]) = str (recs [[97, 98]] ++ []) := by decide

set_option maxRecDepth 100000 in
set_option maxHeartbeats 1000000 in
theorem januspostlaw_books_any (w : World) : Calls Try.prog 51 #[] w fun e w' => e = .returned (.bool true) ∧ Below w.heap.size w w' := by
  go_enter Try.func51, Try.ntmps51
  go_wp2_with fail
  refine (write_any [] [97, 98] _ (by decide) (by decide)).mono ?_
  rintro e w1 ⟨rfl, hb1⟩
  rw [books_recs, show wErr [] [97, 98] = 0 by decide]
  go_wp2_with fail
  refine (read_any [[97, 98]] [] _ (by intro s hs; simp at hs; subst hs; exact two_ok) (no_short (by decide)) (by decide)).mono ?_
  rintro e w2 ⟨v, rfl, hown, hc⟩
  have hb2 := hb1.trans (hc.mono hb1.size)
  obtain ⟨a, cap, rfl, hat⟩ := TxAt.of_owns hown
  rcases hat with h | ⟨b, off, rfl, hb, hcell⟩
  · cases h
  have c0 : w2.cell? ⟨b, off, none⟩ = some (.string ⟨#[97, 98]⟩) := hcell 0 (by decide)
  have e0 : str (recs [[97, 98]]) = ⟨#[0, 2, 97, 98]⟩ := by decide
  have e1 : (recs [[97, 98]]).length = 4 := by decide
  have e2 : ([[97, 98]] : List (List UInt8)).length = 1 := rfl
  rw [e0, e1, e2]
  clear hcell hc hown e0 e1 e2
  go_wp2_with fail
  go_ret
  exact ⟨rfl, hb2⟩

set_option maxRecDepth 100000 in
set_option maxHeartbeats 1000000 in
theorem januspostkeep_books_any (w : World) : Calls Try.prog 55 #[] w fun e w' => e = .returned (.bool true) ∧ Below w.heap.size w w' := by
  go_enter Try.func55, Try.ntmps55
  go_wp2_with fail
  refine (write_any [] [97, 98] _ (by decide) (by decide)).mono ?_
  rintro e w1 ⟨rfl, hb1⟩
  rw [books_recs, show wErr [] [97, 98] = 0 by decide]
  go_wp2_with fail
  refine (read_any [[97, 98]] [] _ (by intro s hs; simp at hs; subst hs; exact two_ok) (no_short (by decide)) (by decide)).mono ?_
  rintro e w2 ⟨v, rfl, hown, hc⟩
  have hb2 := hb1.trans (hc.mono hb1.size)
  obtain ⟨a, cap, rfl, hat⟩ := TxAt.of_owns hown
  rcases hat with h | ⟨b, off, rfl, hb, hcell⟩
  · cases h
  have c0 : w2.cell? ⟨b, off, none⟩ = some (.string ⟨#[97, 98]⟩) := hcell 0 (by decide)
  have e0 : str (recs [[97, 98]]) = ⟨#[0, 2, 97, 98]⟩ := by decide
  have e1 : (recs [[97, 98]]).length = 4 := by decide
  have e2 : ([[97, 98]] : List (List UInt8)).length = 1 := rfl
  rw [e0, e1, e2]
  clear hcell hc hown e0 e1 e2
  go_wp2_with fail
  go_ret
  exact ⟨rfl, hb2⟩

end Go.Proofs.Ytkoefoccbjhoiaa
