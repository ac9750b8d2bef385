/-
  The contract of package txn's include: it puts the transactions of a list into a set.
-/
import Derived.Test.YtbpkdmdjcedemaaSmall
import Derived.Test.YtbpkdmdjcedemaaLists
namespace Go.Proofs.Ytbpkdmdjcedemaa
open Go.RowKit

/-- A slice of ints that lies in memory, in a block below B: nothing, or its cells. -/
def IntsAt (B : Nat) (w : World) (a : Option Addr) (zs : List Int) : Prop :=
  zs = [] ∨ ∃ b off, a = some ⟨b, off, none⟩ ∧ b < B ∧ ∀ i, i < zs.length → w.cell? ⟨b, off + i, none⟩ = some (.int .i64 (zs.getD i 0))

theorem IntsAt.later {B : Nat} {w w' : World} {a : Option Addr} {zs : List Int} (h : IntsAt B w a zs) (hB : Below B w w') : IntsAt B w' a zs := by
  rcases h with h | ⟨b, off, ha, hb, hc⟩
  · exact Or.inl h
  · refine Or.inr ⟨b, off, ha, hb, fun i hi => ?_⟩
    rw [hB.cell (p := ⟨b, off + i, none⟩) hb]
    exact hc i hi

theorem IntsAt.mono {B B' : Nat} {w : World} {a : Option Addr} {zs : List Int} (h : IntsAt B w a zs) (hB : B ≤ B') : IntsAt B' w a zs := by
  rcases h with h | ⟨b, off, ha, hb, hc⟩
  · exact Or.inl h
  · exact Or.inr ⟨b, off, ha, by omega, hc⟩

theorem heap_new (w : World) (o : Obj) : (w.alloc o).heap[w.heap.size]? = some o := by
  show (w.heap.push o)[w.heap.size]? = some o
  simp

/-- n truths, as the cells of an array. -/
def bools (n : Nat) (S : Nat → Bool) : Array Value := ((List.range n).map fun i => Value.bool (S i)).toArray
theorem bools_size (n : Nat) (S : Nat → Bool) : (bools n S).size = n := by simp [bools]
theorem bools_get {n : Nat} (S : Nat → Bool) {i : Nat} (h : i < n) : (bools n S)[i]? = some (.bool (S i)) := by simp [bools, h]
theorem bools_set {n : Nat} (S : Nat → Bool) {m : Nat} (b : Bool) : (bools n S).setIfInBounds m (.bool b) = bools n (fun i => if i = m then b else S i) := by
  apply Array.ext_getElem?
  intro i
  rw [Array.getElem?_setIfInBounds]
  by_cases hi : i < n
  · by_cases e : m = i
    · subst e
      simp [bools, hi]
    · rw [if_neg e]
      simp [bools, hi, show ¬ i = m from fun h => e h.symm]
  · have h1 : (bools n S).size ≤ i := by rw [bools_size]; omega
    have h2 : (bools n (fun i => if i = m then b else S i)).size ≤ i := by rw [bools_size]; omega
    rw [Array.getElem?_eq_none h1, Array.getElem?_eq_none h2]
    simp
    omega

/-- An array of n truths at block c, as a function. -/
def SetAt (n : Nat) (w : World) (c : Nat) (S : Nat → Bool) : Prop := ∃ t, w.heap[c]? = some (.cells (bools n S) t (0, 0))

theorem SetAt.congr {n : Nat} {w : World} {c : Nat} {S T : Nat → Bool} (h : SetAt n w c S) (e : ∀ i, i < n → S i = T i) : SetAt n w c T := by
  have : bools n S = bools n T := by
    unfold bools
    rw [List.map_congr_left fun i hi => by rw [e i (List.mem_range.1 hi)]]
  obtain ⟨t, h⟩ := h
  exact ⟨t, by rw [← this]; exact h⟩
theorem SetAt.cell {n : Nat} {w : World} {c : Nat} {S : Nat → Bool} (h : SetAt n w c S) {i : Nat} (hi : i < n) : w.cell? ⟨c, i, none⟩ = some (.bool (S i)) := by
  obtain ⟨t, h⟩ := h
  rw [cell_of_row w c i _ t _ h, bools_get S hi]
theorem SetAt.frozen {n : Nat} {w : World} {c : Nat} {S : Nat → Bool} (h : SetAt n w c S) (i : Nat) : w.frozen? ⟨c, i, none⟩ = false := by
  obtain ⟨t, h⟩ := h
  exact frozen_of_row w c i _ t h
theorem SetAt.put {n : Nat} {w : World} {c : Nat} {S : Nat → Bool} (h : SetAt n w c S) (m : Nat) (b : Bool) : SetAt n (w.setCell ⟨c, m, none⟩ (.bool b)) c (fun i => if i = m then b else S i) := by
  obtain ⟨t, h⟩ := h
  exact ⟨t, by rw [heap_setCell_same w c m _ t _ h, bools_set]⟩
theorem SetAt.lt {n : Nat} {w : World} {c : Nat} {S : Nat → Bool} (h : SetAt n w c S) : c < w.heap.size := by
  obtain ⟨t, h⟩ := h
  by_cases hc : c < w.heap.size
  · exact hc
  · rw [Array.getElem?_eq_none (by omega)] at h
    cases h

theorem contains_step {zs : List Int} {k : Nat} {x : Int} (hk : k < zs.length) (hx : zs.getD k 0 = x) (i : Nat) : (zs.take (k + 1)).contains (i : Int) = ((zs.take k).contains (i : Int) || (i : Int) == x) := by
  have : zs[k] = x := by rw [← hx]; simp [List.getD, hk]
  rw [List.take_succ_eq_append_getElem hk, List.contains_append, this]
  rw [Bool.eq_iff_iff]
  simp

theorem or_cast (x y : Bool) (i m : Nat) : (if i = m then true else (x || y)) = (x || (y || (i : Int) == (m : Int))) := by
  have e : ((i : Int) == (m : Int)) = (i == m) := by rw [Bool.eq_iff_iff]; simp; omega
  rw [e]
  by_cases h : i = m
  · simp [h]
  · have : (i == m) = false := by simpa using h
    rw [if_neg h, this, Bool.or_false]

theorem or_miss (x y : Bool) {i : Nat} {q : Int} (h : (i : Int) ≠ q) : (x || y) = (x || (y || (i : Int) == q)) := by
  have e : ((i : Int) == q) = false := by simpa using h
  rw [e, Bool.or_false]

set_option maxHeartbeats 400000 in
theorem include_any (c : Nat) (S : Nat → Bool) (a : Option Addr) (cap : Nat) (zs : List Int) (w : World) (hl : zs.length ≤ maxLen) (hz : IntsAt c w a zs) (hs : SetAt 32 w c S) :
    Calls Try.prog 60 #[.pointer (some ⟨c, 0, none⟩), .slice a zs.length cap] w fun e w' => e = .returned (.tuple #[]) ∧ SetAt 32 w' c (fun i => S i || zs.contains (i : Int)) ∧ Below c w w' := by
  unfold maxLen at hl
  rcases hz with rfl | ⟨b, off, rfl, hb, hc⟩
  · go_enter Try.func60, Try.ntmps60
    go_wp2
    refine wp_loop_rounds 1 ?_; rw [rounds_succ]
    go_wp2
    go_end0
    exact ⟨rfl, hs.congr (by simp), Below.refl _ _⟩
  · go_enter Try.func60, Try.ntmps60
    go_wp2
    go_loopw [8] (fun i wr => ∃ k : Nat, k ≤ zs.length ∧ i = .int .i64 k ∧ SetAt 32 wr c (fun i => S i || (zs.take k).contains (i : Int)) ∧ Below c w wr) (fun i _ => zs.length - (intOf i).toNat)
    case atStart => exact ⟨0, Nat.zero_le _, rfl, hs.congr (by simp), Below.refl _ _⟩
    case round =>
      obtain ⟨k, hk, rfl, hS, hBw⟩ := hrel
      have hsz := hBw.size
      by_cases hlt : k < zs.length
      · obtain ⟨q, Hq⟩ : ∃ q : Int, Hid (zs.getD k 0 = q) := ⟨_, rfl⟩
        have e0 : wr.cell? ⟨b, off + k, none⟩ = some (.int .i64 q) := by rw [hBw.cell (p := ⟨b, off + k, none⟩) hb, ← Hq.out]; exact hc k hlt
        have cs := contains_step hlt Hq.out
        have HC : Hid (∀ i : Nat, (zs.take (k + 1)).contains (i : Int) = ((zs.take k).contains (i : Int) || (i : Int) == q)) := cs
        clear cs hc
        by_cases t1 : 0 ≤ q
        · by_cases t2 : q < 32
          · obtain ⟨m, rfl⟩ := Int.eq_ofNat_of_zero_le t1
            have hm : m < 32 := by omega
            have f0 := hS.cell hm
            have f1 := hS.frozen m
            have HS : Hid (SetAt 32 wr c (fun i => S i || (zs.take k).contains (i : Int))) := hS
            clear hS
            go_wp2
            go_roundw
            case rel => exact ⟨k + 1, by omega, by go_num, (HS.out.put m true).congr (fun i _ => by rw [HC.out]; exact or_cast _ _ _ _), hBw.setCell (by simp) _⟩
            case measure => simp [intOf]; omega
          · go_wp2
            go_roundw
            case rel => exact ⟨k + 1, by omega, by go_num, hS.congr (fun i hi => by rw [HC.out]; exact or_miss _ _ (by omega)), hBw⟩
            case measure => simp [intOf]; omega
        · go_wp2
          go_roundw
          case rel => exact ⟨k + 1, by omega, by go_num, hS.congr (fun i hi => by rw [HC.out]; exact or_miss _ _ (by omega)), hBw⟩
          case measure => simp [intOf]; omega
      · go_wp2
        go_end0
        exact ⟨rfl, hS.congr (fun i hi => by rw [List.take_of_length_le (by omega)]), hBw⟩

end Go.Proofs.Ytbpkdmdjcedemaa
