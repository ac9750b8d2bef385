/-
  What our texts on every package stand on: slices of ints and arrays of truths as they lie in memory.
-/
import Derived.Test.YtkoefoccbjhoiaaRows
import Derived.Test.YtkoefoccbjhoiaaLists
import Derived.WalkKit
import Derived.WalkSpells
import Derived.WalkLawsBesides
import Derived.Deep.QuietTactic
import Derived.BigQuiet
set_option linter.unusedVariables false
set_option linter.unusedSimpArgs false
namespace Go.Proofs.Ytkoefoccbjhoiaa
open Go.RowKit

theorem ret_int {k : IntKind} {a b : Int} (h : a = b) : Ending.returned (.int k a) = .returned (.int k b) := by rw [h]
theorem ret_bool {a b : Bool} (h : a = b) : Ending.returned (.bool a) = .returned (.bool b) := by rw [h]

/-- A slice of ints that lies in memory, in a block below B: nothing, or its cells. -/
def IntsAt (B : Nat) (w : World) (a : Option Addr) (zs : List Int) : Prop :=
  zs = [] ∨ ∃ b off, a = some ⟨b, off, none⟩ ∧ b < B ∧ ∀ i, i < zs.length → w.cell? ⟨b, off + i, none⟩ = some (.int .i64 (zs.getD i 0))

theorem IntsAt.later {B : Nat} {w w' : World} {a : Option Addr} {zs : List Int} (h : IntsAt B w a zs) (hB : Below B w w') : IntsAt B w' a zs := by
  rcases h with h | ⟨b, off, ha, hb, hc⟩
  · exact Or.inl h
  · refine Or.inr ⟨b, off, ha, hb, fun i hi => ?_⟩
    rw [hB.cell (p := ⟨b, off + i, none⟩) hb]
    exact hc i hi

theorem IntsAt.mono {B B' : Nat} {w : World} {a : Option Addr} {zs : List Int} (h : IntsAt B w a zs) (hB : B ≤ B') : IntsAt B' w a zs := by
  rcases h with h | ⟨b, off, ha, hb, hc⟩
  · exact Or.inl h
  · exact Or.inr ⟨b, off, ha, by omega, hc⟩

theorem heap_new (w : World) (o : Obj) : (w.alloc o).heap[w.heap.size]? = some o := by
  show (w.heap.push o)[w.heap.size]? = some o
  simp

/-- n truths, as the cells of an array. -/
def bools (n : Nat) (S : Nat → Bool) : Array Value := ((List.range n).map fun i => Value.bool (S i)).toArray
theorem bools_size (n : Nat) (S : Nat → Bool) : (bools n S).size = n := by simp [bools]
theorem bools_get {n : Nat} (S : Nat → Bool) {i : Nat} (h : i < n) : (bools n S)[i]? = some (.bool (S i)) := by simp [bools, h]
theorem bools_set {n : Nat} (S : Nat → Bool) {m : Nat} (b : Bool) : (bools n S).setIfInBounds m (.bool b) = bools n (fun i => if i = m then b else S i) := by
  apply Array.ext_getElem?
  intro i
  rw [Array.getElem?_setIfInBounds]
  by_cases hi : i < n
  · by_cases e : m = i
    · subst e
      simp [bools, hi]
    · rw [if_neg e]
      simp [bools, hi, show ¬ i = m from fun h => e h.symm]
  · have h1 : (bools n S).size ≤ i := by rw [bools_size]; omega
    have h2 : (bools n (fun i => if i = m then b else S i)).size ≤ i := by rw [bools_size]; omega
    rw [Array.getElem?_eq_none h1, Array.getElem?_eq_none h2]
    simp
    omega

/-- An array of n truths at block c, as a function. -/
def SetAt (n : Nat) (w : World) (c : Nat) (S : Nat → Bool) : Prop := ∃ t, w.heap[c]? = some (.cells (bools n S) t (0, 0))

theorem SetAt.congr {n : Nat} {w : World} {c : Nat} {S T : Nat → Bool} (h : SetAt n w c S) (e : ∀ i, i < n → S i = T i) : SetAt n w c T := by
  have : bools n S = bools n T := by
    unfold bools
    rw [List.map_congr_left fun i hi => by rw [e i (List.mem_range.1 hi)]]
  obtain ⟨t, h⟩ := h
  exact ⟨t, by rw [← this]; exact h⟩
theorem SetAt.cell {n : Nat} {w : World} {c : Nat} {S : Nat → Bool} (h : SetAt n w c S) {i : Nat} (hi : i < n) : w.cell? ⟨c, i, none⟩ = some (.bool (S i)) := by
  obtain ⟨t, h⟩ := h
  rw [cell_of_row w c i _ t _ h, bools_get S hi]
theorem SetAt.frozen {n : Nat} {w : World} {c : Nat} {S : Nat → Bool} (h : SetAt n w c S) (i : Nat) : w.frozen? ⟨c, i, none⟩ = false := by
  obtain ⟨t, h⟩ := h
  exact frozen_of_row w c i _ t h
theorem SetAt.put {n : Nat} {w : World} {c : Nat} {S : Nat → Bool} (h : SetAt n w c S) (m : Nat) (b : Bool) : SetAt n (w.setCell ⟨c, m, none⟩ (.bool b)) c (fun i => if i = m then b else S i) := by
  obtain ⟨t, h⟩ := h
  exact ⟨t, by rw [heap_setCell_same w c m _ t _ h, bools_set]⟩
theorem SetAt.lt {n : Nat} {w : World} {c : Nat} {S : Nat → Bool} (h : SetAt n w c S) : c < w.heap.size := by
  obtain ⟨t, h⟩ := h
  by_cases hc : c < w.heap.size
  · exact hc
  · rw [Array.getElem?_eq_none (by omega)] at h
    cases h

theorem contains_step {zs : List Int} {k : Nat} {x : Int} (hk : k < zs.length) (hx : zs.getD k 0 = x) (i : Nat) : (zs.take (k + 1)).contains (i : Int) = ((zs.take k).contains (i : Int) || (i : Int) == x) := by
  have : zs[k] = x := by rw [← hx]; simp [List.getD, hk]
  rw [List.take_succ_eq_append_getElem hk, List.contains_append, this]
  rw [Bool.eq_iff_iff]
  simp

theorem or_cast (x y : Bool) (i m : Nat) : (if i = m then true else (x || y)) = (x || (y || (i : Int) == (m : Int))) := by
  have e : ((i : Int) == (m : Int)) = (i == m) := by rw [Bool.eq_iff_iff]; simp; omega
  rw [e]
  by_cases h : i = m
  · simp [h]
  · have : (i == m) = false := by simpa using h
    rw [if_neg h, this, Bool.or_false]

theorem or_miss (x y : Bool) {i : Nat} {q : Int} (h : (i : Int) ≠ q) : (x || y) = (x || (y || (i : Int) == q)) := by
  have e : ((i : Int) == q) = false := by simpa using h
  rw [e, Bool.or_false]

theorem run_index_bools {P : Program} {t e : TypeId} {n : Nat} (ht : P.underlying t = some (.array n e)) (he : P.underlying e = some .bool) (hi : (P.info? e).map (·.size) = some 1) (S : Nat → Bool) {k : Nat} (hk : k < n) (w : World) :
    (Instr.index t (.agg (bools n S)) (.int .i64 (k : Int))).run P w = .ok (.bool (S k)) w := by
  have h1 : (0 : Int) ≤ (k : Int) ∧ (k : Int) < (n : Int) := by omega
  cases hq : P.info? e with
  | none => simp [hq] at hi
  | some i =>
    have hs : i.size = 1 := by simpa [hq] using hi
    have hg := bools_get S hk
    simp [Instr.index, run_underlying ht, run_underlying he, asIntOf, h1, part, isAgg, sizeOf, typeInfo, hq, hs, hg, go_sem]
    intro h
    omega

theorem owns_block {w : World} {base : Nat} {e : TypeId} {size : Nat} {v : Value} {n : Nat} {xs : List Value} (h : w.ownsRow base e size v n xs) : ∀ k, v.ownBlock = some k → base ≤ k := by
  intro k hk
  rcases h.2 with ⟨rfl, _⟩ | ⟨g, cap, cur, rfl, hg, _⟩
  · simp [Value.ownBlock] at hk
  · simp [Value.ownBlock] at hk
    omega

/-- What the call made for itself, as a slice of ints. -/
theorem IntsAt.of_owns {w : World} {base : Nat} {e : TypeId} {v : Value} {zs : List Int} (h : w.ownsRow base e 1 v zs.length (zs.map (Value.int .i64))) : ∃ a cap, v = .slice a zs.length cap ∧ IntsAt w.heap.size w a zs := by
  rcases h.2 with ⟨rfl, hn⟩ | ⟨g, cap, cur, rfl, hg, hh, hc, hm, hcur, hx⟩
  · exact ⟨none, 0, by rw [hn], Or.inl (List.eq_nil_of_length_eq_zero hn)⟩
  · have hlt : g < w.heap.size := by
      by_cases hq : g < w.heap.size
      · exact hq
      · rw [Array.getElem?_eq_none (by omega)] at hh
        cases hh
    refine ⟨some ⟨g, 0, none⟩, cap, rfl, Or.inr ⟨g, 0, rfl, hlt, fun i hi => ?_⟩⟩
    rw [cell_of_row w g (0 + i) cur e _ hh]
    have h1 : (cur.toList.take (zs.length * 1))[i]? = (zs.map (Value.int .i64))[i]? := by rw [hx]
    rw [List.getElem?_take_of_lt (by omega)] at h1
    simp only [Array.getElem?_toList] at h1
    rw [Nat.zero_add, h1]
    simp [List.getD, hi]

def unionTo (p : Nat → Bool) (k : Nat) : List Int := ((List.range k).filter p).map Int.ofNat
theorem unionTo_hit {p : Nat → Bool} {k : Nat} (h : p k = true) : unionTo p (k + 1) = unionTo p k ++ [(k : Int)] := by
  unfold unionTo
  rw [List.range_succ, List.filter_append, List.map_append]
  simp [h]
theorem unionTo_miss {p : Nat → Bool} {k : Nat} (h : p k = false) : unionTo p (k + 1) = unionTo p k := by
  unfold unionTo
  rw [List.range_succ, List.filter_append, List.map_append]
  simp [h]
theorem unionTo_len (p : Nat → Bool) (k : Nat) : (unionTo p k).length ≤ k := by
  unfold unionTo
  have := List.length_filter_le p (List.range k)
  simpa using this

theorem Try.zero60 : bools 32 (fun _ => false) = #[.bool false, .bool false, .bool false, .bool false, .bool false, .bool false, .bool false, .bool false, .bool false, .bool false, .bool false, .bool false, .bool false, .bool false, .bool false, .bool false, .bool false, .bool false, .bool false, .bool false, .bool false, .bool false, .bool false, .bool false, .bool false, .bool false, .bool false, .bool false, .bool false, .bool false, .bool false, .bool false] := by rfl
theorem Try.infoInt : (Try.prog.info? 3).map (fun i => (i.zero, i.size, i.bytes)) = some (some (.int .i64 0), 1, 8) := by kernel_rfl
theorem Try.infoBool : (Try.prog.info? 4).map (·.size) = some 1 := by kernel_rfl
theorem Try.infoSet : (Try.prog.info? 60).map (·.size) = some 32 := by kernel_rfl

theorem IntsAt.at {w wr : World} {B b off : Nat} {zs : List Int} (hc : ∀ i, i < zs.length → w.cell? ⟨b, off + i, none⟩ = some (.int .i64 (zs.getD i 0)))
    (hb : b < B) (hB : Below B w wr) {k : Nat} (hk : k < zs.length) : ∃ q : Int, Hid (zs.getD k 0 = q) ∧ wr.cell? ⟨b, off + k, none⟩ = some (.int .i64 q) := by
  refine ⟨_, rfl, ?_⟩
  rw [hB.cell (p := ⟨b, off + k, none⟩) hb]
  exact hc k hk

def eqB (n m : Int) : Bool := m == n
def hasL (zs : List Int) (n : Int) : Bool := zs.any (eqB n)

theorem own_mono {x : World} {b b' : Nat} {e : TypeId} {size : Nat} {v : Value} {n : Nat} {xs : List Value} (h : x.ownsRow b e size v n xs) (hb : b' ≤ b) : x.ownsRow b' e size v n xs :=
  ⟨h.1, h.2.imp id fun ⟨g, cap, cur, h1, h2, h3⟩ => ⟨g, cap, cur, h1, Nat.le_trans hb h2, h3⟩⟩
theorem own_form {w : World} {b : Nat} {e : TypeId} {size : Nat} {v : Value} {n : Nat} {xs : List Value} (h : w.ownsRow b e size v n xs) : ∃ a cap, v = .slice a n cap ∧ n ≤ cap ∧ (a = none → n = 0 ∧ cap = 0) := by
  rcases h.2 with ⟨rfl, rfl⟩ | ⟨g, cap, cur, rfl, _, _, hc, _⟩
  · exact ⟨none, 0, rfl, Nat.le_refl _, fun _ => ⟨rfl, rfl⟩⟩
  · exact ⟨_, cap, rfl, hc, fun h => by cases h⟩
def intCells (zs : List Int) : List Value := zs.map (Value.int .i64)
theorem intCells_snoc (zs : List Int) (n : Int) : intCells (zs ++ [n]) = intCells zs ++ [.int .i64 n] := by simp [intCells]
theorem one_int (n : Int) : ∀ u ∈ [Value.int .i64 n], u.oneCell' = true := by simp [Value.oneCell']

/-- A slice of ints, of operations: where it lies, and how long it is. -/
def SlInts (w : World) (a : Option Addr) (cap : Nat) (zs : List Int) : Prop := IntsAt w.heap.size w a zs ∧ zs.length ≤ maxLen ∧ zs.length ≤ cap ∧ (a = none → zs.length = 0 ∧ cap = 0)
theorem SlInts.later {w w' : World} {a : Option Addr} {cap : Nat} {zs : List Int} (h : SlInts w a cap zs) (hb : Below w.heap.size w w') : SlInts w' a cap zs :=
  ⟨(h.1.later hb).mono hb.size, h.2⟩
theorem SlInts.of_owns {w : World} {b : Nat} {e : TypeId} {a : Option Addr} {cap : Nat} {zs : List Int} (h : w.ownsRow b e 1 (.slice a zs.length cap) zs.length (intCells zs)) : SlInts w a cap zs := by
  obtain ⟨a', cap', he, hi⟩ := IntsAt.of_owns h
  obtain ⟨a2, c2, h1, h2, h3⟩ := own_form h
  simp at he h1
  obtain ⟨rfl, rfl⟩ := he
  obtain ⟨rfl, rfl⟩ := h1
  refine ⟨hi, ?_, h2, h3⟩
  rcases h.2 with ⟨_, h0⟩ | ⟨g, c, cur, _, _, _, h5, h6, _⟩
  · rw [h0]; exact Nat.zero_le _
  · omega


theorem wpList_wanted {P : Program} {w : World} {ops : Array Oper} {rest : List Oper} {o : Oper} {a : Act} {Q : Exit → Act → World → Prop} (hw : Region.wanted o (yielded ops a.tmps) = true)
    (h : ∀ K : Act → World → Prop, (∀ a w, wpList P ops Q rest a w → K a w) → o.wp P a w K Q) : wpList P ops Q (o :: rest) a w :=
  wpList_step fun K hK => by simp only [hw, if_true]; exact h K hK

end Go.Proofs.Ytkoefoccbjhoiaa
