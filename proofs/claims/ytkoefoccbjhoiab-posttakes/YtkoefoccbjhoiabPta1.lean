/-
  Plain facts on lists, of our own: what a loop has seen of a list so far.
  What our texts on every package stand on: slices of ints and arrays of truths as they lie in memory.
  Plain mathematics of the search: what hangs on what, and that the search with a stack finds, of all that was met, just what each hangs on.
  A search behind a pointer, as it lies in memory: one block of 1186 cells, and a stack of its own.
  Cells and rows of memory: small facts that all walks use.
  The contracts of the small functions of package txn (Shard, Of, nearest, Do): what each returns at every number, the old memory as it was.
  The contracts of package txn's functions on lists of operations (meets, Conflict, Touches).
  The contracts of goodOp and GoodOps, and of the document's own IsOps.
  The contracts of Rising and of the statements' own 'has', and what holds of the union.
  Plain mathematics of our own: a frame as bytes, and the reader that takes one off the front of bytes.
  The contracts of package wire's reader: small and wide, behind a pointer.
  How a slice of ints that came in is read: its elements, and where they lie.
  How a slice of operations, or of ints, that came in is read: its elements' numbers, and where they lie.
-/
import Derived.WalkKit
import Derived.Test.YtkoefoccbjhoiabRows
import Derived.WalkSpells
import Derived.WalkLawsBesides
import Derived.Deep.QuietTactic
import Derived.BigQuiet
import Derived.Deep.MidRow
import Derived.Laws.StructEq
import Derived.Outline
import Derived.Deep.RegionHeld3
import Derived.Deep.Cut
import Derived.Deep.CutRange
import Derived.Lib.Strings
import Derived.Laws.BitsLemmas
import Derived.ProofKit
import Derived.OpenShut
import Derived.ShutString
import Derived.ChangeOld
import Derived.Below
import Derived.Deep.Slices
namespace Go.Proofs.Ytkoefoccbjhoiab
open Go.RowKit

theorem any_step {α : Type} {p : α → Bool} {zs : List α} {k : Nat} {d x : α} (hk : k < zs.length) (hx : zs.getD k d = x) (hno : (zs.take k).any p = false) (hp : p x = false) : (zs.take (k + 1)).any p = false := by
  rw [List.take_succ_eq_append_getElem hk, List.any_append, hno]
  have : zs[k] = x := by rw [← hx]; simp [List.getD, hk]
  simp [this, hp]

theorem any_hit {α : Type} {p : α → Bool} {zs : List α} {k : Nat} {d x : α} (hk : k < zs.length) (hx : zs.getD k d = x) (hp : p x = true) : zs.any p = true := by
  have : zs[k] = x := by rw [← hx]; simp [List.getD, hk]
  exact List.any_eq_true.2 ⟨x, this ▸ List.getElem_mem hk, hp⟩

theorem any_end {α : Type} {p : α → Bool} {zs : List α} {k : Nat} (hk : ¬ k < zs.length) (hno : (zs.take k).any p = false) : zs.any p = false := by
  rwa [List.take_of_length_le (by omega)] at hno

end Go.Proofs.Ytkoefoccbjhoiab

namespace Go.Proofs.Ytkoefoccbjhoiab
open Go.RowKit

theorem ret_int {k : IntKind} {a b : Int} (h : a = b) : Ending.returned (.int k a) = .returned (.int k b) := by rw [h]
theorem ret_bool {a b : Bool} (h : a = b) : Ending.returned (.bool a) = .returned (.bool b) := by rw [h]

/-- A slice of ints that lies in memory, in a block below B: nothing, or its cells. -/
def IntsAt (B : Nat) (w : World) (a : Option Addr) (zs : List Int) : Prop :=
  zs = [] ∨ ∃ b off, a = some ⟨b, off, none⟩ ∧ b < B ∧ ∀ i, i < zs.length → w.cell? ⟨b, off + i, none⟩ = some (.int .i64 (zs.getD i 0))

theorem IntsAt.later {B : Nat} {w w' : World} {a : Option Addr} {zs : List Int} (h : IntsAt B w a zs) (hB : Below B w w') : IntsAt B w' a zs := by
  rcases h with h | ⟨b, off, ha, hb, hc⟩
  · exact Or.inl h
  · refine Or.inr ⟨b, off, ha, hb, fun i hi => ?_⟩
    rw [hB.cell (p := ⟨b, off + i, none⟩) hb]
    exact hc i hi

theorem IntsAt.mono {B B' : Nat} {w : World} {a : Option Addr} {zs : List Int} (h : IntsAt B w a zs) (hB : B ≤ B') : IntsAt B' w a zs := by
  rcases h with h | ⟨b, off, ha, hb, hc⟩
  · exact Or.inl h
  · exact Or.inr ⟨b, off, ha, by omega, hc⟩

theorem heap_new (w : World) (o : Obj) : (w.alloc o).heap[w.heap.size]? = some o := by
  show (w.heap.push o)[w.heap.size]? = some o
  simp

/-- n truths, as the cells of an array. -/
def bools (n : Nat) (S : Nat → Bool) : Array Value := ((List.range n).map fun i => Value.bool (S i)).toArray
theorem bools_size (n : Nat) (S : Nat → Bool) : (bools n S).size = n := by simp [bools]
theorem bools_get {n : Nat} (S : Nat → Bool) {i : Nat} (h : i < n) : (bools n S)[i]? = some (.bool (S i)) := by simp [bools, h]
theorem bools_set {n : Nat} (S : Nat → Bool) {m : Nat} (b : Bool) : (bools n S).setIfInBounds m (.bool b) = bools n (fun i => if i = m then b else S i) := by
  apply Array.ext_getElem?
  intro i
  rw [Array.getElem?_setIfInBounds]
  by_cases hi : i < n
  · by_cases e : m = i
    · subst e
      simp [bools, hi]
    · rw [if_neg e]
      simp [bools, hi, show ¬ i = m from fun h => e h.symm]
  · have h1 : (bools n S).size ≤ i := by rw [bools_size]; omega
    have h2 : (bools n (fun i => if i = m then b else S i)).size ≤ i := by rw [bools_size]; omega
    rw [Array.getElem?_eq_none h1, Array.getElem?_eq_none h2]
    simp
    omega

/-- An array of n truths at block c, as a function. -/
def SetAt (n : Nat) (w : World) (c : Nat) (S : Nat → Bool) : Prop := ∃ t, w.heap[c]? = some (.cells (bools n S) t (0, 0))

theorem SetAt.congr {n : Nat} {w : World} {c : Nat} {S T : Nat → Bool} (h : SetAt n w c S) (e : ∀ i, i < n → S i = T i) : SetAt n w c T := by
  have : bools n S = bools n T := by
    unfold bools
    rw [List.map_congr_left fun i hi => by rw [e i (List.mem_range.1 hi)]]
  obtain ⟨t, h⟩ := h
  exact ⟨t, by rw [← this]; exact h⟩
theorem SetAt.cell {n : Nat} {w : World} {c : Nat} {S : Nat → Bool} (h : SetAt n w c S) {i : Nat} (hi : i < n) : w.cell? ⟨c, i, none⟩ = some (.bool (S i)) := by
  obtain ⟨t, h⟩ := h
  rw [cell_of_row w c i _ t _ h, bools_get S hi]
theorem SetAt.frozen {n : Nat} {w : World} {c : Nat} {S : Nat → Bool} (h : SetAt n w c S) (i : Nat) : w.frozen? ⟨c, i, none⟩ = false := by
  obtain ⟨t, h⟩ := h
  exact frozen_of_row w c i _ t h
theorem SetAt.put {n : Nat} {w : World} {c : Nat} {S : Nat → Bool} (h : SetAt n w c S) (m : Nat) (b : Bool) : SetAt n (w.setCell ⟨c, m, none⟩ (.bool b)) c (fun i => if i = m then b else S i) := by
  obtain ⟨t, h⟩ := h
  exact ⟨t, by rw [heap_setCell_same w c m _ t _ h, bools_set]⟩
theorem SetAt.lt {n : Nat} {w : World} {c : Nat} {S : Nat → Bool} (h : SetAt n w c S) : c < w.heap.size := by
  obtain ⟨t, h⟩ := h
  by_cases hc : c < w.heap.size
  · exact hc
  · rw [Array.getElem?_eq_none (by omega)] at h
    cases h

theorem contains_step {zs : List Int} {k : Nat} {x : Int} (hk : k < zs.length) (hx : zs.getD k 0 = x) (i : Nat) : (zs.take (k + 1)).contains (i : Int) = ((zs.take k).contains (i : Int) || (i : Int) == x) := by
  have : zs[k] = x := by rw [← hx]; simp [List.getD, hk]
  rw [List.take_succ_eq_append_getElem hk, List.contains_append, this]
  rw [Bool.eq_iff_iff]
  simp

theorem or_cast (x y : Bool) (i m : Nat) : (if i = m then true else (x || y)) = (x || (y || (i : Int) == (m : Int))) := by
  have e : ((i : Int) == (m : Int)) = (i == m) := by rw [Bool.eq_iff_iff]; simp; omega
  rw [e]
  by_cases h : i = m
  · simp [h]
  · have : (i == m) = false := by simpa using h
    rw [if_neg h, this, Bool.or_false]

theorem or_miss (x y : Bool) {i : Nat} {q : Int} (h : (i : Int) ≠ q) : (x || y) = (x || (y || (i : Int) == q)) := by
  have e : ((i : Int) == q) = false := by simpa using h
  rw [e, Bool.or_false]

theorem run_index_bools {P : Program} {t e : TypeId} {n : Nat} (ht : P.underlying t = some (.array n e)) (he : P.underlying e = some .bool) (hi : (P.info? e).map (·.size) = some 1) (S : Nat → Bool) {k : Nat} (hk : k < n) (w : World) :
    (Instr.index t (.agg (bools n S)) (.int .i64 (k : Int))).run P w = .ok (.bool (S k)) w := by
  have h1 : (0 : Int) ≤ (k : Int) ∧ (k : Int) < (n : Int) := by omega
  cases hq : P.info? e with
  | none => simp [hq] at hi
  | some i =>
    have hs : i.size = 1 := by simpa [hq] using hi
    have hg := bools_get S hk
    simp [Instr.index, run_underlying ht, run_underlying he, asIntOf, h1, part, isAgg, sizeOf, typeInfo, hq, hs, hg, go_sem]
    intro h
    omega

theorem owns_block {w : World} {base : Nat} {e : TypeId} {size : Nat} {v : Value} {n : Nat} {xs : List Value} (h : w.ownsRow base e size v n xs) : ∀ k, v.ownBlock = some k → base ≤ k := by
  intro k hk
  rcases h.2 with ⟨rfl, _⟩ | ⟨g, cap, cur, rfl, hg, _⟩
  · simp [Value.ownBlock] at hk
  · simp [Value.ownBlock] at hk
    omega

/-- What the call made for itself, as a slice of ints. -/
theorem IntsAt.of_owns {w : World} {base : Nat} {e : TypeId} {v : Value} {zs : List Int} (h : w.ownsRow base e 1 v zs.length (zs.map (Value.int .i64))) : ∃ a cap, v = .slice a zs.length cap ∧ IntsAt w.heap.size w a zs := by
  rcases h.2 with ⟨rfl, hn⟩ | ⟨g, cap, cur, rfl, hg, hh, hc, hm, hcur, hx⟩
  · exact ⟨none, 0, by rw [hn], Or.inl (List.eq_nil_of_length_eq_zero hn)⟩
  · have hlt : g < w.heap.size := by
      by_cases hq : g < w.heap.size
      · exact hq
      · rw [Array.getElem?_eq_none (by omega)] at hh
        cases hh
    refine ⟨some ⟨g, 0, none⟩, cap, rfl, Or.inr ⟨g, 0, rfl, hlt, fun i hi => ?_⟩⟩
    rw [cell_of_row w g (0 + i) cur e _ hh]
    have h1 : (cur.toList.take (zs.length * 1))[i]? = (zs.map (Value.int .i64))[i]? := by rw [hx]
    rw [List.getElem?_take_of_lt (by omega)] at h1
    simp only [Array.getElem?_toList] at h1
    rw [Nat.zero_add, h1]
    simp [List.getD, hi]

def unionTo (p : Nat → Bool) (k : Nat) : List Int := ((List.range k).filter p).map Int.ofNat
theorem unionTo_hit {p : Nat → Bool} {k : Nat} (h : p k = true) : unionTo p (k + 1) = unionTo p k ++ [(k : Int)] := by
  unfold unionTo
  rw [List.range_succ, List.filter_append, List.map_append]
  simp [h]
theorem unionTo_miss {p : Nat → Bool} {k : Nat} (h : p k = false) : unionTo p (k + 1) = unionTo p k := by
  unfold unionTo
  rw [List.range_succ, List.filter_append, List.map_append]
  simp [h]
theorem unionTo_len (p : Nat → Bool) (k : Nat) : (unionTo p k).length ≤ k := by
  unfold unionTo
  have := List.length_filter_le p (List.range k)
  simpa using this

theorem Try.zero22 : bools 32 (fun _ => false) = #[.bool false, .bool false, .bool false, .bool false, .bool false, .bool false, .bool false, .bool false, .bool false, .bool false, .bool false, .bool false, .bool false, .bool false, .bool false, .bool false, .bool false, .bool false, .bool false, .bool false, .bool false, .bool false, .bool false, .bool false, .bool false, .bool false, .bool false, .bool false, .bool false, .bool false, .bool false, .bool false] := by rfl
theorem Try.infoInt : (Try.prog.info? 3).map (fun i => (i.zero, i.size, i.bytes)) = some (some (.int .i64 0), 1, 8) := by kernel_rfl
theorem Try.infoBool : (Try.prog.info? 4).map (·.size) = some 1 := by kernel_rfl
theorem Try.infoSet : (Try.prog.info? 22).map (·.size) = some 32 := by kernel_rfl

theorem IntsAt.at {w wr : World} {B b off : Nat} {zs : List Int} (hc : ∀ i, i < zs.length → w.cell? ⟨b, off + i, none⟩ = some (.int .i64 (zs.getD i 0)))
    (hb : b < B) (hB : Below B w wr) {k : Nat} (hk : k < zs.length) : ∃ q : Int, Hid (zs.getD k 0 = q) ∧ wr.cell? ⟨b, off + k, none⟩ = some (.int .i64 q) := by
  refine ⟨_, rfl, ?_⟩
  rw [hB.cell (p := ⟨b, off + k, none⟩) hb]
  exact hc k hk

def eqB (n m : Int) : Bool := m == n
def hasL (zs : List Int) (n : Int) : Bool := zs.any (eqB n)

theorem own_mono {x : World} {b b' : Nat} {e : TypeId} {size : Nat} {v : Value} {n : Nat} {xs : List Value} (h : x.ownsRow b e size v n xs) (hb : b' ≤ b) : x.ownsRow b' e size v n xs :=
  ⟨h.1, h.2.imp id fun ⟨g, cap, cur, h1, h2, h3⟩ => ⟨g, cap, cur, h1, Nat.le_trans hb h2, h3⟩⟩
theorem own_form {w : World} {b : Nat} {e : TypeId} {size : Nat} {v : Value} {n : Nat} {xs : List Value} (h : w.ownsRow b e size v n xs) : ∃ a cap, v = .slice a n cap ∧ n ≤ cap ∧ (a = none → n = 0 ∧ cap = 0) := by
  rcases h.2 with ⟨rfl, rfl⟩ | ⟨g, cap, cur, rfl, _, _, hc, _⟩
  · exact ⟨none, 0, rfl, Nat.le_refl _, fun _ => ⟨rfl, rfl⟩⟩
  · exact ⟨_, cap, rfl, hc, fun h => by cases h⟩
def intCells (zs : List Int) : List Value := zs.map (Value.int .i64)
/-- A slice of ints, of operations: where it lies, and how long it is. -/
def SlInts (w : World) (a : Option Addr) (cap : Nat) (zs : List Int) : Prop := IntsAt w.heap.size w a zs ∧ zs.length ≤ maxLen ∧ zs.length ≤ cap ∧ (a = none → zs.length = 0 ∧ cap = 0)
theorem SlInts.later {w w' : World} {a : Option Addr} {cap : Nat} {zs : List Int} (h : SlInts w a cap zs) (hb : Below w.heap.size w w') : SlInts w' a cap zs :=
  ⟨(h.1.later hb).mono hb.size, h.2⟩
theorem SlInts.of_owns {w : World} {b : Nat} {e : TypeId} {a : Option Addr} {cap : Nat} {zs : List Int} (h : w.ownsRow b e 1 (.slice a zs.length cap) zs.length (intCells zs)) : SlInts w a cap zs := by
  obtain ⟨a', cap', he, hi⟩ := IntsAt.of_owns h
  obtain ⟨a2, c2, h1, h2, h3⟩ := own_form h
  simp at he h1
  obtain ⟨rfl, rfl⟩ := he
  obtain ⟨rfl, rfl⟩ := h1
  refine ⟨hi, ?_, h2, h3⟩
  rcases h.2 with ⟨_, h0⟩ | ⟨g, c, cur, _, _, _, h5, h6, _⟩
  · rw [h0]; exact Nat.zero_le _
  · omega


theorem wpList_wanted {P : Program} {w : World} {ops : Array Oper} {rest : List Oper} {o : Oper} {a : Act} {Q : Exit → Act → World → Prop} (hw : Region.wanted o (yielded ops a.tmps) = true)
    (h : ∀ K : Act → World → Prop, (∀ a w, wpList P ops Q rest a w → K a w) → o.wp P a w K Q) : wpList P ops Q (o :: rest) a w :=
  wpList_step fun K hK => by simp only [hw, if_true]; exact h K hK

end Go.Proofs.Ytkoefoccbjhoiab

namespace Go.Proofs.Ytkoefoccbjhoiab

def upd {α : Type} (f : Nat → α) (i : Nat) (v : α) : Nat → α := fun j => if j = i then v else f j
theorem upd_same {α : Type} (f : Nat → α) (i : Nat) (v : α) : upd f i v i = v := by simp [upd]
theorem upd_other {α : Type} (f : Nat → α) {i j : Nat} (v : α) (h : j ≠ i) : upd f i v j = f j := by simp [upd, h]

end Go.Proofs.Ytkoefoccbjhoiab

namespace Go.Proofs.Ytkoefoccbjhoiab
open Go.RowKit

/-- N cells, as the cells of a block. -/
def rowF (N : Nat) (f : Nat → Value) : Array Value := ((List.range N).map f).toArray
theorem rowF_size (N : Nat) (f : Nat → Value) : (rowF N f).size = N := by simp [rowF]
theorem rowF_get {N : Nat} (f : Nat → Value) {i : Nat} (h : i < N) : (rowF N f)[i]? = some (f i) := by simp [rowF, h]
theorem rowF_set {N : Nat} (f : Nat → Value) {m : Nat} (v : Value) : (rowF N f).setIfInBounds m v = rowF N (fun i => if i = m then v else f i) := by
  apply Array.ext_getElem?
  intro i
  rw [Array.getElem?_setIfInBounds]
  by_cases hi : i < N
  · by_cases e : m = i
    · subst e
      simp [rowF, hi]
    · rw [if_neg e]
      simp [rowF, hi, show ¬ i = m from fun h => e h.symm]
  · have h1 : (rowF N f).size ≤ i := by rw [rowF_size]; omega
    have h2 : (rowF N (fun i => if i = m then v else f i)).size ≤ i := by rw [rowF_size]; omega
    rw [Array.getElem?_eq_none h1, Array.getElem?_eq_none h2]
    simp
    omega
def BlkAt (N : Nat) (w : World) (c : Nat) (f : Nat → Value) : Prop := ∃ t, w.heap[c]? = some (.cells (rowF N f) t (0, 0))
theorem BlkAt.cell {N : Nat} {w : World} {c : Nat} {f : Nat → Value} (h : BlkAt N w c f) {i : Nat} (hi : i < N) : w.cell? ⟨c, i, none⟩ = some (f i) := by
  obtain ⟨t, h⟩ := h
  rw [cell_of_row w c i _ t _ h, rowF_get f hi]
theorem BlkAt.frozen {N : Nat} {w : World} {c : Nat} {f : Nat → Value} (h : BlkAt N w c f) (i : Nat) : w.frozen? ⟨c, i, none⟩ = false := by
  obtain ⟨t, h⟩ := h
  exact frozen_of_row w c i _ t h
theorem BlkAt.lt {N : Nat} {w : World} {c : Nat} {f : Nat → Value} (h : BlkAt N w c f) : c < w.heap.size := by
  obtain ⟨t, h⟩ := h
  by_cases hc : c < w.heap.size
  · exact hc
  · rw [Array.getElem?_eq_none (by omega)] at h
    cases h
/-- Part of a block. -/
theorem BlkAt.range {N : Nat} {w : World} {c : Nat} {f : Nat → Value} (h : BlkAt N w c f) {o n : Nat} (ho : o + n ≤ N) : w.rangeAt c o ((List.range n).map fun i => f (o + i)) := by
  intro j v hv
  have hj : j < n := by
    have := (List.getElem?_eq_some_iff.1 hv).1
    simpa using this
  rw [h.cell (by omega)]
  simp [hj] at hv
  rw [hv]
theorem bools_row (n : Nat) (S : Nat → Bool) : bools n S = rowF n (fun i => .bool (S i)) := rfl

def sameB (n : Nat) (S T : Nat → Bool) : Bool := (List.range n).all fun i => S i == T i
theorem sameB_iff {n : Nat} {S T : Nat → Bool} : sameB n S T = true ↔ ∀ i, i < n → S i = T i := by
  unfold sameB
  simp

theorem run_part_bools {P : Program} {e : TypeId} (he : P.underlying e = some .bool) (hi : (P.info? e).map (·.size) = some 1) {n : Nat} (S : Nat → Bool) {k : Nat} (hk : k < n) (w : World) :
    (part e (bools n S) k).run P w = .ok (.bool (S k)) w := by
  cases hq : P.info? e with
  | none => simp [hq] at hi
  | some i =>
    have hs : i.size = 1 := by simpa [hq] using hi
    have hg := bools_get S hk
    simp [part, isAgg, run_underlying he, sizeOf, typeInfo, hq, hs, hg, go_sem]
    try omega

theorem run_equalIn_bools {P : Program} {t e : TypeId} {n : Nat} (d : Nat) (ht : P.underlying t = some (.array n e)) (he : P.underlying e = some .bool) (hi : (P.info? e).map (·.size) = some 1) (S T : Nat → Bool) (w : World) :
    (Op.equalIn (d + 2) t (.agg (bools n S)) (.agg (bools n T))).run P w = .ok (sameB n S T) w := by
  have hsz : ∀ w, (sizeOf e).run P w = .ok 1 w := by
    intro w
    cases hq : P.info? e with
    | none => simp [hq] at hi
    | some i =>
      have hs : i.size = 1 := by simpa [hq] using hi
      simp [sizeOf, typeInfo, hq, hs]
  unfold sameB
  rw [List.range_eq_range', Op.equalIn]
  simp only [Sem.run_bind, run_underlying ht, Result.andThen_ok, hsz, Std.Legacy.Range.forIn_eq_forIn_range', Std.Legacy.Range.size, Nat.sub_zero, Nat.add_sub_cancel, Nat.div_one]
  have hl : ∀ i ∈ List.range' 0 n 1, i < n := fun i hi => by simpa using (List.mem_range'_1.1 hi).2
  generalize List.range' 0 n 1 = l at hl ⊢
  induction l with
  | nil => simp
  | cons i l ih =>
    have hk : i < n := hl i (by simp)
    have px := run_part_bools he hi S hk w
    have py := run_part_bools he hi T hk w
    have pe : (Op.equalIn (d + 1) e (.bool (S i)) (.bool (T i))).run P w = .ok (S i == T i) w := run_equalIn_bool' w d e _ _ he
    simp only [List.forIn_cons, Sem.run_bind, Nat.mul_one, px, py, pe, Result.andThen_ok, List.all_cons]
    cases hb : (S i == T i)
    · simp
    · simp only [Bool.not_true, Bool.false_eq_true, if_false, Sem.run_pure, Result.andThen_ok, Bool.true_and]
      simpa only [Nat.mul_one] using ih fun j hj => hl j (by simp [hj])

end Go.Proofs.Ytkoefoccbjhoiab

namespace Go.Proofs.Ytkoefoccbjhoiab
open Go.RowKit

theorem bools_len (n : Nat) (S : Nat → Bool) : (bools n S).toList.length = n := by simp [bools]
theorem size_push (w : World) (o : Obj) : (w.alloc o).heap.size = w.heap.size + 1 := by show (w.heap.push o).size = _; simp
theorem grown_put_same {w w1 : World} {c : Nat} (h : w.grownBy w1 (some c)) (o : Nat) (u : Value) : w.grownBy (w1.setCell ⟨c, o, none⟩ u) (some c) :=
  ⟨h.os, h.tape, h.output, by have := h.size; simpa [World.setCell] using this, fun k hk hr => by rw [Below.heap_setCell _ _ _ _ (fun e => hr (by rw [e]))]; exact h.block k hk hr⟩
theorem two_rows (w : World) (A B : Obj) : ((w.alloc A).alloc B).heap[w.heap.size]? = some A ∧ ((w.alloc A).alloc B).heap[w.heap.size + 1]? = some B :=
  ⟨heap_alloc2_old w A B, heap_alloc2_new w A B⟩
theorem setRow_below {B : Nat} {a w : World} (h : Below B a w) {g : Nat} (hg : B ≤ g) (cs : Array Value) : Below B a (w.setRow g cs) :=
  ⟨h.os, h.tape, h.output, by rw [size_setRow]; exact h.size, fun k hk => by
    rw [← h.block k hk]
    simp [World.setRow, Array.getElem?_modify]
    intro e; omega⟩
theorem heap_setRow {w : World} {g : Nat} {old cs : Array Value} {t : TypeId} {fr : Nat × Nat} (h : w.heap[g]? = some (.cells old t fr)) : (w.setRow g cs).heap[g]? = some (.cells cs t fr) := by
  simp [World.setRow, Array.getElem?_modify, h]
/-- 'wpAnyH_take', the slot that is written named. -/
theorem wpAnyH_takeD {P : Program} {md : Region.Mode} {ops : Array Oper} {Q : Exit → Act → World → Prop} {S : World → Prop} {i : Nat} {oi : Oper} {d : Option Tmp} {v : Value} {fuel : Nat} {listed : Array Bool} {a : Act} {w : World} (hi : ops[i]? = some oi) (hd : oi.dst = d)
    (hs : Region.noSelect ops = true) (hf : Region.free md ops listed i = true) (hr : (Region.ready md ops listed).contains i = true)
    (hQ : ∀ c a w, Q (.panic c) (a.put oi.dst v) w → Q (.panic c) a w) (hy : YieldsIf P ops S oi v a) (hS : S w)
    (h : wpAnyH P md ops Q S fuel (listed.setIfInBounds i true) (a.put d v) w) : wpAnyH P md ops Q S (fuel + 1) listed a w :=
  wpAnyH_take hi hs hf hr hQ hy hS (by rw [hd]; exact h)

end Go.Proofs.Ytkoefoccbjhoiab

namespace Go.Proofs.Ytkoefoccbjhoiab
open Go.RowKit

theorem tmod2 (k : Int) : (k.tmod 2 == 0) = (k % 2 == 0) := by
  have e := Int.tmod_eq_emod (a := k) (b := 2)
  have : k.tmod 2 = 0 ↔ k % 2 = 0 := by rw [e]; split <;> omega
  rw [Bool.eq_iff_iff]; simpa using this

set_option maxRecDepth 100000 in
set_option maxHeartbeats 400000 in
theorem shard_any (k : Int) (w : World) :
    Calls Try.prog 104 #[.int .i64 k] w fun e w' => e = .returned (.int .i64 (k % 2)) ∧ w' = w := by
  have e := tmod2 k
  by_cases h : k % 2 = 0
  · have h1 : (k.tmod 2 == 0) = true := by rw [e]; simpa using h
    clear e
    go_enter Try.func104, Try.ntmps104
    go_wp2
    go_ret
    exact ⟨ret_int (by omega), rfl⟩
  · have h1 : (k.tmod 2 == 0) = false := by rw [e]; simpa using h
    clear e
    go_enter Try.func104, Try.ntmps104
    go_wp2
    go_ret
    exact ⟨ret_int (by omega), rfl⟩

def ofL (k : Int) : Int := if k < 3 then 0 else 1

set_option maxRecDepth 100000 in
set_option maxHeartbeats 400000 in
theorem of_any (k : Int) (w : World) :
    Calls Try.prog 58 #[.int .i64 k] w fun e w' => e = .returned (.int .i64 (ofL k)) ∧ w' = w := by
  by_cases h : k < 3
  · have E : Hid (ofL k = 0) := by unfold ofL Hid; rw [if_pos h]
    go_enter Try.func58, Try.ntmps58
    go_wp2
    go_ret
    exact ⟨ret_int E.out.symm, rfl⟩
  · have E : Hid (ofL k = 1) := by unfold ofL Hid; rw [if_neg h]
    go_enter Try.func58, Try.ntmps58
    go_wp2
    go_ret
    exact ⟨ret_int E.out.symm, rfl⟩

def near (n : Int) : Int := if n < -1099511627776 then -1099511627776 else if 1099511627776 < n then 1099511627776 else n
set_option maxRecDepth 100000 in
set_option maxHeartbeats 400000 in
theorem nearest_any (n : Int) (w : World) :
    Calls Try.prog 139 #[.int .i64 n] w fun e w' => e = .returned (.int .i64 (near n)) ∧ w' = w := by
  by_cases h1 : n < -1099511627776
  · have e : near n = -1099511627776 := by unfold near; rw [if_pos h1]
    have E : Hid (near n = -1099511627776) := e
    clear e
    go_enter Try.func139, Try.ntmps139
    go_wp2
    go_ret
    exact ⟨ret_int E.out.symm, rfl⟩
  · by_cases h2 : 1099511627776 < n
    · have E : Hid (near n = 1099511627776) := by unfold near Hid; rw [if_neg h1, if_pos h2]
      go_enter Try.func139, Try.ntmps139
      go_wp2
      go_ret
      exact ⟨ret_int E.out.symm, rfl⟩
    · have E : Hid (near n = n) := by unfold near Hid; rw [if_neg h1, if_neg h2]
      go_enter Try.func139, Try.ntmps139
      go_wp2
      go_ret
      exact ⟨ret_int E.out.symm, rfl⟩

end Go.Proofs.Ytkoefoccbjhoiab

namespace Go.Proofs.Ytkoefoccbjhoiab
open Go.RowKit

/-- an operation: kind, key, N -/
abbrev OpL := Int × Int × Int

/-- A slice of operations that lies in memory: nothing, or its cells, three an element. -/
def OpsAt (w : World) (a : Option Addr) (zs : List OpL) : Prop :=
  zs = [] ∨ ∃ b off, a = some ⟨b, off, none⟩ ∧ b < w.heap.size ∧ ∀ i, i < zs.length → w.cell? ⟨b, off + i * 3, none⟩ = some (.int .i64 (zs.getD i (0, 0, 0)).1) ∧
    w.cell? ⟨b, off + i * 3 + 1, none⟩ = some (.int .i64 (zs.getD i (0, 0, 0)).2.1) ∧ w.cell? ⟨b, off + i * 3 + 2, none⟩ = some (.int .i64 (zs.getD i (0, 0, 0)).2.2)

theorem OpsAt.later {w w' : World} {a : Option Addr} {zs : List OpL} (h : OpsAt w a zs) (hB : Below w.heap.size w w') : OpsAt w' a zs := by
  rcases h with h | ⟨b, off, ha, hb, hc⟩
  · exact Or.inl h
  · refine Or.inr ⟨b, off, ha, Nat.lt_of_lt_of_le hb hB.size, fun i hi => ?_⟩
    rw [hB.cell (p := ⟨b, off + i * 3, none⟩) hb, hB.cell (p := ⟨b, off + i * 3 + 1, none⟩) hb, hB.cell (p := ⟨b, off + i * 3 + 2, none⟩) hb]
    exact hc i hi

/-- the element at k, in a later world -/
theorem OpsAt.at {w wr : World} {B b off : Nat} {zs : List OpL} (hc : ∀ i, i < zs.length → w.cell? ⟨b, off + i * 3, none⟩ = some (.int .i64 (zs.getD i (0, 0, 0)).1) ∧
    w.cell? ⟨b, off + i * 3 + 1, none⟩ = some (.int .i64 (zs.getD i (0, 0, 0)).2.1) ∧ w.cell? ⟨b, off + i * 3 + 2, none⟩ = some (.int .i64 (zs.getD i (0, 0, 0)).2.2))
    (hb : b < B) (hB : Below B w wr) {k : Nat} (hk : k < zs.length) :
    ∃ q0 q1 q2 : Int, Hid (zs.getD k (0, 0, 0) = (q0, q1, q2)) ∧ wr.cell? ⟨b, off + k * 3, none⟩ = some (.int .i64 q0) ∧ wr.cell? ⟨b, off + k * 3 + 1, none⟩ = some (.int .i64 q1) ∧ wr.cell? ⟨b, off + k * 3 + 2, none⟩ = some (.int .i64 q2) := by
  refine ⟨_, _, _, rfl, ?_⟩
  rw [hB.cell (p := ⟨b, off + k * 3, none⟩) hb, hB.cell (p := ⟨b, off + k * 3 + 1, none⟩) hb, hB.cell (p := ⟨b, off + k * 3 + 2, none⟩) hb]
  exact hc k hk

def meetB (o p : OpL) : Bool := o.2.1 == p.2.1 && (o.1 != 1 || p.1 != 1)
def meetsL (o : OpL) (zs : List OpL) : Bool := zs.any (meetB o)

set_option maxRecDepth 100000 in
set_option maxHeartbeats 400000 in
theorem meets_any (o0 o1 o2 : Int) (a : Option Addr) (cap : Nat) (zs : List OpL) (w : World) (hl : zs.length ≤ maxLen) (hz : OpsAt w a zs) :
    Calls Try.prog 141 #[.agg #[.int .i64 o0, .int .i64 o1, .int .i64 o2], .slice a zs.length cap] w fun e w' => e = .returned (.bool (meetsL (o0, o1, o2) zs)) ∧ Below w.heap.size w w' := by
  unfold maxLen at hl
  rcases hz with rfl | ⟨b, off, rfl, hb, hc⟩
  · go_enter Try.func141, Try.ntmps141
    go_wp2
    refine wp_loop_rounds 1 ?_; rw [rounds_succ]
    go_wp2
    go_ret
    exact ⟨rfl, (Below.refl _ _).alloc (Nat.le_refl _) _⟩
  · go_enter Try.func141, Try.ntmps141
    go_wp2
    go_loopw [9] (fun i wr => ∃ k : Nat, k ≤ zs.length ∧ i = .int .i64 k ∧ (zs.take k).any (meetB (o0, o1, o2)) = false ∧ Below (w.heap.size + 1) (w.alloc (.cells #[.int .i64 o0, .int .i64 o1, .int .i64 o2] 108)) wr) (fun i _ => zs.length - (intOf i).toNat)
    case atStart => exact ⟨0, Nat.zero_le _, rfl, rfl, Below.refl _ _⟩
    case round =>
      obtain ⟨k, hk, rfl, hno, hB⟩ := hrel
      have hBw : Below w.heap.size w wr := ((Below.refl _ w).alloc (Nat.le_refl _) _).trans (hB.mono (by omega))
      have hsz := hBw.size
      have hsz1 : w.heap.size < wr.heap.size := by have := hB.size; simp at this; omega
      have c0 := hB.cell (p := ⟨w.heap.size, 0, none⟩) (by simp)
      have c1 := hB.cell (p := ⟨w.heap.size, 1, none⟩) (by simp)
      simp at c0 c1
      by_cases hlt : k < zs.length
      · obtain ⟨q0, q1, q2, Hq, e0, e1, e2⟩ := OpsAt.at hc hb hBw hlt
        have hm : Hid (meetB (o0, o1, o2) (q0, q1, q2) = (o1 == q1 && (o0 != 1 || q0 != 1))) := rfl
        clear hc
        cases t1 : o1 == q1
        · go_wp2
          go_roundw
          case rel => exact ⟨k + 1, by omega, by go_num, any_step hlt Hq.out hno (by rw [hm.out, t1]; rfl), hB.alloc (by omega) _⟩
          case measure => simp [intOf]; omega
        · cases t2 : o0 != 1
          · cases t3 : q0 != 1
            · go_wp2
              go_roundw
              case rel => exact ⟨k + 1, by omega, by go_num, any_step hlt Hq.out hno (by rw [hm.out, t1, t2, t3]; rfl), hB.alloc (by omega) _⟩
              case measure => simp [intOf]; omega
            · go_wp2
              go_ret
              exact ⟨ret_bool (any_hit hlt Hq.out (by rw [hm.out, t1, t2, t3]; rfl)).symm, hBw.alloc hsz _⟩
          · go_wp2
            go_ret
            exact ⟨ret_bool (any_hit hlt Hq.out (by rw [hm.out, t1, t2]; rfl)).symm, hBw.alloc hsz _⟩
      · go_wp2
        go_ret
        exact ⟨ret_bool (any_end hlt hno).symm, hBw⟩

def touchB (s : Int) (o : OpL) : Bool := o.2.1 % 2 == s
def touchesL (zs : List OpL) (s : Int) : Bool := zs.any (touchB s)

set_option maxRecDepth 100000 in
set_option maxHeartbeats 400000 in
theorem touches_any (a : Option Addr) (cap : Nat) (zs : List OpL) (s : Int) (w : World) (hl : zs.length ≤ maxLen) (hz : OpsAt w a zs) :
    Calls Try.prog 57 #[.slice a zs.length cap, .int .i64 s] w fun e w' => e = .returned (.bool (touchesL zs s)) ∧ Below w.heap.size w w' := by
  unfold maxLen at hl
  rcases hz with rfl | ⟨b, off, rfl, hb, hc⟩
  · go_enter Try.func57, Try.ntmps57
    go_wp2
    refine wp_loop_rounds 1 ?_; rw [rounds_succ]
    go_wp2
    go_ret
    exact ⟨rfl, Below.refl _ _⟩
  · go_enter Try.func57, Try.ntmps57
    go_wp2
    go_loopw [9] (fun i wr => ∃ k : Nat, k ≤ zs.length ∧ i = .int .i64 k ∧ (zs.take k).any (touchB s) = false ∧ Below w.heap.size w wr) (fun i _ => zs.length - (intOf i).toNat)
    case atStart => exact ⟨0, Nat.zero_le _, rfl, rfl, Below.refl _ _⟩
    case round =>
      obtain ⟨k, hk, rfl, hno, hBw⟩ := hrel
      have hsz := hBw.size
      by_cases hlt : k < zs.length
      · obtain ⟨q0, q1, q2, Hq, e0, e1, e2⟩ := OpsAt.at hc hb hBw hlt
        have hm : Hid (touchB s (q0, q1, q2) = (q1 % 2 == s)) := rfl
        clear hc
        cases t1 : q1 % 2 == s
        · go_wp2_with (go_at_call 104; refine (shard_any _ _).mono ?_; rintro e w' ⟨rfl, rfl⟩)
          go_roundw
          case rel => exact ⟨k + 1, by omega, by go_num, any_step hlt Hq.out hno (by rw [hm.out, t1]), hBw.alloc hsz _⟩
          case measure => simp [intOf]; omega
        · go_wp2_with (go_at_call 104; refine (shard_any _ _).mono ?_; rintro e w' ⟨rfl, rfl⟩)
          go_ret
          exact ⟨ret_bool (any_hit hlt Hq.out (by rw [hm.out, t1])).symm, hBw.alloc hsz _⟩
      · go_wp2
        go_ret
        exact ⟨ret_bool (any_end hlt hno).symm, hBw⟩

end Go.Proofs.Ytkoefoccbjhoiab

namespace Go.Proofs.Ytkoefoccbjhoiab
open Go.RowKit

def goodB (o : OpL) : Bool := decide (0 ≤ o.2.1 ∧ o.2.1 < 8 ∧ (o.1 = 1 ∧ o.2.2 = 0 ∨ (o.1 = 2 ∨ o.1 = 3) ∧ -1099511627776 ≤ o.2.2 ∧ o.2.2 ≤ 1099511627776))

theorem near_eq (n : Int) : (n == near n) = decide (-1099511627776 ≤ n ∧ n ≤ 1099511627776) := by
  rw [Bool.eq_iff_iff]
  simp only [beq_iff_eq, decide_eq_true_eq]
  unfold near
  split
  · omega
  · split <;> omega

set_option maxRecDepth 100000 in
set_option maxHeartbeats 400000 in
theorem goodOp_any (o0 o1 o2 : Int) (w : World) :
    Calls Try.prog 124 #[.agg #[.int .i64 o0, .int .i64 o1, .int .i64 o2]] w fun e w' => e = .returned (.bool (goodB (o0, o1, o2))) ∧ Below w.heap.size w w' := by
  by_cases h1 : o1 < 0
  · have E : Hid (goodB (o0, o1, o2) = false) := by unfold goodB Hid; simp; omega
    go_enter Try.func124, Try.ntmps124
    go_wp2
    go_ret
    exact ⟨ret_bool E.out.symm, (Below.refl _ _).alloc (Nat.le_refl _) _⟩
  · by_cases h2 : 8 ≤ o1
    · have E : Hid (goodB (o0, o1, o2) = false) := by unfold goodB Hid; simp; omega
      go_enter Try.func124, Try.ntmps124
      go_wp2
      go_ret
      exact ⟨ret_bool E.out.symm, (Below.refl _ _).alloc (Nat.le_refl _) _⟩
    · cases t1 : o0 == 1
      · cases t2 : o0 == 2
        · cases t3 : o0 == 3
          · have E : Hid (goodB (o0, o1, o2) = false) := by simp at t1 t2 t3; unfold goodB Hid; simp; omega
            go_enter Try.func124, Try.ntmps124
            go_wp2
            go_ret
            exact ⟨ret_bool E.out.symm, (Below.refl _ _).alloc (Nat.le_refl _) _⟩
          · have E : Hid (goodB (o0, o1, o2) = (o2 == near o2)) := by simp at t3; rw [Hid, near_eq, Bool.eq_iff_iff]; unfold goodB; simp; omega
            go_enter Try.func124, Try.ntmps124
            go_wp2
            go_quiet ((go_at_call 139; exact Calls.quiet_of_same (nearest_any _ _)))
            go_wp2
            go_ret
            exact ⟨ret_bool E.out.symm, below_drewN ((Below.refl _ _).alloc (Nat.le_refl _) _) _⟩
        · have E : Hid (goodB (o0, o1, o2) = (o2 == near o2)) := by simp at t2; rw [Hid, near_eq, Bool.eq_iff_iff]; unfold goodB; simp; omega
          go_enter Try.func124, Try.ntmps124
          go_wp2
          go_quiet ((go_at_call 139; exact Calls.quiet_of_same (nearest_any _ _)))
          go_wp2
          go_ret
          exact ⟨ret_bool E.out.symm, below_drewN ((Below.refl _ _).alloc (Nat.le_refl _) _) _⟩
      · have E : Hid (goodB (o0, o1, o2) = (o2 == 0)) := by simp at t1; rw [Hid, Bool.eq_iff_iff]; unfold goodB; simp; omega
        go_enter Try.func124, Try.ntmps124
        go_wp2
        go_ret
        exact ⟨ret_bool E.out.symm, (Below.refl _ _).alloc (Nat.le_refl _) _⟩

def keyB (k : Int) (p : OpL) : Bool := p.2.1 == k
/-- the k-th is good, and none ahead of it has its key -/
def goodAt (zs : List OpL) (k : Nat) : Bool := goodB (zs.getD k (0, 0, 0)) && !(zs.take k).any (keyB (zs.getD k (0, 0, 0)).2.1)
def goodOpsL (zs : List OpL) : Bool := decide (1 ≤ zs.length ∧ zs.length ≤ 4) && (List.range zs.length).all (goodAt zs)

theorem range_step {p : Nat → Bool} {k : Nat} (h : (List.range k).all p = true) (hk : p k = true) : (List.range (k + 1)).all p = true := by
  rw [List.range_succ, List.all_append, h]
  simp [hk]
theorem range_miss {p : Nat → Bool} {k n : Nat} (hn : k < n) (hk : p k = false) : (List.range n).all p = false :=
  List.all_eq_false.2 ⟨k, List.mem_range.2 hn, by simp [hk]⟩

theorem good_len {zs : List OpL} (h : zs.length < 1 ∨ 4 < zs.length) : goodOpsL zs = false := by
  unfold goodOpsL
  rw [decide_eq_false (by omega), Bool.false_and]
theorem good_len_yes {zs : List OpL} (h : ¬ zs.length < 1) (h' : ¬ 4 < zs.length) : goodOpsL zs = (List.range zs.length).all (goodAt zs) := by
  unfold goodOpsL
  rw [decide_eq_true (by omega), Bool.true_and]

def seenOf (zs : List OpL) (k : Nat) (i : Nat) : Bool := (zs.take k).any (keyB (i : Int))
theorem seen_step {zs : List OpL} {k m : Nat} {q0 q2 : Int} (hk : k < zs.length) (hq : zs.getD k (0, 0, 0) = (q0, (m : Int), q2)) (i : Nat) : (if i = m then true else seenOf zs k i) = seenOf zs (k + 1) i := by
  have : zs[k] = (q0, (m : Int), q2) := by rw [← hq]; simp [List.getD, hk]
  unfold seenOf
  rw [List.take_succ_eq_append_getElem hk, List.any_append, this]
  by_cases e : i = m
  · subst e
    simp [keyB]
  · rw [if_neg e]
    have : keyB (i : Int) (q0, (m : Int), q2) = false := by simp [keyB]; omega
    simp [this]

theorem SetAt.later {n : Nat} {w w' : World} {c B : Nat} {S : Nat → Bool} (h : SetAt n w c S) (hB : Below B w w') (hc : c < B) : SetAt n w' c S := by
  obtain ⟨t, h⟩ := h
  exact ⟨t, by rw [hB.block c hc]; exact h⟩

theorem zero8 : bools 8 (fun _ => false) = #[.bool false, .bool false, .bool false, .bool false, .bool false, .bool false, .bool false, .bool false] := by rfl

theorem goodAt_no1 {zs : List OpL} {k : Nat} {q : OpL} (hq : zs.getD k (0, 0, 0) = q) (h : goodB q = false) : goodAt zs k = false := by
  unfold goodAt
  rw [hq, h, Bool.false_and]
theorem goodAt_no2 {zs : List OpL} {k m : Nat} {q0 q2 : Int} (hq : zs.getD k (0, 0, 0) = (q0, (m : Int), q2)) (h : seenOf zs k m = true) : goodAt zs k = false := by
  unfold goodAt
  rw [hq]
  unfold seenOf at h
  simp only [h, Bool.not_true, Bool.and_false]
theorem goodAt_yes {zs : List OpL} {k m : Nat} {q0 q2 : Int} (hq : zs.getD k (0, 0, 0) = (q0, (m : Int), q2)) (h1 : goodB (q0, (m : Int), q2) = true) (h : seenOf zs k m = false) : goodAt zs k = true := by
  unfold goodAt
  rw [hq]
  unfold seenOf at h
  simp only [h, h1, Bool.not_false, Bool.and_true]
theorem goodB_key {q0 q1 q2 : Int} (h : goodB (q0, q1, q2) = true) : 0 ≤ q1 ∧ q1 < 8 := by
  unfold goodB at h
  have := of_decide_eq_true h
  exact ⟨this.1, this.2.1⟩

set_option maxRecDepth 100000 in
set_option maxHeartbeats 1000000 in
theorem goodOps_any (a : Option Addr) (cap : Nat) (zs : List OpL) (w : World) (hl : zs.length ≤ maxLen) (hz : OpsAt w a zs) :
    Calls Try.prog 90 #[.slice a zs.length cap] w fun e w' => e = .returned (.bool (goodOpsL zs)) ∧ Below w.heap.size w w' := by
  unfold maxLen at hl
  by_cases h1 : zs.length < 1
  · have E : Hid (goodOpsL zs = false) := good_len (Or.inl h1)
    go_enter Try.func90, Try.ntmps90
    go_wp2
    go_ret
    exact ⟨ret_bool E.out.symm, Below.refl _ _⟩
  by_cases h2 : 4 < zs.length
  · have E : Hid (goodOpsL zs = false) := good_len (Or.inr h2)
    go_enter Try.func90, Try.ntmps90
    go_wp2
    go_ret
    exact ⟨ret_bool E.out.symm, Below.refl _ _⟩
  have E : Hid (goodOpsL zs = (List.range zs.length).all (goodAt zs)) := good_len_yes h1 h2
  rcases hz with rfl | ⟨b, off, rfl, hb, hc⟩
  · simp at h1
  go_enter Try.func90, Try.ntmps90
  go_wp2
  rw [← zero8]
  go_loopw [16] (fun i wr => ∃ k : Nat, k ≤ zs.length ∧ i = .int .i64 k ∧ Hid ((List.range k).all (goodAt zs) = true) ∧ SetAt 8 wr w.heap.size (seenOf zs k) ∧ Below w.heap.size w wr) (fun i _ => zs.length - (intOf i).toNat)
  case atStart => exact ⟨0, Nat.zero_le _, rfl, rfl, ⟨139, heap_new _ _⟩, (Below.refl _ _).alloc (Nat.le_refl _) _⟩
  case round =>
    obtain ⟨k, hk, rfl, hall, hS, hBw⟩ := hrel
    have hsz := hBw.size
    have hcl := hS.lt
    by_cases hlt : k < zs.length
    · obtain ⟨q0, q1, q2, Hq, e0, e1, e2⟩ := OpsAt.at hc hb hBw hlt
      clear hc
      go_wp2_with fail
      refine (goodOp_any q0 q1 q2 _).mono ?_
      rintro e w1 ⟨rfl, hb1⟩
      have f1 := hb1.cell (p := ⟨wr.heap.size, 1, none⟩) (by simp)
      simp at f1
      have hS1 : SetAt 8 w1 w.heap.size (seenOf zs k) := (hS.later ((Below.refl _ _).alloc (Nat.le_refl _) _) hcl).later hb1 (by simp; omega)
      have hb2 : Below w.heap.size w w1 := (hBw.alloc hsz _).trans (hb1.mono (by simp; omega))
      have hz1 : wr.heap.size < w1.heap.size := by have := hb1.size; simp at this; omega
      clear hb1
      cases tg : goodB (q0, q1, q2)
      · have N : Hid (goodOpsL zs = false) := by unfold Hid; rw [E.out]; exact range_miss hlt (goodAt_no1 Hq.out tg)
        go_wp2
        go_ret
        exact ⟨ret_bool N.out.symm, hb2⟩
      · obtain ⟨k0, k1⟩ := goodB_key tg
        obtain ⟨m, rfl⟩ := Int.eq_ofNat_of_zero_le k0
        have hm : m < 8 := by omega
        have g1 := hS1.cell hm
        have g2 := hS1.frozen m
        cases ts : seenOf zs k m
        · rw [ts] at g1
          have Y : Hid ((List.range (k + 1)).all (goodAt zs) = true) := range_step hall.out (goodAt_yes Hq.out tg ts)
          have HS : SetAt 8 (w1.setCell ⟨w.heap.size, m, none⟩ (.bool true)) w.heap.size (seenOf zs (k + 1)) := (hS1.put m true).congr (fun i _ => seen_step hlt Hq.out i)
          clear hS1 hS
          go_wp2
          go_roundw
          case rel => exact ⟨k + 1, by omega, by go_num, Y, HS, hb2.setCell (by simp) _⟩
          case measure => simp [intOf]; omega
        · rw [ts] at g1
          have N : Hid (goodOpsL zs = false) := by unfold Hid; rw [E.out]; exact range_miss hlt (goodAt_no2 Hq.out ts)
          go_wp2
          go_ret
          exact ⟨ret_bool N.out.symm, hb2⟩
    · have N : Hid (goodOpsL zs = true) := by
        unfold Hid
        have : k = zs.length := by omega
        rw [E.out, ← this]
        exact hall.out
      go_wp2
      go_ret
      exact ⟨ret_bool N.out.symm, hBw⟩

end Go.Proofs.Ytkoefoccbjhoiab

namespace Go.Proofs.Ytkoefoccbjhoiab
open Go.RowKit

def risingFrom : Int → List Int → Bool
  | _, [] => true
  | l, n :: r => !(decide (n ≤ l) || decide (32 ≤ n)) && risingFrom n r

theorem drop_at {zs : List Int} {k : Nat} {q : Int} (hk : k < zs.length) (hq : zs.getD k 0 = q) : zs.drop k = q :: zs.drop (k + 1) := by
  rw [List.drop_eq_getElem_cons hk]
  have : zs[k] = q := by rw [← hq]; simp [List.getD, hk]
  rw [this]

theorem rising_no {zs : List Int} {k : Nat} {q l m : Int} (hk : k < zs.length) (hq : zs.getD k 0 = q) (h : risingFrom m zs = risingFrom l (zs.drop k)) (hn : q ≤ l ∨ 32 ≤ q) : risingFrom m zs = false := by
  rw [h, drop_at hk hq, risingFrom]
  have : (decide (q ≤ l) || decide (32 ≤ q)) = true := by simpa using hn
  rw [this]
  rfl
theorem rising_yes {zs : List Int} {k : Nat} {q l m : Int} (hk : k < zs.length) (hq : zs.getD k 0 = q) (h : risingFrom m zs = risingFrom l (zs.drop k)) (h1 : ¬ q ≤ l) (h2 : ¬ 32 ≤ q) : risingFrom m zs = risingFrom q (zs.drop (k + 1)) := by
  rw [h, drop_at hk hq, risingFrom]
  simp [h1, h2]
theorem rising_end {zs : List Int} {k : Nat} {l m : Int} (hk : ¬ k < zs.length) (h : risingFrom m zs = risingFrom l (zs.drop k)) : risingFrom m zs = true := by
  rw [h, List.drop_of_length_le (by omega)]
  rfl

set_option maxRecDepth 100000 in
set_option maxHeartbeats 400000 in
theorem rising_any (a : Option Addr) (cap : Nat) (zs : List Int) (w : World) (hl : zs.length ≤ maxLen) (hz : IntsAt w.heap.size w a zs) :
    Calls Try.prog 97 #[.slice a zs.length cap] w fun e w' => e = .returned (.bool (risingFrom (-1) zs)) ∧ w' = w := by
  unfold maxLen at hl
  rcases hz with rfl | ⟨b, off, rfl, hb, hc⟩
  · go_enter Try.func97, Try.ntmps97
    go_wp2
    refine wp_loop_rounds 1 ?_; rw [rounds_succ]
    go_wp2
    go_ret
    exact ⟨rfl, rfl⟩
  · go_enter Try.func97, Try.ntmps97
    go_wp2
    go_loop [3, 8] (fun l i => ∃ (k : Nat) (q : Int), k ≤ zs.length ∧ i = .int .i64 k ∧ l = .int .i64 q ∧ Hid (risingFrom (-1) zs = risingFrom q (zs.drop k))) (fun _ i => zs.length - (intOf i).toNat)
    case atStart => exact ⟨0, -1, Nat.zero_le _, rfl, rfl, rfl⟩
    case round =>
      obtain ⟨k, l, hk, rfl, rfl, hno⟩ := hrel
      by_cases hlt : k < zs.length
      · obtain ⟨q, Hq, e0⟩ := IntsAt.at hc hb (Below.refl _ _) hlt
        clear hc
        by_cases t1 : q ≤ l
        · go_wp2
          go_ret
          exact ⟨ret_bool (rising_no hlt Hq.out hno.out (Or.inl t1)).symm, rfl⟩
        · by_cases t2 : 32 ≤ q
          · go_wp2
            go_ret
            exact ⟨ret_bool (rising_no hlt Hq.out hno.out (Or.inr t2)).symm, rfl⟩
          · go_wp2
            go_round
            case rel => exact ⟨k + 1, q, by omega, by go_num, rfl, rising_yes hlt Hq.out hno.out t1 t2⟩
            case measure => simp [intOf]; omega
      · go_wp2
        go_ret
        exact ⟨ret_bool (rising_end hlt hno.out).symm, rfl⟩

end Go.Proofs.Ytkoefoccbjhoiab

namespace Go.Proofs.Ytkoefoccbjhoiab
open Go.RowKit

structure FrameL where
  kind : Int
  node : Int
  id : Int
  ops : List OpL
  deps : List Int
  ats : List Int
  vals : List Int

def byt (n : Int) : UInt8 := UInt8.ofNat (n % 256).toNat
def sixAt (m : Int) : List UInt8 := [byt (m / 1099511627776), byt (m / 4294967296), byt (m / 16777216), byt (m / 65536), byt (m / 256), byt m]
def six (n : Int) : List UInt8 := sixAt (n + 140737488355328)
def encTold : List Int → List Int → List UInt8
  | a :: xs, v :: vs => byt a :: six v ++ encTold xs vs
  | _, _ => []
/-- a reader: what is left, and whether something was lacking -/
structure Rd where
  rest : List UInt8
  short : Bool

/- what was read, if nothing was lacking, stood there -/
/- what stands there is read -/
/- good frames -/
def toldFrom : Int → List Int → List Int → Bool
  | l, a :: xs, v :: vs => !(decide (a ≤ l) || decide (4 ≤ a)) && decide (-1099511627776 ≤ v ∧ v ≤ 1099511627776) && toldFrom a xs vs
  | _, _, _ => true
def goodOpsF (f : FrameL) : Bool := if f.kind = 1 ∨ f.kind = 3 then goodOpsL f.ops else decide (f.ops.length = 0)
def goodDepsF (f : FrameL) : Bool := if f.kind = 2 ∨ f.kind = 3 then risingFrom (-1) f.deps && !hasL f.deps f.id else decide (f.deps.length = 0)
def goodToldF (f : FrameL) : Bool := decide (f.kind = 5 ∨ f.ats.length = 0) && (decide (f.vals.length = f.ats.length) && toldFrom (-1) f.ats f.vals)
def goodL (f : FrameL) : Int :=
  if f.kind < 1 ∨ 5 < f.kind then 3 else if f.node < 0 ∨ 6 ≤ f.node ∨ f.id < 0 ∨ 32 ≤ f.id then 2
  else if goodOpsF f && (goodDepsF f && goodToldF f) then 0 else 1

theorem rising_in : ∀ (zs : List Int) (l : Int), risingFrom l zs = true → (∀ n ∈ zs, l < n ∧ n < 32) ∧ (zs = [] ∨ (zs.length : Int) ≤ 31 - l)
  | [], l, _ => ⟨by simp, Or.inl rfl⟩
  | n :: r, l, h => by
    rw [risingFrom] at h
    simp only [Bool.and_eq_true, Bool.not_eq_true', Bool.or_eq_false_iff, decide_eq_false_iff_not] at h
    obtain ⟨⟨h1, h2⟩, h3⟩ := h
    obtain ⟨i1, i2⟩ := rising_in r n h3
    refine ⟨fun m hm => ?_, Or.inr ?_⟩
    · rcases List.mem_cons.1 hm with rfl | hm
      · omega
      · have := i1 m hm
        omega
    · rcases i2 with rfl | i2
      · simp; omega
      · simp; omega

theorem told_in : ∀ (xs vs : List Int) (l : Int), vs.length = xs.length → toldFrom l xs vs = true → (∀ n ∈ xs, l < n ∧ n < 4) ∧ (∀ n ∈ vs, -1099511627776 ≤ n ∧ n ≤ 1099511627776) ∧ (xs = [] ∨ (xs.length : Int) ≤ 3 - l)
  | [], [], l, _, _ => ⟨by simp, by simp, Or.inl rfl⟩
  | [], _ :: _, _, h, _ => by simp at h
  | _ :: _, [], _, h, _ => by simp at h
  | a :: xs, v :: vs, l, hl, h => by
    rw [toldFrom] at h
    simp only [Bool.and_eq_true, Bool.not_eq_true', Bool.or_eq_false_iff, decide_eq_false_iff_not, decide_eq_true_eq] at h
    obtain ⟨⟨⟨h1, h2⟩, h3⟩, h4⟩ := h
    obtain ⟨i1, i2, i3⟩ := told_in xs vs a (by simpa using hl) h4
    refine ⟨fun m hm => ?_, fun m hm => ?_, Or.inr ?_⟩
    · rcases List.mem_cons.1 hm with rfl | hm
      · omega
      · have := i1 m hm
        omega
    · rcases List.mem_cons.1 hm with rfl | hm
      · omega
      · exact i2 m hm
    · rcases i3 with rfl | i3
      · simp; omega
      · simp; omega

/- Decode -/
def zeroF : FrameL := ⟨0, 0, 0, [], [], [], []⟩
end Go.Proofs.Ytkoefoccbjhoiab

namespace Go.Proofs.Ytkoefoccbjhoiab
open Go.RowKit

theorem wraps_i64 (n : Int) (h₀ : 0 ≤ n) (h₁ : n < 2 ^ 63) : IntKind.i64.wrap n = n := by rw [IntKind.wrap_i64]; omega
end Go.Proofs.Ytkoefoccbjhoiab

namespace Go.Proofs.Ytkoefoccbjhoiab
open Go.ChangeShapes Go.WideShapes Go.ChangeAt Go.RowKit Go.Deep

theorem own : ownKnob Try.prog.godebug = none := by kernel_rfl
theorem laidOut : laidOutB Try.prog = true := by kernel_rfl
theorem Try.cellsInt : Try.prog.cellsOf 3 = 1 := by kernel_rfl
theorem Try.bytesInt : Try.prog.bytesOf 3 = 8 := by kernel_rfl

def Fits (x : Int) : Prop := (Lit.int .i64 x).wf = true

theorem add_none {b off j : Nat} : (⟨b, off, none⟩ : Addr).add j = ⟨b, off + j, none⟩ := by
  unfold Addr.add
  split
  · subst_vars; simp
  · simp

theorem lt_of_cell {w : World} {a : Addr} {v : Value} (h : w.cell? a = some v) : a.block < w.heap.size := by
  by_cases hq : a.block < w.heap.size
  · exact hq
  · have hn : w.heap[a.block]? = none := Array.getElem?_eq_none (by omega)
    simp [World.cell?, hn] at h

section
variable {H : Type} {enc : TypeId × Value → H} {P : Program} {w : World} {base : Nat} {spare : Nat → Bool} {held : Bool}

/-- A slice of ints that came in. -/
theorem open_intsAt {t e : TypeId} {fuel : Nat} {a : Option Addr} {len cap : Nat} {x : DataW H × List MemPlace} (ht : P.underlying t = some (.slice e)) (he : P.underlying e = some (.int .i64)) (hc : P.cellsOf e = 1)
    (h : DataW.trod enc P w base spare held fuel t [.slice a len cap] = some x) :
    len ≤ maxLen ∧ ∃ zs : List Int, zs.length = len ∧ IntsAt w.heap.size w a zs ∧ (∀ n ∈ zs, Fits n) ∧ (a = none → len = 0 ∧ cap = 0) ∧ len ≤ cap := by
  rcases open_ints ht he hc h with ⟨hcs, _⟩ | ⟨x, l, c, zs, hcs, _, hl, hm, hz, _, hcell, hwz⟩
  · simp at hcs
    obtain ⟨rfl, rfl, rfl⟩ := hcs
    exact ⟨Nat.zero_le _, [], rfl, Or.inl rfl, by simp, fun _ => ⟨rfl, rfl⟩, Nat.le_refl _⟩
  · simp at hcs
    obtain ⟨rfl, rfl, rfl⟩ := hcs
    have hlen : len ≤ zs.length := by rw [hz]; split <;> omega
    refine ⟨by omega, zs.take len, by simp; omega, ?_, fun n hn => hwz n (List.mem_of_mem_take hn), fun h => by simp at h, hl⟩
    by_cases h0 : len = 0
    · left
      simp [h0]
    · right
      obtain ⟨b, off, spot⟩ := x
      have hc0 := hcell 0 (by omega)
      have hs : spot = none := by simpa [Addr.add] using World.cell?_spot hc0
      subst hs
      refine ⟨b, off, rfl, by simpa [Addr.add] using lt_of_cell hc0, fun i hi => ?_⟩
      have hi' : i < len := by simp at hi; omega
      have := hcell i (by omega)
      rw [add_none] at this
      rw [this]
      simp [List.getD, hi']

/-- What a slice that came in reads as: as many elements as its length. -/
theorem slice_datum {t e : TypeId} {fuel : Nat} {a : Option Addr} {len cap : Nat} {d : DataW H} {p : List MemPlace} (ht : P.underlying t = some (.slice e)) (h : DataW.trod enc P w base spare held fuel t [.slice a len cap] = some (d, p)) :
    len = 0 ∨ ∃ elems sp, d = .slice elems sp ∧ elems.length = len := by
  rcases open_slice ht h with ⟨hcs, _⟩ | ⟨x, l, c, m, n, D, Pl, hcs, hb, hl, hm, hmm, hx, _⟩
  · simp at hcs
    exact Or.inl hcs.2.1
  · simp at hcs
    obtain ⟨rfl, rfl, rfl⟩ := hcs
    simp only [Prod.mk.injEq] at hx
    exact Or.inr ⟨_, _, hx.1, by simp⟩

end

end Go.Proofs.Ytkoefoccbjhoiab

namespace Go.Proofs.Ytkoefoccbjhoiab
open Go.ChangeShapes Go.WideShapes Go.ChangeAt Go.RowKit Go.Deep

theorem Try.cellsOp : Try.prog.cellsOf 108 = 3 := by kernel_rfl

theorem Try.bytesOp : Try.prog.bytesOf 108 = 24 := by kernel_rfl

def FitsOp (o : OpL) : Prop := Fits o.1 ∧ Fits o.2.1 ∧ Fits o.2.2

section
variable {H : Type} {enc : TypeId × Value → H} {P : Program} {w : World} {base : Nat} {spare : Nat → Bool} {held : Bool}

/-- A slice of operations that came in. -/
theorem open_opsAt {t e f : TypeId} {fuel : Nat} {a : Option Addr} {len cap : Nat} {x : DataW H × List MemPlace} {f0 f1 f2 : Field} (ht : P.underlying t = some (.slice e)) (he : P.underlying e = some (.struct #[f0, f1, f2])) (hf : P.underlying f = some (.int .i64))
    (hc : P.cellsOf e = 3) (hcf : P.cellsOf f = 1) (y0 : f0.type = f) (y1 : f1.type = f) (y2 : f2.type = f) (o0 : f0.offset = 0) (o1 : f1.offset = 1) (o2 : f2.offset = 2)
    (h : DataW.trod enc P w base spare held fuel t [.slice a len cap] = some x) :
    len ≤ maxLen ∧ ∃ zs : List OpL, zs.length = len ∧ OpsAt w a zs ∧ (∀ o ∈ zs, FitsOp o) ∧ (a = none → len = 0 ∧ cap = 0) ∧ len ≤ cap := by
  rcases open_slice ht h with ⟨hcs, _⟩ | ⟨x, l, c, m, n, D, Pl, hcs, hb, hl, hm, hmm, _, hx⟩
  · simp at hcs
    obtain ⟨rfl, rfl, rfl⟩ := hcs
    exact ⟨Nat.zero_le _, [], rfl, Or.inl rfl, by simp, fun _ => ⟨rfl, rfl⟩, Nat.le_refl _⟩
  · simp at hcs
    obtain ⟨rfl, rfl, rfl⟩ := hcs
    have hlm : len ≤ m := by rw [hmm]; split <;> omega
    have each : ∀ i, i < len → ∃ q : OpL, w.cell? (x.add (i * 3)) = some (.int .i64 q.1) ∧ w.cell? (x.add (i * 3 + 1)) = some (.int .i64 q.2.1) ∧ w.cell? (x.add (i * 3 + 2)) = some (.int .i64 q.2.2) ∧ FitsOp q := by
      intro i hi
      obtain ⟨cs', h1, h2⟩ := hx i (by omega)
      rw [hc] at h1
      obtain ⟨_, hlen, hcell⟩ := World.cells?_some h1
      obtain ⟨xs, k, hk, hxy, _, hxl, hfs⟩ := DataW.trod_struct he h2
      match xs, hxl, cs', hlen with
      | [z0, z1, z2], _, [v0, v1, v2], _ =>
        have g0 := hfs 0 f0 rfl
        have g1 := hfs 1 f1 rfl
        have g2 := hfs 2 f2 rfl
        simp [y0, y1, y2, o0, o1, o2, hcf] at g0 g1 g2
        obtain ⟨n0, r0, _, q0⟩ := DataW.trod_int hf g0
        obtain ⟨n1, r1, _, q1⟩ := DataW.trod_int hf g1
        obtain ⟨n2, r2, _, q2⟩ := DataW.trod_int hf g2
        simp at r0 r1 r2
        subst r0 r1 r2
        have e0 := hcell 0 (by omega)
        have e1 := hcell 1 (by omega)
        have e2 := hcell 2 (by omega)
        rw [add_add] at e0 e1 e2
        exact ⟨(n0, n1, n2), by simpa using e0, by simpa using e1, by simpa using e2, q0, q1, q2⟩
    obtain ⟨Q, hQ⟩ := choose_lt each
    refine ⟨by omega, (List.range len).map Q, by simp, ?_, ?_, fun h => by simp at h, hl⟩
    · by_cases h0 : len = 0
      · left
        simp [h0]
      · right
        obtain ⟨b, off, spot⟩ := x
        have hc0 := (hQ 0 (by omega)).1
        have hs : spot = none := by simpa [Addr.add] using World.cell?_spot hc0
        subst hs
        refine ⟨b, off, rfl, by simpa [Addr.add] using lt_of_cell hc0, fun i hi => ?_⟩
        have hi' : i < len := by simpa using hi
        obtain ⟨t0, t1, t2, _⟩ := hQ i hi'
        rw [add_none] at t0 t1 t2
        have hg : ((List.range len).map Q).getD i (0, 0, 0) = Q i := by simp [List.getD, hi']
        rw [hg]
        exact ⟨t0, t1, t2⟩
    · intro o ho
      obtain ⟨i, hi, rfl⟩ := List.mem_map.1 ho
      exact (hQ i (List.mem_range.1 hi)).2.2.2

end

end Go.Proofs.Ytkoefoccbjhoiab
