/-
  Plain facts on lists, of our own: what a loop has seen of a list so far.
  What our texts on every package stand on: slices of ints and arrays of truths as they lie in memory.
  Plain mathematics of the search: what hangs on what, and that the search with a stack finds, of all that was met, just what each hangs on.
-/
import Derived.WalkKit
import Derived.Test.YtkoefoccbjhoiabRows
import Derived.WalkSpells
import Derived.WalkLawsBesides
import Derived.Deep.QuietTactic
import Derived.BigQuiet
set_option linter.unusedVariables false
set_option linter.unusedSimpArgs false
namespace Go.Proofs.Ytkoefoccbjhoiab
open Go.RowKit

theorem any_step {α : Type} {p : α → Bool} {zs : List α} {k : Nat} {d x : α} (hk : k < zs.length) (hx : zs.getD k d = x) (hno : (zs.take k).any p = false) (hp : p x = false) : (zs.take (k + 1)).any p = false := by
  rw [List.take_succ_eq_append_getElem hk, List.any_append, hno]
  have : zs[k] = x := by rw [← hx]; simp [List.getD, hk]
  simp [this, hp]

theorem any_hit {α : Type} {p : α → Bool} {zs : List α} {k : Nat} {d x : α} (hk : k < zs.length) (hx : zs.getD k d = x) (hp : p x = true) : zs.any p = true := by
  have : zs[k] = x := by rw [← hx]; simp [List.getD, hk]
  exact List.any_eq_true.2 ⟨x, this ▸ List.getElem_mem hk, hp⟩

theorem any_end {α : Type} {p : α → Bool} {zs : List α} {k : Nat} (hk : ¬ k < zs.length) (hno : (zs.take k).any p = false) : zs.any p = false := by
  rwa [List.take_of_length_le (by omega)] at hno

theorem all_step {α : Type} {p : α → Bool} {zs : List α} {k : Nat} {d x : α} (hk : k < zs.length) (hx : zs.getD k d = x) (hno : (zs.take k).all p = true) (hp : p x = true) : (zs.take (k + 1)).all p = true := by
  rw [List.take_succ_eq_append_getElem hk, List.all_append, hno]
  have : zs[k] = x := by rw [← hx]; simp [List.getD, hk]
  simp [this, hp]

theorem all_miss {α : Type} {p : α → Bool} {zs : List α} {k : Nat} {d x : α} (hk : k < zs.length) (hx : zs.getD k d = x) (hp : p x = false) : zs.all p = false := by
  have : zs[k] = x := by rw [← hx]; simp [List.getD, hk]
  exact List.all_eq_false.2 ⟨x, this ▸ List.getElem_mem hk, by simp [hp]⟩

theorem all_end {α : Type} {p : α → Bool} {zs : List α} {k : Nat} (hk : ¬ k < zs.length) (hno : (zs.take k).all p = true) : zs.all p = true := by
  rwa [List.take_of_length_le (by omega)] at hno

end Go.Proofs.Ytkoefoccbjhoiab

namespace Go.Proofs.Ytkoefoccbjhoiab
open Go.RowKit

theorem ret_int {k : IntKind} {a b : Int} (h : a = b) : Ending.returned (.int k a) = .returned (.int k b) := by rw [h]
theorem ret_bool {a b : Bool} (h : a = b) : Ending.returned (.bool a) = .returned (.bool b) := by rw [h]

/-- A slice of ints that lies in memory, in a block below B: nothing, or its cells. -/
def IntsAt (B : Nat) (w : World) (a : Option Addr) (zs : List Int) : Prop :=
  zs = [] ∨ ∃ b off, a = some ⟨b, off, none⟩ ∧ b < B ∧ ∀ i, i < zs.length → w.cell? ⟨b, off + i, none⟩ = some (.int .i64 (zs.getD i 0))

theorem IntsAt.later {B : Nat} {w w' : World} {a : Option Addr} {zs : List Int} (h : IntsAt B w a zs) (hB : Below B w w') : IntsAt B w' a zs := by
  rcases h with h | ⟨b, off, ha, hb, hc⟩
  · exact Or.inl h
  · refine Or.inr ⟨b, off, ha, hb, fun i hi => ?_⟩
    rw [hB.cell (p := ⟨b, off + i, none⟩) hb]
    exact hc i hi

theorem IntsAt.mono {B B' : Nat} {w : World} {a : Option Addr} {zs : List Int} (h : IntsAt B w a zs) (hB : B ≤ B') : IntsAt B' w a zs := by
  rcases h with h | ⟨b, off, ha, hb, hc⟩
  · exact Or.inl h
  · exact Or.inr ⟨b, off, ha, by omega, hc⟩

theorem heap_new (w : World) (o : Obj) : (w.alloc o).heap[w.heap.size]? = some o := by
  show (w.heap.push o)[w.heap.size]? = some o
  simp

/-- n truths, as the cells of an array. -/
def bools (n : Nat) (S : Nat → Bool) : Array Value := ((List.range n).map fun i => Value.bool (S i)).toArray
theorem bools_size (n : Nat) (S : Nat → Bool) : (bools n S).size = n := by simp [bools]
theorem bools_get {n : Nat} (S : Nat → Bool) {i : Nat} (h : i < n) : (bools n S)[i]? = some (.bool (S i)) := by simp [bools, h]
theorem bools_set {n : Nat} (S : Nat → Bool) {m : Nat} (b : Bool) : (bools n S).setIfInBounds m (.bool b) = bools n (fun i => if i = m then b else S i) := by
  apply Array.ext_getElem?
  intro i
  rw [Array.getElem?_setIfInBounds]
  by_cases hi : i < n
  · by_cases e : m = i
    · subst e
      simp [bools, hi]
    · rw [if_neg e]
      simp [bools, hi, show ¬ i = m from fun h => e h.symm]
  · have h1 : (bools n S).size ≤ i := by rw [bools_size]; omega
    have h2 : (bools n (fun i => if i = m then b else S i)).size ≤ i := by rw [bools_size]; omega
    rw [Array.getElem?_eq_none h1, Array.getElem?_eq_none h2]
    simp
    omega

/-- An array of n truths at block c, as a function. -/
def SetAt (n : Nat) (w : World) (c : Nat) (S : Nat → Bool) : Prop := ∃ t, w.heap[c]? = some (.cells (bools n S) t (0, 0))

theorem SetAt.congr {n : Nat} {w : World} {c : Nat} {S T : Nat → Bool} (h : SetAt n w c S) (e : ∀ i, i < n → S i = T i) : SetAt n w c T := by
  have : bools n S = bools n T := by
    unfold bools
    rw [List.map_congr_left fun i hi => by rw [e i (List.mem_range.1 hi)]]
  obtain ⟨t, h⟩ := h
  exact ⟨t, by rw [← this]; exact h⟩
theorem SetAt.cell {n : Nat} {w : World} {c : Nat} {S : Nat → Bool} (h : SetAt n w c S) {i : Nat} (hi : i < n) : w.cell? ⟨c, i, none⟩ = some (.bool (S i)) := by
  obtain ⟨t, h⟩ := h
  rw [cell_of_row w c i _ t _ h, bools_get S hi]
theorem SetAt.frozen {n : Nat} {w : World} {c : Nat} {S : Nat → Bool} (h : SetAt n w c S) (i : Nat) : w.frozen? ⟨c, i, none⟩ = false := by
  obtain ⟨t, h⟩ := h
  exact frozen_of_row w c i _ t h
theorem SetAt.put {n : Nat} {w : World} {c : Nat} {S : Nat → Bool} (h : SetAt n w c S) (m : Nat) (b : Bool) : SetAt n (w.setCell ⟨c, m, none⟩ (.bool b)) c (fun i => if i = m then b else S i) := by
  obtain ⟨t, h⟩ := h
  exact ⟨t, by rw [heap_setCell_same w c m _ t _ h, bools_set]⟩
theorem SetAt.lt {n : Nat} {w : World} {c : Nat} {S : Nat → Bool} (h : SetAt n w c S) : c < w.heap.size := by
  obtain ⟨t, h⟩ := h
  by_cases hc : c < w.heap.size
  · exact hc
  · rw [Array.getElem?_eq_none (by omega)] at h
    cases h

theorem contains_step {zs : List Int} {k : Nat} {x : Int} (hk : k < zs.length) (hx : zs.getD k 0 = x) (i : Nat) : (zs.take (k + 1)).contains (i : Int) = ((zs.take k).contains (i : Int) || (i : Int) == x) := by
  have : zs[k] = x := by rw [← hx]; simp [List.getD, hk]
  rw [List.take_succ_eq_append_getElem hk, List.contains_append, this]
  rw [Bool.eq_iff_iff]
  simp

theorem or_cast (x y : Bool) (i m : Nat) : (if i = m then true else (x || y)) = (x || (y || (i : Int) == (m : Int))) := by
  have e : ((i : Int) == (m : Int)) = (i == m) := by rw [Bool.eq_iff_iff]; simp; omega
  rw [e]
  by_cases h : i = m
  · simp [h]
  · have : (i == m) = false := by simpa using h
    rw [if_neg h, this, Bool.or_false]

theorem or_miss (x y : Bool) {i : Nat} {q : Int} (h : (i : Int) ≠ q) : (x || y) = (x || (y || (i : Int) == q)) := by
  have e : ((i : Int) == q) = false := by simpa using h
  rw [e, Bool.or_false]

theorem run_index_bools {P : Program} {t e : TypeId} {n : Nat} (ht : P.underlying t = some (.array n e)) (he : P.underlying e = some .bool) (hi : (P.info? e).map (·.size) = some 1) (S : Nat → Bool) {k : Nat} (hk : k < n) (w : World) :
    (Instr.index t (.agg (bools n S)) (.int .i64 (k : Int))).run P w = .ok (.bool (S k)) w := by
  have h1 : (0 : Int) ≤ (k : Int) ∧ (k : Int) < (n : Int) := by omega
  cases hq : P.info? e with
  | none => simp [hq] at hi
  | some i =>
    have hs : i.size = 1 := by simpa [hq] using hi
    have hg := bools_get S hk
    simp [Instr.index, run_underlying ht, run_underlying he, asIntOf, h1, part, isAgg, sizeOf, typeInfo, hq, hs, hg, go_sem]
    intro h
    omega

theorem owns_block {w : World} {base : Nat} {e : TypeId} {size : Nat} {v : Value} {n : Nat} {xs : List Value} (h : w.ownsRow base e size v n xs) : ∀ k, v.ownBlock = some k → base ≤ k := by
  intro k hk
  rcases h.2 with ⟨rfl, _⟩ | ⟨g, cap, cur, rfl, hg, _⟩
  · simp [Value.ownBlock] at hk
  · simp [Value.ownBlock] at hk
    omega

/-- What the call made for itself, as a slice of ints. -/
theorem IntsAt.of_owns {w : World} {base : Nat} {e : TypeId} {v : Value} {zs : List Int} (h : w.ownsRow base e 1 v zs.length (zs.map (Value.int .i64))) : ∃ a cap, v = .slice a zs.length cap ∧ IntsAt w.heap.size w a zs := by
  rcases h.2 with ⟨rfl, hn⟩ | ⟨g, cap, cur, rfl, hg, hh, hc, hm, hcur, hx⟩
  · exact ⟨none, 0, by rw [hn], Or.inl (List.eq_nil_of_length_eq_zero hn)⟩
  · have hlt : g < w.heap.size := by
      by_cases hq : g < w.heap.size
      · exact hq
      · rw [Array.getElem?_eq_none (by omega)] at hh
        cases hh
    refine ⟨some ⟨g, 0, none⟩, cap, rfl, Or.inr ⟨g, 0, rfl, hlt, fun i hi => ?_⟩⟩
    rw [cell_of_row w g (0 + i) cur e _ hh]
    have h1 : (cur.toList.take (zs.length * 1))[i]? = (zs.map (Value.int .i64))[i]? := by rw [hx]
    rw [List.getElem?_take_of_lt (by omega)] at h1
    simp only [Array.getElem?_toList] at h1
    rw [Nat.zero_add, h1]
    simp [List.getD, hi]

def unionTo (p : Nat → Bool) (k : Nat) : List Int := ((List.range k).filter p).map Int.ofNat
theorem unionTo_hit {p : Nat → Bool} {k : Nat} (h : p k = true) : unionTo p (k + 1) = unionTo p k ++ [(k : Int)] := by
  unfold unionTo
  rw [List.range_succ, List.filter_append, List.map_append]
  simp [h]
theorem unionTo_miss {p : Nat → Bool} {k : Nat} (h : p k = false) : unionTo p (k + 1) = unionTo p k := by
  unfold unionTo
  rw [List.range_succ, List.filter_append, List.map_append]
  simp [h]
theorem unionTo_len (p : Nat → Bool) (k : Nat) : (unionTo p k).length ≤ k := by
  unfold unionTo
  have := List.length_filter_le p (List.range k)
  simpa using this

theorem Try.zero22 : bools 32 (fun _ => false) = #[.bool false, .bool false, .bool false, .bool false, .bool false, .bool false, .bool false, .bool false, .bool false, .bool false, .bool false, .bool false, .bool false, .bool false, .bool false, .bool false, .bool false, .bool false, .bool false, .bool false, .bool false, .bool false, .bool false, .bool false, .bool false, .bool false, .bool false, .bool false, .bool false, .bool false, .bool false, .bool false] := by rfl
theorem Try.infoInt : (Try.prog.info? 3).map (fun i => (i.zero, i.size, i.bytes)) = some (some (.int .i64 0), 1, 8) := by kernel_rfl
theorem Try.infoBool : (Try.prog.info? 4).map (·.size) = some 1 := by kernel_rfl
theorem Try.infoSet : (Try.prog.info? 22).map (·.size) = some 32 := by kernel_rfl

theorem IntsAt.at {w wr : World} {B b off : Nat} {zs : List Int} (hc : ∀ i, i < zs.length → w.cell? ⟨b, off + i, none⟩ = some (.int .i64 (zs.getD i 0)))
    (hb : b < B) (hB : Below B w wr) {k : Nat} (hk : k < zs.length) : ∃ q : Int, Hid (zs.getD k 0 = q) ∧ wr.cell? ⟨b, off + k, none⟩ = some (.int .i64 q) := by
  refine ⟨_, rfl, ?_⟩
  rw [hB.cell (p := ⟨b, off + k, none⟩) hb]
  exact hc k hk

def eqB (n m : Int) : Bool := m == n
def hasL (zs : List Int) (n : Int) : Bool := zs.any (eqB n)

theorem own_mono {x : World} {b b' : Nat} {e : TypeId} {size : Nat} {v : Value} {n : Nat} {xs : List Value} (h : x.ownsRow b e size v n xs) (hb : b' ≤ b) : x.ownsRow b' e size v n xs :=
  ⟨h.1, h.2.imp id fun ⟨g, cap, cur, h1, h2, h3⟩ => ⟨g, cap, cur, h1, Nat.le_trans hb h2, h3⟩⟩
theorem own_form {w : World} {b : Nat} {e : TypeId} {size : Nat} {v : Value} {n : Nat} {xs : List Value} (h : w.ownsRow b e size v n xs) : ∃ a cap, v = .slice a n cap ∧ n ≤ cap ∧ (a = none → n = 0 ∧ cap = 0) := by
  rcases h.2 with ⟨rfl, rfl⟩ | ⟨g, cap, cur, rfl, _, _, hc, _⟩
  · exact ⟨none, 0, rfl, Nat.le_refl _, fun _ => ⟨rfl, rfl⟩⟩
  · exact ⟨_, cap, rfl, hc, fun h => by cases h⟩
def intCells (zs : List Int) : List Value := zs.map (Value.int .i64)
theorem intCells_snoc (zs : List Int) (n : Int) : intCells (zs ++ [n]) = intCells zs ++ [.int .i64 n] := by simp [intCells]
theorem one_int (n : Int) : ∀ u ∈ [Value.int .i64 n], u.oneCell' = true := by simp [Value.oneCell']

/-- A slice of ints, of operations: where it lies, and how long it is. -/
def SlInts (w : World) (a : Option Addr) (cap : Nat) (zs : List Int) : Prop := IntsAt w.heap.size w a zs ∧ zs.length ≤ maxLen ∧ zs.length ≤ cap ∧ (a = none → zs.length = 0 ∧ cap = 0)
theorem SlInts.later {w w' : World} {a : Option Addr} {cap : Nat} {zs : List Int} (h : SlInts w a cap zs) (hb : Below w.heap.size w w') : SlInts w' a cap zs :=
  ⟨(h.1.later hb).mono hb.size, h.2⟩
theorem SlInts.of_owns {w : World} {b : Nat} {e : TypeId} {a : Option Addr} {cap : Nat} {zs : List Int} (h : w.ownsRow b e 1 (.slice a zs.length cap) zs.length (intCells zs)) : SlInts w a cap zs := by
  obtain ⟨a', cap', he, hi⟩ := IntsAt.of_owns h
  obtain ⟨a2, c2, h1, h2, h3⟩ := own_form h
  simp at he h1
  obtain ⟨rfl, rfl⟩ := he
  obtain ⟨rfl, rfl⟩ := h1
  refine ⟨hi, ?_, h2, h3⟩
  rcases h.2 with ⟨_, h0⟩ | ⟨g, c, cur, _, _, _, h5, h6, _⟩
  · rw [h0]; exact Nat.zero_le _
  · omega


theorem wpList_wanted {P : Program} {w : World} {ops : Array Oper} {rest : List Oper} {o : Oper} {a : Act} {Q : Exit → Act → World → Prop} (hw : Region.wanted o (yielded ops a.tmps) = true)
    (h : ∀ K : Act → World → Prop, (∀ a w, wpList P ops Q rest a w → K a w) → o.wp P a w K Q) : wpList P ops Q (o :: rest) a w :=
  wpList_step fun K hK => by simp only [hw, if_true]; exact h K hK

end Go.Proofs.Ytkoefoccbjhoiab

namespace Go.Proofs.Ytkoefoccbjhoiab

/-- x hangs on z by k steps. -/
def HangsBy (A : Nat → Nat → Bool) : Nat → Nat → Nat → Prop
  | 0, x, z => x = z
  | k + 1, x, z => ∃ y, A x y = true ∧ HangsBy A k y z
/-- x hangs on z: by whatever many steps. -/
def Hangs (A : Nat → Nat → Bool) (x z : Nat) : Prop := ∃ k, HangsBy A k x z
theorem Hangs.refl {A : Nat → Nat → Bool} (x : Nat) : Hangs A x x := ⟨0, rfl⟩
theorem Hangs.step {A : Nat → Nat → Bool} {x y z : Nat} (a : A x y = true) (h : Hangs A y z) : Hangs A x z := by
  obtain ⟨k, hk⟩ := h
  exact ⟨k + 1, y, a, hk⟩
theorem Hangs.ind {A : Nat → Nat → Bool} {motive : (x z : Nat) → Hangs A x z → Prop} (refl : ∀ x, motive x x (Hangs.refl x))
    (step : ∀ {x y z : Nat} (a : A x y = true) (h : Hangs A y z), motive y z h → motive x z (Hangs.step a h)) {x z : Nat} (h : Hangs A x z) : motive x z h := by
  have all : ∀ k x z (hk : HangsBy A k x z), motive x z ⟨k, hk⟩ := by
    intro k
    induction k with
    | zero =>
      intro x z hk
      have e : x = z := hk
      subst e
      exact refl x
    | succ k ih =>
      intro x z hk
      obtain ⟨y, a, h2⟩ := hk
      exact step a ⟨k, h2⟩ (ih y z h2)
  obtain ⟨k, hk⟩ := h
  exact all k x z hk

theorem Hangs.trans {A : Nat → Nat → Bool} {x y z : Nat} (h : Hangs A x y) (k : Hangs A y z) : Hangs A x z := by
  induction h using Hangs.ind with
  | refl => exact k
  | step a _ ih => exact .step a (ih k)
theorem Hangs.one {A : Nat → Nat → Bool} {x y : Nat} (h : A x y = true) : Hangs A x y := .step h (.refl _)

structure St where
  met : Nat
  turn : Nat → Nat
  back : Nat → Nat
  stack : List Nat
  opn : Nat → Bool
  reach : Nat → Nat → Bool

def upd {α : Type} (f : Nat → α) (i : Nat) (v : α) : Nat → α := fun j => if j = i then v else f j
theorem upd_same {α : Type} (f : Nat → α) (i : Nat) (v : α) : upd f i v i = v := by simp [upd]
theorem upd_other {α : Type} (f : Nat → α) {i j : Nat} (v : α) (h : j ≠ i) : upd f i v j = f j := by simp [upd, h]

def St.enter (s : St) (n : Nat) : St := ⟨s.met + 1, upd s.turn n (s.met + 1), upd s.back n (s.met + 1), s.stack ++ [n], upd s.opn n true, upd s.reach n (upd (s.reach n) n true)⟩
def St.low (s : St) (n d : Nat) : St := if s.opn d then { s with back := upd s.back n (min (s.back n) (s.back d)) } else s
def St.incl (s : St) (n d : Nat) : St := { s with reach := upd s.reach n (fun j => s.reach n j || s.reach d j) }
def St.close (s : St) (n : Nat) : St :=
  { s with stack := s.stack.take (s.stack.idxOf n), opn := fun i => s.opn i && !(s.stack.drop (s.stack.idxOf n)).contains i,
           reach := fun i => if (s.stack.drop (s.stack.idxOf n)).contains i then s.reach n else s.reach i }
def St.edge (A : Nat → Nat → Bool) (v : St → Nat → St) (n : Nat) (s : St) (d : Nat) : St :=
  if A n d then ((if s.turn d = 0 then v s d else s).low n d).incl n d else s
def St.shut (s : St) (n : Nat) : St := if s.back n = s.turn n then s.close n else s
def visitL (A : Nat → Nat → Bool) : Nat → St → Nat → St
  | 0, s, _ => s
  | k + 1, s, n => ((List.range 32).foldl (St.edge A (visitL A k) n) (s.enter n)).shut n
def edges (A : Nat → Nat → Bool) (k : Nat) (s : St) (n j : Nat) : St := (List.range j).foldl (St.edge A (visitL A k) n) (s.enter n)
theorem edges_succ (A : Nat → Nat → Bool) (k : Nat) (s : St) (n j : Nat) : edges A k s n (j + 1) = St.edge A (visitL A k) n (edges A k s n j) j := by
  unfold edges
  rw [List.range_succ, List.foldl_append]
  rfl

/-- How many were not met. -/
def St.new (s : St) : Nat := (List.range 32).countP (fun x => s.turn x == 0)

structure Inv (A : Nat → Nat → Bool) (s : St) : Prop where
  lt : ∀ x, s.turn x ≠ 0 → x < 32
  le : ∀ x, s.turn x ≤ s.met
  inj : ∀ x y, s.turn x = s.turn y → s.turn x ≠ 0 → x = y
  all : s.new + s.met = 32
  sorted : s.stack.Pairwise (fun x y => s.turn x < s.turn y)
  mem : ∀ x ∈ s.stack, s.turn x ≠ 0
  opn : ∀ x, s.opn x = true ↔ x ∈ s.stack
  back : ∀ x ∈ s.stack, s.back x ≤ s.turn x ∧ ∃ y ∈ s.stack, s.turn y = s.back x ∧ Hangs A x y
  closed : ∀ x, s.turn x ≠ 0 → x ∉ s.stack → (∀ j, s.reach x j = true ↔ Hangs A x j) ∧ ∀ y, A x y = true → s.turn y ≠ 0 ∧ y ∉ s.stack
  sound : ∀ x ∈ s.stack, s.reach x x = true ∧ ∀ j, s.reach x j = true → Hangs A x j
  unmet : ∀ x, s.turn x = 0 → ∀ j, s.reach x j = false

/-- What t has gathered at n of all that x is right behind: y. -/
def Gath (A : Nat → Nat → Bool) (t : St) (n y : Nat) : Prop :=
  t.turn y ≠ 0 ∧ t.reach n y = true ∧ (y ∈ t.stack → t.back n ≤ t.turn y) ∧ (y ∉ t.stack → ∀ j, Hangs A y j → t.reach n j = true)

/-- What a visit of n makes of s. -/
structure Post (A : Nat → Nat → Bool) (s : St) (n : Nat) (t : St) (ext : List Nat) : Prop where
  inv : Inv A t
  stack : t.stack = s.stack ++ ext
  fresh : ∀ x ∈ ext, s.turn x = 0
  kept : ∀ x, s.turn x ≠ 0 → t.turn x = s.turn x ∧ t.back x = s.back x ∧ t.reach x = s.reach x
  here : t.turn n ≠ 0
  met : s.met ≤ t.met
  news : ∀ x, s.turn x = 0 → t.turn x ≠ 0 → s.met < t.turn x ∧ Hangs A n x ∧ ∀ y, A x y = true → t.turn y ≠ 0
  root : ∀ x ∈ ext, n ∈ ext ∧ Hangs A x n ∧ ∃ y ∈ s.stack, Hangs A n y
  gath : ∀ x ∈ ext, t.reach n x = true ∧ ∀ y, A x y = true → Gath A t n y

structure Pre (A : Nat → Nat → Bool) (s : St) (n : Nat) : Prop where
  inv : Inv A s
  new : s.turn n = 0
  lt : n < 32
  hangs : ∀ y ∈ s.stack, Hangs A y n

/-- In the midst of a visit of n: those below k were gone through. -/
structure Mid (A : Nat → Nat → Bool) (s : St) (n k : Nat) (t : St) (ext : List Nat) : Prop where
  inv : Inv A t
  stack : t.stack = s.stack ++ n :: ext
  fresh : ∀ x ∈ ext, s.turn x = 0
  kept : ∀ x, s.turn x ≠ 0 → t.turn x = s.turn x ∧ t.back x = s.back x ∧ t.reach x = s.reach x
  here : t.turn n = s.met + 1
  met : s.met < t.met
  news : ∀ x, s.turn x = 0 → t.turn x ≠ 0 → s.met < t.turn x ∧ Hangs A n x ∧ (x ≠ n → ∀ y, A x y = true → t.turn y ≠ 0)
  root : ∀ x ∈ n :: ext, Hangs A x n
  gath : ∀ x ∈ ext, t.reach n x = true ∧ ∀ y, A x y = true → Gath A t n y
  mine : ∀ y, y < k → A n y = true → Gath A t n y

theorem countP_upd (f : Nat → Nat) (n v : Nat) (hv : v ≠ 0) (hf : f n = 0) : ∀ l : List Nat, n ∈ l → l.Nodup → l.countP (fun x => f x == 0) = l.countP (fun x => upd f n v x == 0) + 1
  | [], h, _ => by simp at h
  | a :: l, h, hd => by
    rw [List.nodup_cons] at hd
    by_cases e : a = n
    · subst e
      have : l.countP (fun x => f x == 0) = l.countP (fun x => upd f a v x == 0) := by
        apply List.countP_congr
        intro x hx
        have : x ≠ a := fun e => hd.1 (e ▸ hx)
        simp [upd, this]
      simp [this, hf, upd_same, hv]
    · have hm : n ∈ l := by
        rcases List.mem_cons.1 h with h | h
        · exact absurd h.symm e
        · exact h
      have ih := countP_upd f n v hv hf l hm hd.2
      simp only [List.countP_cons, upd_other f v e, ih]
      omega

theorem mid_enter {A : Nat → Nat → Bool} {s : St} {n : Nat} (h : Pre A s n) : Mid A s n 0 (s.enter n) [] := by
  have I := h.inv
  have hn := h.new
  have nm : n ∉ s.stack := fun hm => I.mem n hm hn
  have tn : (s.enter n).turn n = s.met + 1 := upd_same _ _ _
  have tz : ∀ x, x ≠ n → (s.enter n).turn x = s.turn x := fun x hx => upd_other _ _ hx
  have bn : (s.enter n).back n = s.met + 1 := upd_same _ _ _
  have bo : ∀ x, x ≠ n → (s.enter n).back x = s.back x := fun x hx => upd_other _ _ hx
  have rn : (s.enter n).reach n = upd (s.reach n) n true := upd_same _ _ _
  have ro : ∀ x, x ≠ n → (s.enter n).reach x = s.reach x := fun x hx => upd_other _ _ hx
  have sk : (s.enter n).stack = s.stack ++ [n] := rfl
  have ne : ∀ x, s.turn x ≠ 0 → x ≠ n := fun x hx e => hx (e ▸ hn)
  have nes : ∀ x ∈ s.stack, x ≠ n := fun x hx => ne x (I.mem x hx)
  refine ⟨⟨?_, ?_, ?_, ?_, ?_, ?_, ?_, ?_, ?_, ?_, ?_⟩, rfl, by simp, fun x hx => ⟨tz x (ne x hx), bo x (ne x hx), ro x (ne x hx)⟩, tn, Nat.lt_succ_self _, ?_, by simp; exact .refl _, by simp, fun y hy => absurd hy (by omega)⟩
  · intro x hx
    by_cases e : x = n
    · subst e; exact h.lt
    · rw [tz x e] at hx; exact I.lt x hx
  · intro x
    show _ ≤ s.met + 1
    by_cases e : x = n
    · subst e; rw [tn]; exact Nat.le_refl _
    · rw [tz x e]; have := I.le x; omega
  · intro x y e hx
    by_cases e1 : x = n
    · by_cases e2 : y = n
      · rw [e1, e2]
      · subst e1
        rw [tn, tz y e2] at e
        have := I.le y
        omega
    · by_cases e2 : y = n
      · subst e2
        rw [tn, tz x e1] at e
        have := I.le x
        omega
      · rw [tz x e1, tz y e2] at e
        rw [tz x e1] at hx
        exact I.inj x y e hx
  · have := countP_upd s.turn n (s.met + 1) (by omega) hn (List.range 32) (List.mem_range.2 h.lt) List.nodup_range
    have h2 := I.all
    unfold St.new at h2 ⊢
    show List.countP (fun x => upd s.turn n (s.met + 1) x == 0) (List.range 32) + (s.met + 1) = 32
    omega
  · rw [sk, List.pairwise_append]
    refine ⟨?_, by simp, ?_⟩
    · refine I.sorted.imp_of_mem ?_
      intro a b ha hb hab
      rw [tz a (nes a ha), tz b (nes b hb)]
      exact hab
    · intro a ha b hb
      simp at hb
      subst hb
      rw [tn, tz a (nes a ha)]
      have := I.le a
      omega
  · intro x hx
    rw [sk, List.mem_append] at hx
    rcases hx with hx | hx
    · rw [tz x (nes x hx)]; exact I.mem x hx
    · simp at hx; subst hx; rw [tn]; omega
  · intro x
    rw [sk, List.mem_append]
    show upd s.opn n true x = true ↔ _
    by_cases e : x = n
    · subst e; simp [upd_same]
    · rw [upd_other _ _ e, I.opn x]; simp [e]
  · intro x hx
    rw [sk, List.mem_append] at hx
    rcases hx with hx | hx
    · obtain ⟨h1, y, hy, h2, h3⟩ := I.back x hx
      rw [bo x (nes x hx), tz x (nes x hx)]
      refine ⟨h1, y, by rw [sk]; exact List.mem_append_left _ hy, by rw [tz y (nes y hy)]; exact h2, h3⟩
    · simp at hx
      subst hx
      rw [bn, tn]
      exact ⟨Nat.le_refl _, x, by rw [sk]; simp, tn, .refl _⟩
  · intro x hx hs
    rw [sk, List.mem_append] at hs
    have e : x ≠ n := fun e => hs (Or.inr (by simp [e]))
    have hs' : x ∉ s.stack := fun h => hs (Or.inl h)
    rw [tz x e] at hx
    obtain ⟨h1, h2⟩ := I.closed x hx hs'
    rw [ro x e]
    refine ⟨h1, fun y hy => ?_⟩
    obtain ⟨h3, h4⟩ := h2 y hy
    rw [tz y (ne y h3), sk, List.mem_append]
    refine ⟨h3, fun h => ?_⟩
    rcases h with h | h
    · exact h4 h
    · exact ne y h3 (by simpa using h)
  · intro x hx
    rw [sk, List.mem_append] at hx
    rcases hx with hx | hx
    · rw [ro x (nes x hx)]; exact I.sound x hx
    · simp at hx
      subst hx
      rw [rn]
      refine ⟨upd_same _ _ _, fun j hj => ?_⟩
      by_cases e : j = x
      · subst e; exact .refl _
      · rw [upd_other _ _ e, I.unmet x hn j] at hj; cases hj
  · intro x hx j
    have e : x ≠ n := fun e => by subst e; rw [tn] at hx; omega
    rw [tz x e] at hx
    rw [ro x e]
    exact I.unmet x hx j
  · intro x hx hx'
    have e : x = n := by
      by_cases e : x = n
      · exact e
      · rw [tz x e] at hx'; exact absurd hx hx'
    subst e
    rw [tn]
    exact ⟨by omega, .refl _, fun h => absurd rfl h⟩

/-- The visit of one that was met already is nothing; of another one it is a visit: in one form. -/
structure Went (A : Nat → Nat → Bool) (t : St) (d : Nat) (t1 : St) (ext : List Nat) : Prop where
  inv : Inv A t1
  stack : t1.stack = t.stack ++ ext
  fresh : ∀ x ∈ ext, t.turn x = 0
  kept : ∀ x, t.turn x ≠ 0 → t1.turn x = t.turn x ∧ t1.back x = t.back x ∧ t1.reach x = t.reach x
  here : t1.turn d ≠ 0
  met : t.met ≤ t1.met
  news : ∀ x, t.turn x = 0 → t1.turn x ≠ 0 → t.met < t1.turn x ∧ Hangs A d x ∧ ∀ y, A x y = true → t1.turn y ≠ 0
  root : ∀ x ∈ ext, d ∈ ext ∧ Hangs A x d ∧ ∃ y ∈ t.stack, Hangs A d y
  gath : ∀ x ∈ ext, t1.reach d x = true ∧ ∀ y, A x y = true → Gath A t1 d y

theorem mid_edge {A : Nat → Nat → Bool} {s t t1 : St} {n d : Nat} {ext ext1 : List Nat} (hp : Pre A s n) (M : Mid A s n d t ext) (ha : A n d = true) (W : Went A t d t1 ext1) :
    Mid A s n (d + 1) ((t1.low n d).incl n d) (ext ++ ext1) := by
  have I := W.inv
  have hn := hp.new
  have tn0 : t.turn n ≠ 0 := by rw [M.here]; omega
  obtain ⟨kn1, kn2, kn3⟩ := W.kept n tn0
  have nst : n ∈ t.stack := by rw [M.stack]; simp
  have nst1 : n ∈ t1.stack := by rw [W.stack]; exact List.mem_append_left _ nst
  generalize hr : (t1.low n d).incl n d = r
  have r_met : r.met = t1.met := by rw [← hr]; unfold St.incl St.low; split <;> rfl
  have r_turn : r.turn = t1.turn := by rw [← hr]; unfold St.incl St.low; split <;> rfl
  have r_stack : r.stack = t1.stack := by rw [← hr]; unfold St.incl St.low; split <;> rfl
  have r_opn : r.opn = t1.opn := by rw [← hr]; unfold St.incl St.low; split <;> rfl
  have r_reach_n : ∀ j, r.reach n j = (t1.reach n j || t1.reach d j) := by
    intro j; rw [← hr]; unfold St.incl St.low; split <;> simp [upd_same]
  have r_reach_o : ∀ x, x ≠ n → r.reach x = t1.reach x := by
    intro x hx; rw [← hr]; unfold St.incl St.low; split <;> simp [upd_other _ _ hx]
  have r_back_o : ∀ x, x ≠ n → r.back x = t1.back x := by
    intro x hx; rw [← hr]; unfold St.incl St.low; split <;> simp [upd_other _ _ hx]
  have r_back_n : r.back n ≤ t1.back n ∧ (d ∈ t1.stack → r.back n ≤ t1.back d) ∧ (r.back n = t1.back n ∨ d ∈ t1.stack ∧ r.back n = t1.back d) := by
    rw [← hr]; unfold St.incl St.low
    split
    · rename_i ho
      have hd : d ∈ t1.stack := (I.opn d).1 ho
      simp only [upd_same]
      refine ⟨Nat.min_le_left _ _, fun _ => Nat.min_le_right _ _, ?_⟩
      rcases Nat.le_total (t1.back n) (t1.back d) with h | h
      · left; exact Nat.min_eq_left h
      · right; exact ⟨hd, Nat.min_eq_right h⟩
    · rename_i ho
      exact ⟨Nat.le_refl _, fun hd => absurd ((I.opn d).2 hd) ho, Or.inl rfl⟩
  have up : ∀ j, t1.reach n j = true → r.reach n j = true := fun j h => by rw [r_reach_n, h]; rfl
  have upd' : ∀ j, t1.reach d j = true → r.reach n j = true := fun j h => by rw [r_reach_n, h, Bool.or_true]
  have soundD : ∀ j, t1.reach d j = true → Hangs A d j := by
    intro j hj
    by_cases hd : d ∈ t1.stack
    · exact (I.sound d hd).2 j hj
    · exact ((I.closed d W.here hd).1 j).1 hj
  have selfD : t1.reach d d = true := by
    by_cases hd : d ∈ t1.stack
    · exact (I.sound d hd).1
    · exact ((I.closed d W.here hd).1 d).2 (.refl _)
  -- what was met in t is on the stack now just if it was then
  have same : ∀ y, t.turn y ≠ 0 → (y ∈ t1.stack ↔ y ∈ t.stack) := by
    intro y hy
    rw [W.stack, List.mem_append]
    constructor
    · rintro (h | h)
      · exact h
      · exact absurd (W.fresh y h) hy
    · exact Or.inl
  have old : ∀ y, Gath A t n y → Gath A r n y := by
    rintro y ⟨g0, g1, g2, g3⟩
    obtain ⟨k1, k2, k3⟩ := W.kept y g0
    refine ⟨by rw [r_turn, k1]; exact g0, up y (by rw [kn3]; exact g1), fun hy => ?_, fun hy j hj => up j (by rw [kn3]; exact g3 (fun h => hy (by rw [r_stack]; exact (same y g0).2 h)) j hj)⟩
    rw [r_stack] at hy
    have := g2 ((same y g0).1 hy)
    rw [r_turn, k1]
    have h2 := r_back_n.1
    rw [kn2] at h2
    omega
  have stk : r.stack = s.stack ++ n :: (ext ++ ext1) := by rw [r_stack, W.stack, M.stack]; simp
  have keptS : ∀ x, s.turn x ≠ 0 → t.turn x ≠ 0 := fun x hx => by rw [(M.kept x hx).1]; exact hx
  have neS : ∀ x, s.turn x ≠ 0 → x ≠ n := fun x hx e => hx (e ▸ hn)
  refine ⟨⟨?_, ?_, ?_, ?_, ?_, ?_, ?_, ?_, ?_, ?_, ?_⟩, stk, ?_, ?_, ?_, ?_, ?_, ?_, ?_, ?_⟩
  · rw [r_turn]; exact I.lt
  · rw [r_turn, r_met]; exact I.le
  · rw [r_turn]; exact I.inj
  · have := I.all
    unfold St.new at this ⊢
    rw [r_turn, r_met]; exact this
  · rw [r_turn, r_stack]; exact I.sorted
  · rw [r_turn, r_stack]; exact I.mem
  · rw [r_opn, r_stack]; exact I.opn
  · intro x hx
    rw [r_stack] at hx
    rw [r_turn, r_stack]
    by_cases e : x = n
    · subst e
      obtain ⟨b1, y, hy, b2, b3⟩ := I.back x hx
      refine ⟨by have := r_back_n.1; omega, ?_⟩
      rcases r_back_n.2.2 with h | ⟨hd, h⟩
      · exact ⟨y, hy, by rw [h]; exact b2, b3⟩
      · obtain ⟨_, z, hz, c2, c3⟩ := I.back d hd
        exact ⟨z, hz, by rw [h]; exact c2, .step ha c3⟩
    · rw [r_back_o x e]
      exact I.back x hx
  · intro x hx hs
    rw [r_turn] at hx ⊢
    rw [r_stack] at hs ⊢
    have e : x ≠ n := fun e => hs (e ▸ nst1)
    rw [r_reach_o x e]
    exact I.closed x hx hs
  · intro x hx
    rw [r_stack] at hx
    by_cases e : x = n
    · subst e
      refine ⟨up _ (I.sound x hx).1, fun j hj => ?_⟩
      rw [r_reach_n, Bool.or_eq_true] at hj
      rcases hj with hj | hj
      · exact (I.sound x hx).2 j hj
      · exact .step ha (soundD j hj)
    · rw [r_reach_o x e]; exact I.sound x hx
  · intro x hx j
    rw [r_turn] at hx
    have e : x ≠ n := fun e => I.mem n nst1 (e ▸ hx)
    rw [r_reach_o x e]
    exact I.unmet x hx j
  · intro x hx
    rcases List.mem_append.1 hx with hx | hx
    · exact M.fresh x hx
    · have h0 := W.fresh x hx
      by_cases e : s.turn x = 0
      · exact e
      · exact absurd h0 (keptS x e)
  · intro x hx
    obtain ⟨a1, a2, a3⟩ := M.kept x hx
    obtain ⟨b1, b2, b3⟩ := W.kept x (keptS x hx)
    rw [r_turn, r_back_o x (neS x hx), r_reach_o x (neS x hx), b1, b2, b3]
    exact ⟨a1, a2, a3⟩
  · rw [r_turn, kn1]; exact M.here
  · rw [r_met]; have := M.met; have := W.met; omega
  · intro x hx hx'
    rw [r_turn] at hx' ⊢
    by_cases e : t.turn x = 0
    · obtain ⟨c1, c2, c3⟩ := W.news x e hx'
      refine ⟨by have := M.met; omega, .step ha c2, fun _ => c3⟩
    · obtain ⟨k1, _, _⟩ := W.kept x e
      obtain ⟨c1, c2, c3⟩ := M.news x hx e
      refine ⟨by rw [k1]; exact c1, c2, fun hxn y hy => ?_⟩
      have := c3 hxn y hy
      rw [(W.kept y this).1]; exact this
  · intro x hx
    rw [← List.cons_append, List.mem_append] at hx
    rcases hx with hx | hx
    · exact M.root x hx
    · obtain ⟨_, c1, y, hy, c2⟩ := W.root x hx
      refine c1.trans (c2.trans ?_)
      rw [M.stack, List.mem_append] at hy
      rcases hy with hy | hy
      · exact hp.hangs y hy
      · exact M.root y hy
  · intro x hx
    rcases List.mem_append.1 hx with hx | hx
    · obtain ⟨g1, g2⟩ := M.gath x hx
      exact ⟨up x (by rw [kn3]; exact g1), fun y hy => old y (g2 y hy)⟩
    · obtain ⟨g1, g2⟩ := W.gath x hx
      have hd : d ∈ t1.stack := by rw [W.stack]; exact List.mem_append_right _ (W.root x hx).1
      refine ⟨upd' x g1, fun y hy => ?_⟩
      obtain ⟨g3, g4, g5, g6⟩ := g2 y hy
      refine ⟨by rw [r_turn]; exact g3, upd' y g4, fun h => ?_, fun h j hj => upd' j (g6 (by rw [r_stack] at h; exact h) j hj)⟩
      rw [r_stack] at h
      rw [r_turn]
      have := g5 h
      have := r_back_n.2.1 hd
      omega
  · intro y hy hA
    by_cases e : y = d
    · subst e
      refine ⟨by rw [r_turn]; exact W.here, upd' y selfD, fun h => ?_, fun h j hj => ?_⟩
      · rw [r_stack] at h
        rw [r_turn]
        have := r_back_n.2.1 h
        have := (I.back y h).1
        omega
      · rw [r_stack] at h
        exact upd' j (((I.closed y W.here h).1 j).2 hj)
    · exact old y (M.mine y (by omega) hA)

theorem Mid.skip {A : Nat → Nat → Bool} {s t : St} {n d : Nat} {ext : List Nat} (M : Mid A s n d t ext) (ha : A n d = false) : Mid A s n (d + 1) t ext :=
  ⟨M.inv, M.stack, M.fresh, M.kept, M.here, M.met, M.news, M.root, M.gath, fun y hy hA => by
      by_cases e : y = d
      · subst e; rw [ha] at hA; cases hA
      · exact M.mine y (by omega) hA⟩

theorem Post.went {A : Nat → Nat → Bool} {t t1 : St} {d : Nat} {ext : List Nat} (h : Post A t d t1 ext) : Went A t d t1 ext :=
  ⟨h.inv, h.stack, h.fresh, h.kept, h.here, h.met, h.news, h.root, h.gath⟩
theorem Inv.went {A : Nat → Nat → Bool} {t : St} {d : Nat} (h : Inv A t) (hd : t.turn d ≠ 0) : Went A t d t [] :=
  ⟨h, by simp, by simp, fun _ _ => ⟨rfl, rfl, rfl⟩, hd, Nat.le_refl _, fun x h0 h1 => absurd h0 h1, by simp, by simp⟩

theorem idxOf_split {n : Nat} {a b : List Nat} (h : n ∉ a) : (a ++ n :: b).idxOf n = a.length := by
  rw [List.idxOf_append, if_neg h]; simp

/-- The end of a visit. -/
theorem post_shut {A : Nat → Nat → Bool} {s t : St} {n : Nat} {ext : List Nat} (hA : ∀ x y, A x y = true → y < 32) (hp : Pre A s n) (M : Mid A s n 32 t ext) : ∃ ext', Post A s n (t.shut n) ext' := by
  have I := M.inv
  have hn := hp.new
  have tn0 : t.turn n ≠ 0 := by rw [M.here]; omega
  have nst : n ∈ t.stack := by rw [M.stack]; simp
  have nns : n ∉ s.stack := fun h => hp.inv.mem n h hn
  have neS : ∀ x, s.turn x ≠ 0 → x ≠ n := fun x hx e => hx (e ▸ hn)
  -- those of the new part stand behind
  have late : ∀ x ∈ n :: ext, s.turn x = 0 ∧ s.met < t.turn x := by
    intro x hx
    have h0 : s.turn x = 0 := by
      rcases List.mem_cons.1 hx with rfl | h
      · exact hn
      · exact M.fresh x h
    have h1 : t.turn x ≠ 0 := I.mem x (by rw [M.stack]; exact List.mem_append_right _ hx)
    exact ⟨h0, (M.news x h0 h1).1⟩
  have early : ∀ x ∈ s.stack, t.turn x ≤ s.met := by
    intro x hx
    rw [(M.kept x (hp.inv.mem x hx)).1]; exact hp.inv.le x
  have mine : ∀ x ∈ n :: ext, ∀ y, A x y = true → Gath A t n y := by
    intro x hx y hy
    rcases List.mem_cons.1 hx with rfl | h
    · exact M.mine y (hA _ _ hy) hy
    · exact (M.gath x h).2 y hy
  have succ : ∀ x, s.turn x = 0 → t.turn x ≠ 0 → ∀ y, A x y = true → t.turn y ≠ 0 := by
    intro x h0 h1 y hy
    by_cases e : x = n
    · subst e; exact (M.mine y (hA _ _ hy) hy).1
    · exact (M.news x h0 h1).2.2 e y hy
  have reachN : ∀ x ∈ n :: ext, t.reach n x = true := by
    intro x hx
    rcases List.mem_cons.1 hx with rfl | h
    · exact (I.sound x nst).1
    · exact (M.gath x h).1
  unfold St.shut
  split
  · rename_i hb
    have key : ∀ x j, Hangs A x j → x ∈ n :: ext → t.reach n j = true := by
      intro x j h
      induction h using Hangs.ind with
      | refl x => exact reachN x
      | step a h ih =>
        intro hx
        rename_i x y z
        obtain ⟨_, g1, g2, g3⟩ := mine x hx y a
        by_cases hy : y ∈ t.stack
        · have h1 := g2 hy
          rw [M.stack, List.mem_append] at hy
          rcases hy with hy | hy
          · have := early y hy
            rw [hb, M.here] at h1
            omega
          · exact ih hy
        · exact g3 hy z h
    have hi : t.stack.idxOf n = s.stack.length := by rw [M.stack]; exact idxOf_split nns
    have htake : t.stack.take (t.stack.idxOf n) = s.stack := by rw [hi, M.stack]; simp
    have hdrop : t.stack.drop (t.stack.idxOf n) = n :: ext := by rw [hi, M.stack]; simp
    generalize hr : t.close n = r
    have r_met : r.met = t.met := by rw [← hr]; rfl
    have r_turn : r.turn = t.turn := by rw [← hr]; rfl
    have r_back : r.back = t.back := by rw [← hr]; rfl
    have r_stack : r.stack = s.stack := by rw [← hr]; exact htake
    have r_opn : ∀ x, r.opn x = (t.opn x && !(n :: ext).contains x) := by intro x; rw [← hr]; unfold St.close; rw [hdrop]
    have r_in : ∀ x ∈ n :: ext, r.reach x = t.reach n := by
      intro x hx; rw [← hr]; unfold St.close; rw [hdrop]; show (if (n :: ext).contains x = true then _ else _) = _
      rw [if_pos (by simpa using hx)]
    have r_out : ∀ x, x ∉ n :: ext → r.reach x = t.reach x := by
      intro x hx; rw [← hr]; unfold St.close; rw [hdrop]; show (if (n :: ext).contains x = true then _ else _) = _
      rw [if_neg (by simpa using hx)]
    have apart : ∀ x ∈ s.stack, x ∉ n :: ext := fun x hx h => by
      have := early x hx
      have := (late x h).2
      omega
    refine ⟨[], ⟨⟨?_, ?_, ?_, ?_, ?_, ?_, ?_, ?_, ?_, ?_, ?_⟩, by rw [r_stack]; simp, by simp, ?_, by rw [r_turn]; exact tn0, by rw [r_met]; have := M.met; omega, ?_, by simp, by simp⟩⟩
    · rw [r_turn]; exact I.lt
    · rw [r_turn, r_met]; exact I.le
    · rw [r_turn]; exact I.inj
    · have := I.all
      unfold St.new at this ⊢
      rw [r_turn, r_met]; exact this
    · rw [r_turn, r_stack]
      have := I.sorted
      rw [M.stack, List.pairwise_append] at this
      exact this.1
    · rw [r_turn, r_stack]
      intro x hx
      exact I.mem x (by rw [M.stack]; exact List.mem_append_left _ hx)
    · intro x
      rw [r_opn, r_stack, Bool.and_eq_true, I.opn x, M.stack, List.mem_append]
      constructor
      · rintro ⟨h | h, h2⟩
        · exact h
        · simp at h2; simp at h; rcases h with h | h
          · exact absurd h h2.1
          · exact absurd h h2.2
      · intro h
        have := apart x h
        refine ⟨Or.inl h, by simpa using this⟩
    · intro x hx
      rw [r_stack] at hx
      obtain ⟨b1, y, hy, b2, b3⟩ := I.back x (by rw [M.stack]; exact List.mem_append_left _ hx)
      rw [r_back, r_turn, r_stack]
      refine ⟨b1, y, ?_, b2, b3⟩
      rw [M.stack, List.mem_append] at hy
      rcases hy with hy | hy
      · exact hy
      · have := early x hx
        have := (late y hy).2
        omega
    · intro x hx hs
      rw [r_turn] at hx ⊢
      rw [r_stack] at hs ⊢
      by_cases hm : x ∈ n :: ext
      · rw [r_in x hm]
        refine ⟨fun j => ⟨fun hj => (M.root x hm).trans ((I.sound n nst).2 j hj), fun hj => key x j hj hm⟩, fun y hy => ?_⟩
        obtain ⟨g0, g1, g2, g3⟩ := mine x hm y hy
        refine ⟨g0, fun h => ?_⟩
        have h1 := g2 (by rw [M.stack]; exact List.mem_append_left _ h)
        have := early y h
        rw [hb, M.here] at h1
        omega
      · have hs' : x ∉ t.stack := by
          rw [M.stack, List.mem_append]
          rintro (h | h)
          · exact hs h
          · exact hm h
        rw [r_out x hm]
        obtain ⟨c1, c2⟩ := I.closed x hx hs'
        refine ⟨c1, fun y hy => ?_⟩
        obtain ⟨c3, c4⟩ := c2 y hy
        exact ⟨c3, fun h => c4 (by rw [M.stack]; exact List.mem_append_left _ h)⟩
    · intro x hx
      rw [r_stack] at hx
      rw [r_out x (apart x hx)]
      exact I.sound x (by rw [M.stack]; exact List.mem_append_left _ hx)
    · intro x hx j
      rw [r_turn] at hx
      have : x ∉ n :: ext := fun h => by have := (late x h).2; omega
      rw [r_out x this]
      exact I.unmet x hx j
    · intro x hx
      have : x ∉ n :: ext := fun h => hx (late x h).1
      rw [r_turn, r_back, r_out x this]
      exact M.kept x hx
    · intro x hx hx'
      rw [r_turn] at hx' ⊢
      obtain ⟨c1, c2, _⟩ := M.news x hx hx'
      exact ⟨c1, c2, succ x hx hx'⟩
  · rename_i hb
    refine ⟨n :: ext, ⟨I, M.stack, fun x hx => (late x hx).1, M.kept, tn0, by have := M.met; omega, fun x hx hx' => ?_, fun x hx => ?_, fun x hx => ⟨reachN x hx, mine x hx⟩⟩⟩
    · obtain ⟨c1, c2, _⟩ := M.news x hx hx'
      exact ⟨c1, c2, succ x hx hx'⟩
    · refine ⟨by simp, M.root x hx, ?_⟩
      obtain ⟨b1, y, hy, b2, b3⟩ := I.back n nst
      refine ⟨y, ?_, b3⟩
      rw [M.stack, List.mem_append] at hy
      rcases hy with hy | hy
      · exact hy
      · have := (late y hy).2
        have := M.here
        omega

theorem Mid.pre {A : Nat → Nat → Bool} {s t : St} {n d : Nat} {ext : List Nat} (hp : Pre A s n) (M : Mid A s n d t ext) (ha : A n d = true) (hd : d < 32) (h0 : t.turn d = 0) : Pre A t d := by
  refine ⟨M.inv, h0, hd, fun y hy => ?_⟩
  rw [M.stack, List.mem_append] at hy
  rcases hy with hy | hy
  · exact (hp.hangs y hy).trans (.one ha)
  · exact (M.root y hy).trans (.one ha)

theorem Inv.room {A : Nat → Nat → Bool} {s : St} (h : Inv A s) {n : Nat} (hn : n < 32) (h0 : s.turn n = 0) : s.met < 32 := by
  have := h.all
  have : 0 < s.new := by
    unfold St.new
    rw [List.countP_pos_iff]
    exact ⟨n, List.mem_range.2 hn, by simp [h0]⟩
  omega

theorem visit_post {A : Nat → Nat → Bool} (hA : ∀ x y, A x y = true → y < 32) : ∀ (k : Nat) (s : St) (n : Nat), Pre A s n → 32 - s.met ≤ k → (∃ ext, Post A s n (visitL A k s n) ext) ∧ ∀ k', k = k' + 1 → ∀ j, j ≤ 32 → ∃ ext, Mid A s n j (edges A k' s n j) ext
  | 0, s, n, hp, hk => by
    have := hp.inv.room hp.lt hp.new
    omega
  | k + 1, s, n, hp, hk => by
    have loop : ∀ j, j ≤ 32 → ∃ ext, Mid A s n j (edges A k s n j) ext := by
      intro j
      induction j with
      | zero => intro _; exact ⟨[], mid_enter hp⟩
      | succ j ih =>
        intro hj
        obtain ⟨ext, M⟩ := ih (by omega)
        rw [edges_succ]
        generalize edges A k s n j = t at M
        unfold St.edge
        split
        · rename_i ha
          split
          · rename_i h0
            have hm := M.met
            obtain ⟨⟨e1, P⟩, _⟩ := visit_post hA k t j (M.pre hp ha (by omega) h0) (by omega)
            exact ⟨_, mid_edge hp M ha P.went⟩
          · rename_i h0
            exact ⟨_, mid_edge hp M ha (M.inv.went h0)⟩
        · rename_i ha
          exact ⟨ext, M.skip (by simpa using ha)⟩
    refine ⟨?_, fun k' e j hj => ?_⟩
    · obtain ⟨ext, M⟩ := loop 32 (Nat.le_refl _)
      exact post_shut hA hp M
    · obtain rfl : k = k' := by omega
      exact loop j hj

def St.none : St := ⟨0, fun _ => 0, fun _ => 0, [], fun _ => false, fun _ _ => false⟩
theorem inv_none (A : Nat → Nat → Bool) : Inv A St.none := by
  refine ⟨fun x h => absurd rfl h, fun _ => Nat.le_refl _, fun x y _ h => absurd rfl h, ?_, .nil, by simp [St.none], by simp [St.none], by simp [St.none], fun x h => absurd rfl h, by simp [St.none], fun _ _ _ => rfl⟩
  rfl
theorem pre_none (A : Nat → Nat → Bool) {n : Nat} (hn : n < 32) : Pre A St.none n := ⟨inv_none A, rfl, hn, by simp [St.none]⟩

/-- THE SEARCH: from n on, with an empty stack: just what n hangs on was met, and of each of these what it hangs on is known. -/
theorem search_whole {A : Nat → Nat → Bool} (hA : ∀ x y, A x y = true → y < 32) {n : Nat} (hn : n < 32) :
    (∀ x, (visitL A 32 St.none n).turn x ≠ 0 ↔ Hangs A n x) ∧ (∀ x, Hangs A n x → ∀ j, (visitL A 32 St.none n).reach x j = true ↔ Hangs A x j) ∧ (∀ x, ¬ Hangs A n x → ∀ j, (visitL A 32 St.none n).reach x j = false) := by
  obtain ⟨⟨ext, P⟩, _⟩ := visit_post hA 32 St.none n (pre_none A hn) (by simp [St.none])
  generalize visitL A 32 St.none n = t at P
  have he : ext = [] := by
    cases ext with
    | nil => rfl
    | cons x l =>
      obtain ⟨_, _, y, hy, _⟩ := P.root x (by simp)
      simp [St.none] at hy
  have hs : ∀ x, x ∉ t.stack := by intro x; rw [P.stack, he]; simp [St.none]
  have all : ∀ x j, Hangs A x j → t.turn x ≠ 0 → t.turn j ≠ 0 := by
    intro x j h
    induction h using Hangs.ind with
    | refl => exact id
    | step a _ ih => exact fun h0 => ih (((P.inv.closed _ h0 (hs _)).2 _ a).1)
  have iff : ∀ x, t.turn x ≠ 0 ↔ Hangs A n x := fun x => ⟨fun h => (P.news x rfl h).2.1, fun h => all n x h P.here⟩
  refine ⟨iff, fun x hx => (P.inv.closed x ((iff x).2 hx) (hs x)).1, fun x hx j => P.inv.unmet x ?_ j⟩
  by_cases e : t.turn x = 0
  · exact e
  · exact absurd ((iff x).1 e) hx

end Go.Proofs.Ytkoefoccbjhoiab
