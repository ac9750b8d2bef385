/-
  The state of the reading of a frame: where the reader, the frame under way and its lists lie.
  Values that are lists of ints, or of operations, and where they lie.
  The contracts of slices.Clone over ints and over operations.
  Frames in memory: where their lists lie; lists of frames that a call made.
  Loads of whole rows in a walk, guarded or not: to be used as 'with_reducible apply' (so that an operation of another kind is passed by at once).
  A whole row is stored: as Wpl's, its premises in the order in which a walk can show them.
  The contracts of the small functions of package graph.
  The contracts of package graph's include and ahead, and of slices.Index over ints.
-/
import Derived.Test.YtkoefoccbjhoiabNlo2
import Derived.Deep.AppendLies
import Derived.OwnWalk
import Derived.ArgAppend
import Derived.Lib.SliceRun
namespace Go.Proofs.Ytkoefoccbjhoiab
open Go.RowKit

theorem Try.infoOp : (Try.prog.info? 108).map (fun i => (i.zero, i.size, i.bytes)) = some (some (.agg #[.int .i64 0, .int .i64 0, .int .i64 0]), 3, 24) := by kernel_rfl

/-- A frame's seven cells at block b. -/
def FAt (w : World) (b : Nat) (a0 a1 a2 : Int) (v3 v4 v5 v6 : Value) : Prop := ∃ t, w.heap[b]? = some (.cells #[.int .i64 a0, .int .i64 a1, .int .i64 a2, v3, v4, v5, v6] t (0, 0))

section
variable {w w' : World} {b : Nat} {a0 a1 a2 : Int} {v3 v4 v5 v6 : Value}
theorem FAt.cell (h : FAt w b a0 a1 a2 v3 v4 v5 v6) :
    w.cell? ⟨b, 0, none⟩ = some (.int .i64 a0) ∧ w.cell? ⟨b, 1, none⟩ = some (.int .i64 a1) ∧ w.cell? ⟨b, 2, none⟩ = some (.int .i64 a2) ∧
    w.cell? ⟨b, 3, none⟩ = some v3 ∧ w.cell? ⟨b, 4, none⟩ = some v4 ∧ w.cell? ⟨b, 5, none⟩ = some v5 ∧ w.cell? ⟨b, 6, none⟩ = some v6 := by
  obtain ⟨t, h⟩ := h
  refine ⟨?_, ?_, ?_, ?_, ?_, ?_, ?_⟩ <;> (rw [cell_of_row w b _ _ t _ h]; rfl)
theorem FAt.frozen (h : FAt w b a0 a1 a2 v3 v4 v5 v6) (i : Nat) : w.frozen? ⟨b, i, none⟩ = false := by
  obtain ⟨t, h⟩ := h
  exact frozen_of_row w b i _ t h
theorem FAt.block (h : FAt w b a0 a1 a2 v3 v4 v5 v6) (e : w'.heap[b]? = w.heap[b]?) : FAt w' b a0 a1 a2 v3 v4 v5 v6 := by
  obtain ⟨t, h⟩ := h
  exact ⟨t, by rw [e]; exact h⟩
theorem FAt.lt (h : FAt w b a0 a1 a2 v3 v4 v5 v6) : b < w.heap.size := by
  obtain ⟨t, h⟩ := h
  exact (Array.getElem?_eq_some_iff.1 h).1
theorem FAt.put3 (h : FAt w b a0 a1 a2 v3 v4 v5 v6) (v : Value) : FAt (w.setCell ⟨b, 3, none⟩ v) b a0 a1 a2 v v4 v5 v6 := by
  obtain ⟨t, h⟩ := h
  exact ⟨t, by rw [heap_setCell_same w b 3 _ t _ h]; rfl⟩
theorem FAt.put4 (h : FAt w b a0 a1 a2 v3 v4 v5 v6) (v : Value) : FAt (w.setCell ⟨b, 4, none⟩ v) b a0 a1 a2 v3 v v5 v6 := by
  obtain ⟨t, h⟩ := h
  exact ⟨t, by rw [heap_setCell_same w b 4 _ t _ h]; rfl⟩
theorem FAt.put5 (h : FAt w b a0 a1 a2 v3 v4 v5 v6) (v : Value) : FAt (w.setCell ⟨b, 5, none⟩ v) b a0 a1 a2 v3 v4 v v6 := by
  obtain ⟨t, h⟩ := h
  exact ⟨t, by rw [heap_setCell_same w b 5 _ t _ h]; rfl⟩
theorem FAt.put6 (h : FAt w b a0 a1 a2 v3 v4 v5 v6) (v : Value) : FAt (w.setCell ⟨b, 6, none⟩ v) b a0 a1 a2 v3 v4 v5 v := by
  obtain ⟨t, h⟩ := h
  exact ⟨t, by rw [heap_setCell_same w b 6 _ t _ h]; rfl⟩
end

theorem RdAt.block {w w' : World} {c : Nat} {r : Rd} (h : RdAt w c r) (e : w'.heap[c]? = w.heap[c]?) : RdAt w' c r := by
  obtain ⟨t, h⟩ := h
  exact ⟨t, by rw [e]; exact h⟩
theorem RdAt.lt {w : World} {c : Nat} {r : Rd} (h : RdAt w c r) : c < w.heap.size := by
  obtain ⟨t, h⟩ := h
  exact (Array.getElem?_eq_some_iff.1 h).1
theorem RdAt.alloc {w : World} {c : Nat} {r : Rd} (h : RdAt w c r) (o : Obj) : RdAt (w.alloc o) c r := h.block (Below.heap_alloc _ _ _ h.lt)

/-- but for block c, what was there is as it was -/
theorem grownR_trans {w w1 w2 : World} {c : Nat} (h : w.grownBy w1 (some c)) (k : w1.grownBy w2 (some c)) : w.grownBy w2 (some c) :=
  ⟨k.os.trans h.os, k.tape.trans h.tape, k.output.trans h.output, Nat.le_trans h.size k.size, fun i hi hn => (k.block i (Nat.lt_of_lt_of_le hi h.size) hn).trans (h.block i hi hn)⟩
theorem grown_far {w w1 w2 : World} {c : Nat} {row : Option Nat} (h : w.grownBy w1 (some c)) (k : w1.grownBy w2 row) (hr : ∀ g, row = some g → w.heap.size ≤ g) : w.grownBy w2 (some c) :=
  ⟨k.os.trans h.os, k.tape.trans h.tape, k.output.trans h.output, Nat.le_trans h.size k.size, fun i hi hn => (k.block i (Nat.lt_of_lt_of_le hi h.size) (fun e => by have := hr i e.symm; omega)).trans (h.block i hi hn)⟩
theorem grown_put {w w1 : World} {c b : Nat} (h : w.grownBy w1 (some c)) (hb : w.heap.size ≤ b) (o : Nat) (v : Value) : w.grownBy (w1.setCell ⟨b, o, none⟩ v) (some c) :=
  ⟨h.os, h.tape, h.output, by simp [World.setCell]; exact h.size, fun i hi hn => (Below.heap_setCell _ _ _ _ (by simp; omega)).trans (h.block i hi hn)⟩

/-- The state of the reading: the reader at c, the frame under way at B3, the result's cells at B2; else nothing old has turned. -/
structure Fr (w : World) (c B2 B3 : Nat) (a0 a1 a2 : Int) (wr : World) (rk : Rd) (v3 v4 v5 v6 : Value) : Prop where
  rd : RdAt wr c rk
  f : FAt wr B3 a0 a1 a2 v3 v4 v5 v6
  z : FAt wr B2 0 0 0 (.slice none 0 0) (.slice none 0 0) (.slice none 0 0) (.slice none 0 0)
  g : w.grownBy wr (some c)
  l1 : c < w.heap.size
  l2 : w.heap.size ≤ B2
  l3 : B2 < B3

section
variable {w wr w1 : World} {c B2 B3 : Nat} {a0 a1 a2 : Int} {rk rj : Rd} {v3 v4 v5 v6 : Value}
theorem Fr.small (h : Fr w c B2 B3 a0 a1 a2 wr rk v3 v4 v5 v6) (k : RdAt w1 c rj) (hb : Beside c wr w1) : Fr w c B2 B3 a0 a1 a2 w1 rj v3 v4 v5 v6 :=
  have h1 := h.l1
  have h2 := h.l2
  have h3 := h.l3
  ⟨k, h.f.block (hb.block _ (by omega)), h.z.block (hb.block _ (by omega)), grownR_trans h.g hb.grown, h1, h2, h3⟩
theorem Fr.grown (h : Fr w c B2 B3 a0 a1 a2 wr rk v3 v4 v5 v6) {row : Option Nat} (hg : wr.grownBy w1 row) (hr : ∀ g, row = some g → B3 < g) : Fr w c B2 B3 a0 a1 a2 w1 rk v3 v4 v5 v6 :=
  have h1 := h.l1
  have h2 := h.l2
  have h3 := h.l3
  have n : ∀ k, k ≤ B3 → some k ≠ row := fun k hk e => by have := hr k e.symm; omega
  ⟨h.rd.block (hg.block _ h.rd.lt (n _ (by omega))), h.f.block (hg.block _ h.f.lt (n _ (by omega))), h.z.block (hg.block _ h.z.lt (n _ (by omega))), grown_far h.g hg (fun g e => by have := hr g e; omega), h1, h2, h3⟩
theorem Fr.alloc (h : Fr w c B2 B3 a0 a1 a2 wr rk v3 v4 v5 v6) (o : Obj) : Fr w c B2 B3 a0 a1 a2 (wr.alloc o) rk v3 v4 v5 v6 :=
  h.grown (World.grownBy_alloc wr o none) (by simp)
theorem Fr.drew (h : Fr w c B2 B3 a0 a1 a2 wr rk v3 v4 v5 v6) : Fr w c B2 B3 a0 a1 a2 wr.drew rk v3 v4 v5 v6 :=
  ⟨h.rd, h.f, h.z, ⟨h.g.os, h.g.tape, h.g.output, h.g.size, h.g.block⟩, h.l1, h.l2, h.l3⟩
theorem Fr.put3 (h : Fr w c B2 B3 a0 a1 a2 wr rk v3 v4 v5 v6) (v : Value) : Fr w c B2 B3 a0 a1 a2 (wr.setCell ⟨B3, 3, none⟩ v) rk v v4 v5 v6 :=
  have h1 := h.l1
  have h2 := h.l2
  have h3 := h.l3
  ⟨h.rd.block (Below.heap_setCell _ _ _ _ (by simp; omega)), h.f.put3 v, h.z.block (Below.heap_setCell _ _ _ _ (by simp; omega)), grown_put h.g (by omega) _ _, h1, h2, h3⟩
theorem Fr.put4 (h : Fr w c B2 B3 a0 a1 a2 wr rk v3 v4 v5 v6) (v : Value) : Fr w c B2 B3 a0 a1 a2 (wr.setCell ⟨B3, 4, none⟩ v) rk v3 v v5 v6 :=
  have h1 := h.l1
  have h2 := h.l2
  have h3 := h.l3
  ⟨h.rd.block (Below.heap_setCell _ _ _ _ (by simp; omega)), h.f.put4 v, h.z.block (Below.heap_setCell _ _ _ _ (by simp; omega)), grown_put h.g (by omega) _ _, h1, h2, h3⟩
theorem Fr.put5 (h : Fr w c B2 B3 a0 a1 a2 wr rk v3 v4 v5 v6) (v : Value) : Fr w c B2 B3 a0 a1 a2 (wr.setCell ⟨B3, 5, none⟩ v) rk v3 v4 v v6 :=
  have h1 := h.l1
  have h2 := h.l2
  have h3 := h.l3
  ⟨h.rd.block (Below.heap_setCell _ _ _ _ (by simp; omega)), h.f.put5 v, h.z.block (Below.heap_setCell _ _ _ _ (by simp; omega)), grown_put h.g (by omega) _ _, h1, h2, h3⟩
theorem Fr.put6 (h : Fr w c B2 B3 a0 a1 a2 wr rk v3 v4 v5 v6) (v : Value) : Fr w c B2 B3 a0 a1 a2 (wr.setCell ⟨B3, 6, none⟩ v) rk v3 v4 v5 v :=
  have h1 := h.l1
  have h2 := h.l2
  have h3 := h.l3
  ⟨h.rd.block (Below.heap_setCell _ _ _ _ (by simp; omega)), h.f.put6 v, h.z.block (Below.heap_setCell _ _ _ _ (by simp; omega)), grown_put h.g (by omega) _ _, h1, h2, h3⟩
theorem Fr.start (hr : RdAt w1 c rk) (hb : Beside c (w.alloc (.cells #[.int .i64 0, .int .i64 0, .int .i64 0, .slice none 0 0, .slice none 0 0, .slice none 0 0, .slice none 0 0] 43)) w1) (hc : c < w.heap.size) (a0 a1 a2 : Int) :
    Fr w c w.heap.size w1.heap.size a0 a1 a2 (w1.alloc (.cells #[.int .i64 a0, .int .i64 a1, .int .i64 a2, .slice none 0 0, .slice none 0 0, .slice none 0 0, .slice none 0 0] 43)) rk (.slice none 0 0) (.slice none 0 0) (.slice none 0 0) (.slice none 0 0) := by
  have hs : w1.heap.size = w.heap.size + 1 := by have := hb.size; simpa using this
  refine ⟨hr.alloc _, ⟨_, heap_new _ _⟩, ⟨43, ?_⟩, ?_, hc, Nat.le_refl _, by omega⟩
  · rw [Below.heap_alloc _ _ _ (by omega), hb.block _ (by omega), heap_new]
  · exact grownR_trans (World.grownBy_alloc w _ _) (grownR_trans hb.grown (World.grownBy_alloc _ _ _))
end

def opCells (o : OpL) : List Value := [.int .i64 o.1, .int .i64 o.2.1, .int .i64 o.2.2]
def opsCells (zs : List OpL) : List Value := zs.flatMap opCells
theorem opsCells_snoc (zs : List OpL) (o : OpL) : opsCells (zs ++ [o]) = opsCells zs ++ opCells o := by simp [opsCells]

theorem own_small {w w1 : World} {c base : Nat} {e : TypeId} {size : Nat} {v : Value} {n : Nat} {xs : List Value} (h : w.ownsRow base e size v n xs) (hb : Beside c w w1) (hc : c < base) : w1.ownsRow base e size v n xs :=
  h.kept hb.grown (by
    cases hv : v.ownBlock with
    | none => exact Or.inl rfl
    | some k => right; intro e; have := (h.lt k hv).1; simp at e; omega)

theorem alloc_size (w : World) (o : Obj) : (w.alloc o).heap.size = w.heap.size + 1 := by simp
theorem one_op (o : OpL) : ∀ u ∈ opCells o, u.oneCell' = true := by simp [opCells, Value.oneCell']
theorem len_ok {k n : Nat} (h : k < n) (h' : n < 256) : k + 1 ≤ maxLen := by unfold maxLen; omega
theorem len24_ok {k n : Nat} (h : k < n) (h' : n < 256) : (k + 1) * 24 ≤ 140737488355328 := by omega
theorem len8_ok {k n : Nat} (h : k < n) (h' : n < 256) : (k + 1) * 8 ≤ 140737488355328 := by omega
theorem lt_ok {w : World} {b : Nat} {o : Obj} (h : b < w.heap.size) : b + 1 ≤ (w.alloc o).heap.size := by rw [alloc_size]; omega
theorem Fr.after {w x4 x5 : World} {c B2 B3 : Nat} {a0 a1 a2 : Int} {rk : Rd} {v3 v4 v5 v6 v : Value} {o : Obj} {e : TypeId} {size n : Nat} {xs : List Value} (F : Fr w c B2 B3 a0 a1 a2 x4 rk v3 v4 v5 v6)
    (hown : x4.ownsRow (B3 + 1) e size v n xs) (hg : (x4.alloc o).grownBy x5 v.ownBlock) : Fr w c B2 B3 a0 a1 a2 x5 rk v3 v4 v5 v6 :=
  (F.alloc o).grown hg (fun g h => by have := (hown.lt g h).1; omega)

theorem le_small {w w1 : World} {b c : Nat} (h : b ≤ w.heap.size) (hb : Beside c w.drew w1) : b ≤ w1.heap.size := by rw [hb.size]; exact h
theorem le_alloc {w : World} {b : Nat} {o : Obj} (h : b ≤ w.heap.size) : b ≤ (w.alloc o).heap.size := by rw [alloc_size]; omega
theorem le_grown {w w1 : World} {b : Nat} {o : Obj} {row : Option Nat} (h : b ≤ w.heap.size) (hg : (w.alloc o).grownBy w1 row) : b ≤ w1.heap.size := by have := hg.size; rw [alloc_size] at this; omega
theorem le_put {w : World} {b : Nat} {a : Addr} {v : Value} (h : b ≤ w.heap.size) : b ≤ (w.setCell a v).heap.size := by simpa [World.setCell] using h
theorem own_far {x y : World} {o : Obj} {b base : Nat} {e e' : TypeId} {size size' : Nat} {v v' : Value} {n n' : Nat} {xs xs' : List Value} (h : x.ownsRow b e size v n xs) (hl : ∀ k, v.ownBlock = some k → k < base)
    (h' : x.ownsRow base e' size' v' n' xs') (hg : (x.alloc o).grownBy y v'.ownBlock) : y.ownsRow b e size v n xs :=
  (h.alloc o).kept hg (by
    cases hv : v.ownBlock with
    | none => exact Or.inl rfl
    | some k => right; intro e; have h1 := hl k hv; have h2 := (h'.lt k e.symm).1; omega)
theorem own_apart {x y : World} {o : Obj} {b : Nat} {e : TypeId} {size : Nat} {v v' : Value} {n : Nat} {xs : List Value} (h : x.ownsRow b e size v n xs) (ha : ∀ k, v'.ownBlock = some k → v.ownBlock ≠ some k)
    (hg : (x.alloc o).grownBy y v'.ownBlock) : y.ownsRow b e size v n xs :=
  (h.alloc o).kept hg (by
    cases hv : v.ownBlock with
    | none => exact Or.inl rfl
    | some k => right; intro e; exact ha k e.symm hv)
theorem apart_new {x : World} {b g : Nat} {e : TypeId} {size : Nat} {v v' : Value} {n : Nat} {xs : List Value} (ha : ∀ k, v'.ownBlock = some k → v.ownBlock ≠ some k) (h : x.ownsRow b e size v n xs)
    (hat : v'.ownBlock = some g ∨ g = x.heap.size + 1) : v.ownBlock ≠ some g := by
  rcases hat with h1 | rfl
  · exact ha g h1
  · intro e
    have := (h.lt _ e).2
    omega
theorem apart_flip {v : Value} {g n cap : Nat} (h : v.ownBlock ≠ some g) : ∀ k, v.ownBlock = some k → (Value.slice (some ⟨g, 0, none⟩) n cap).ownBlock ≠ some k := by
  intro k hk e
  simp [Value.ownBlock] at e
  exact h (by rw [hk, e])
theorem apart_both {x : World} {b g g' n n' cap cap' : Nat} {e : TypeId} {size : Nat} {v : Value} {m : Nat} {xs : List Value} (h : v.ownBlock ≠ some g) (ho : x.ownsRow b e size (.slice (some ⟨g, 0, none⟩) n cap) m xs) (hat : v.ownBlock = some g' ∨ g' = x.heap.size + 1) :
    ∀ k, (Value.slice (some ⟨g, 0, none⟩) n cap).ownBlock = some k → (Value.slice (some ⟨g', 0, none⟩) n' cap').ownBlock ≠ some k := by
  intro k hk e
  have hg : g < x.heap.size := (ho.lt g rfl).2
  simp [Value.ownBlock] at hk e
  rcases hat with h1 | h1
  · exact h (by rw [h1]; congr 1; omega)
  · omega
theorem own_put {x : World} {b c o : Nat} {e : TypeId} {size : Nat} {v u : Value} {n : Nat} {xs : List Value} (h : x.ownsRow b e size v n xs) (hc : c < b) : (x.setCell ⟨c, o, none⟩ u).ownsRow b e size v n xs :=
  ownsRow_setCell_below h hc u
theorem ops_end {r : List OpL × Rd} {n k : Nat} {zs : List OpL} {rk : Rd} (h : ¬ k < n) (HR : Hid (r = (zs ++ (Rd.ops (n - k) rk).1, (Rd.ops (n - k) rk).2))) : r = (zs, rk) := by
  have : n - k = 0 := by omega
  unfold Hid at HR
  rw [HR, this]
  simp [Rd.ops]
theorem nums_end {r : List Int × Rd} {n k : Nat} {zs : List Int} {rk : Rd} (h : ¬ k < n) (HR : Hid (r = (zs ++ (Rd.nums (n - k) rk).1, (Rd.nums (n - k) rk).2))) : r = (zs, rk) := by
  have : n - k = 0 := by omega
  unfold Hid at HR
  rw [HR, this]
  simp [Rd.nums]
theorem told_end {r : List Int × List Int × Rd} {n k : Nat} {xs ys : List Int} {rk : Rd} (h : ¬ k < n) (HR : Hid (r = (xs ++ (Rd.told (n - k) rk).1, ys ++ (Rd.told (n - k) rk).2.1, (Rd.told (n - k) rk).2.2))) : r = (xs, ys, rk) := by
  have : n - k = 0 := by omega
  unfold Hid at HR
  rw [HR, this]
  simp [Rd.told]
theorem d1_start {r : Rd} {zs : List OpL} {rk : Rd} (h : r.o1 = (zs, rk)) : r.d1 = Rd.nums rk.one.toNat rk.next := by unfold Rd.d1; rw [h]
theorem t1_start {r : Rd} {zs : List Int} {rk : Rd} (h : r.d1 = (zs, rk)) : r.t1 = Rd.told rk.one.toNat rk.next := by unfold Rd.t1; rw [h]
theorem ops_go {r : List OpL × Rd} {n k : Nat} {zs : List OpL} {rk : Rd} (h : k < n) (HR : Hid (r = (zs ++ (Rd.ops (n - k) rk).1, (Rd.ops (n - k) rk).2))) :
    Hid (r = (zs ++ [(rk.one, rk.next.one, rk.next.next.wide)] ++ (Rd.ops (n - (k + 1)) rk.next.next.next6).1, (Rd.ops (n - (k + 1)) rk.next.next.next6).2)) := by
  obtain ⟨j, hj⟩ : ∃ j, n - k = j + 1 := ⟨n - k - 1, by omega⟩
  have hj' : n - (k + 1) = j := by omega
  unfold Hid at *
  rw [HR, hj', hj]
  simp [Rd.ops]
theorem nums_go {r : List Int × Rd} {n k : Nat} {zs : List Int} {rk : Rd} (h : k < n) (HR : Hid (r = (zs ++ (Rd.nums (n - k) rk).1, (Rd.nums (n - k) rk).2))) :
    Hid (r = (zs ++ [rk.one] ++ (Rd.nums (n - (k + 1)) rk.next).1, (Rd.nums (n - (k + 1)) rk.next).2)) := by
  obtain ⟨j, hj⟩ : ∃ j, n - k = j + 1 := ⟨n - k - 1, by omega⟩
  have hj' : n - (k + 1) = j := by omega
  unfold Hid at *
  rw [HR, hj', hj]
  simp [Rd.nums]
theorem told_go {r : List Int × List Int × Rd} {n k : Nat} {xs ys : List Int} {rk : Rd} (h : k < n) (HR : Hid (r = (xs ++ (Rd.told (n - k) rk).1, ys ++ (Rd.told (n - k) rk).2.1, (Rd.told (n - k) rk).2.2))) :
    Hid (r = (xs ++ [rk.one] ++ (Rd.told (n - (k + 1)) rk.next.next6).1, ys ++ [rk.next.wide] ++ (Rd.told (n - (k + 1)) rk.next.next6).2.1, (Rd.told (n - (k + 1)) rk.next.next6).2.2)) := by
  obtain ⟨j, hj⟩ : ∃ j, n - k = j + 1 := ⟨n - k - 1, by omega⟩
  have hj' : n - (k + 1) = j := by omega
  unfold Hid at *
  rw [HR, hj', hj]
  simp [Rd.told]

def SlOps (w : World) (a : Option Addr) (cap : Nat) (zs : List OpL) : Prop := OpsAt w a zs ∧ zs.length ≤ maxLen ∧ zs.length ≤ cap ∧ (a = none → zs.length = 0 ∧ cap = 0)
/-- A value that is a frame. -/
def FrameV (w : World) (v : Value) (f : FrameL) : Prop := ∃ a3 c3 a4 c4 a5 c5 a6 c6,
  v = .agg #[.int .i64 f.kind, .int .i64 f.node, .int .i64 f.id, .slice a3 f.ops.length c3, .slice a4 f.deps.length c4, .slice a5 f.ats.length c5, .slice a6 f.vals.length c6] ∧
  SlOps w a3 c3 f.ops ∧ SlInts w a4 c4 f.deps ∧ SlInts w a5 c5 f.ats ∧ SlInts w a6 c6 f.vals
theorem SlOps.later {w w' : World} {a : Option Addr} {cap : Nat} {zs : List OpL} (h : SlOps w a cap zs) (hb : Below w.heap.size w w') : SlOps w' a cap zs :=
  ⟨h.1.later hb, h.2⟩
theorem FrameV.later {w w' : World} {v : Value} {f : FrameL} (h : FrameV w v f) (hb : Below w.heap.size w w') : FrameV w' v f := by
  obtain ⟨a3, c3, a4, c4, a5, c5, a6, c6, e, h3, h4, h5, h6⟩ := h
  exact ⟨a3, c3, a4, c4, a5, c5, a6, c6, e, h3.later hb, h4.later hb, h5.later hb, h6.later hb⟩

theorem opsCells_len (zs : List OpL) : (opsCells zs).length = zs.length * 3 := by
  induction zs with
  | nil => rfl
  | cons o zs ih => simp [opsCells, opCells] at *; omega
theorem opsCells_get : ∀ (zs : List OpL) (i : Nat), i < zs.length → (opsCells zs)[i * 3]? = some (.int .i64 (zs.getD i (0, 0, 0)).1) ∧ (opsCells zs)[i * 3 + 1]? = some (.int .i64 (zs.getD i (0, 0, 0)).2.1) ∧ (opsCells zs)[i * 3 + 2]? = some (.int .i64 (zs.getD i (0, 0, 0)).2.2)
  | [], i, h => by simp at h
  | o :: zs, 0, _ => by simp [opsCells, opCells]
  | o :: zs, i + 1, h => by
    have ih := opsCells_get zs i (by simpa using h)
    have e : opsCells (o :: zs) = .int .i64 o.1 :: .int .i64 o.2.1 :: .int .i64 o.2.2 :: opsCells zs := by simp [opsCells, opCells]
    have n0 : (i + 1) * 3 = i * 3 + 1 + 1 + 1 := by omega
    have n1 : (i + 1) * 3 + 1 = (i * 3 + 1) + 1 + 1 + 1 := by omega
    have n2 : (i + 1) * 3 + 2 = (i * 3 + 2) + 1 + 1 + 1 := by omega
    rw [e, n1, n2, n0]
    simpa using ih
theorem SlOps.of_owns {w : World} {b : Nat} {e : TypeId} {a : Option Addr} {cap : Nat} {zs : List OpL} (h : w.ownsRow b e 3 (.slice a zs.length cap) zs.length (opsCells zs)) : SlOps w a cap zs := by
  obtain ⟨a2, c2, h1, h2, h3⟩ := own_form h
  simp at h1
  obtain ⟨rfl, rfl⟩ := h1
  rcases h.2 with ⟨_, h0⟩ | ⟨g, c, cur, hs, hg, hh, h5, h6, h7, h8⟩
  · exact ⟨Or.inl (List.eq_nil_of_length_eq_zero h0), by rw [h0]; exact Nat.zero_le _, h2, h3⟩
  · simp at hs
    obtain ⟨rfl, rfl⟩ := hs
    refine ⟨Or.inr ⟨g, 0, rfl, (Array.getElem?_eq_some_iff.1 hh).1, fun i hi => ?_⟩, by omega, h2, h3⟩
    have key : ∀ j, j < zs.length * 3 → w.cell? ⟨g, 0 + j, none⟩ = (opsCells zs)[j]? := fun j hj => by
      rw [cell_of_row w g (0 + j) cur e _ hh, ← h8, List.getElem?_take_of_lt hj, Nat.zero_add]
      simp
    have := opsCells_get zs i hi
    rw [← key _ (by omega), ← key _ (by omega), ← key _ (by omega)] at this
    simpa [Nat.add_assoc] using this

def put7 (w : World) (b : Nat) (x0 x1 x2 x3 x4 x5 x6 : Value) : World :=
  ((((((w.setCell ⟨b, 0, none⟩ x0).setCell ⟨b, 1, none⟩ x1).setCell ⟨b, 2, none⟩ x2).setCell ⟨b, 3, none⟩ x3).setCell ⟨b, 4, none⟩ x4).setCell ⟨b, 5, none⟩ x5).setCell ⟨b, 6, none⟩ x6
theorem put7_own {w : World} {b : Nat} {x0 x1 x2 x3 x4 x5 x6 : Value} {base : Nat} {e : TypeId} {size : Nat} {v : Value} {n : Nat} {xs : List Value} (h : w.ownsRow base e size v n xs) (hb : b < base) : (put7 w b x0 x1 x2 x3 x4 x5 x6).ownsRow base e size v n xs :=
  own_put (own_put (own_put (own_put (own_put (own_put (own_put h hb) hb) hb) hb) hb) hb) hb
theorem put7_block {w : World} {b : Nat} {x0 x1 x2 x3 x4 x5 x6 : Value} {k : Nat} (h : k ≠ b) : (put7 w b x0 x1 x2 x3 x4 x5 x6).heap[k]? = w.heap[k]? := by
  unfold put7
  rw [Below.heap_setCell _ _ _ _ h, Below.heap_setCell _ _ _ _ h, Below.heap_setCell _ _ _ _ h, Below.heap_setCell _ _ _ _ h, Below.heap_setCell _ _ _ _ h, Below.heap_setCell _ _ _ _ h, Below.heap_setCell _ _ _ _ h]
theorem put7_grown {w w1 : World} {b c : Nat} {x0 x1 x2 x3 x4 x5 x6 : Value} (h : w.grownBy w1 (some c)) (hb : w.heap.size ≤ b) : w.grownBy (put7 w1 b x0 x1 x2 x3 x4 x5 x6) (some c) :=
  grown_put (grown_put (grown_put (grown_put (grown_put (grown_put (grown_put h hb _ _) hb _ _) hb _ _) hb _ _) hb _ _) hb _ _) hb _ _

/-- No slice of the value lies below block b. -/
def FarV (b : Nat) (v : Value) : Prop := ∀ (cs : Array Value), v = .agg cs → ∀ (i : Nat) (x : Addr) (n c : Nat), cs[i]? = some (Value.slice (some x) n c) → b ≤ x.block
theorem far_of {w : World} {base b : Nat} {e : TypeId} {size n m : Nat} {a : Option Addr} {cap : Nat} {xs : List Value} (h : w.ownsRow base e size (.slice a n cap) m xs) (hb : b ≤ base) {x : Addr} (hx : a = some x) : b ≤ x.block := by
  subst hx
  have := (h.lt x.block rfl).1
  omega

theorem frame_fin {w wr : World} {c B3 b4 b5 : Nat} {r rk rk2 rk3 : Rd} {v3 v4 v5 v6 : Option Addr} {c3 c4 c5 c6 : Nat} {zs : List OpL} {ds xs ys : List Int} {k3 : Nat} {e3 e4 e5 e6 : TypeId}
    (F : Fr w c w.heap.size B3 r.one r.next.one r.next.next.one wr rk3 (.slice v3 zs.length c3) (.slice v4 ds.length c4) (.slice v5 k3 c5) (.slice v6 k3 c6)) (h3 : wr.ownsRow (B3 + 1) e3 3 (.slice v3 zs.length c3) zs.length (opsCells zs))
    (h4 : wr.ownsRow b4 e4 1 (.slice v4 ds.length c4) ds.length (intCells ds)) (h5 : wr.ownsRow b5 e5 1 (.slice v5 k3 c5) k3 (intCells xs)) (h6 : wr.ownsRow b5 e6 1 (.slice v6 k3 c6) k3 (intCells ys))
    (l4 : w.heap.size < b4) (l5 : w.heap.size < b5) (lx : xs.length = k3) (ly : ys.length = k3) (E1 : r.o1 = (zs, rk)) (E3 : r.d1 = (ds, rk2)) (E5 : r.t1 = (xs, ys, rk3)) {x0 x1 x2 x3 x4 x5 x6 : Value} :
    FrameV (put7 wr w.heap.size x0 x1 x2 x3 x4 x5 x6) (.agg #[.int .i64 r.one, .int .i64 r.next.one, .int .i64 r.next.next.one, .slice v3 zs.length c3, .slice v4 ds.length c4, .slice v5 k3 c5, .slice v6 k3 c6]) r.frame ∧
      RdAt (put7 wr w.heap.size x0 x1 x2 x3 x4 x5 x6) c r.end_ ∧ w.grownBy (put7 wr w.heap.size x0 x1 x2 x3 x4 x5 x6) (some c) ∧
      FarV w.heap.size (.agg #[.int .i64 r.one, .int .i64 r.next.one, .int .i64 r.next.next.one, .slice v3 zs.length c3, .slice v4 ds.length c4, .slice v5 k3 c5, .slice v6 k3 c6]) := by
  have l1 := F.l1
  have l3 := F.l3
  subst lx
  refine ⟨?_, ?_, put7_grown F.g (Nat.le_refl _), ?_⟩
  rotate_left 2
  · intro cs hcs i x n cc hi
    cases hcs
    match i, hi with
    | 0, hi => simp at hi
    | 1, hi => simp at hi
    | 2, hi => simp at hi
    | 3, hi => simp at hi; exact far_of h3 (by omega) hi.1
    | 4, hi => simp at hi; exact far_of h4 (by omega) hi.1
    | 5, hi => simp at hi; exact far_of h5 (by omega) hi.1
    | 6, hi => simp at hi; exact far_of h6 (by omega) hi.1
    | n + 7, hi => simp at hi
  · unfold Rd.frame FrameV
    rw [E1, E3, E5]
    refine ⟨v3, c3, v4, c4, v5, c5, v6, c6, by simp [ly], SlOps.of_owns (put7_own h3 (by omega)), SlInts.of_owns (put7_own h4 l4), SlInts.of_owns (put7_own h5 l5), ?_⟩
    rw [← ly] at h6
    exact SlInts.of_owns (put7_own h6 l5)
  · unfold Rd.end_
    rw [E5]
    exact F.rd.block (put7_block (by omega))

end Go.Proofs.Ytkoefoccbjhoiab

namespace Go.Proofs.Ytkoefoccbjhoiab
open Go.RowKit

/-- A list of ints in a block of which 'ok' holds: nothing, or its cells. -/
def IntsIn (ok : Nat → Prop) (w : World) (a : Option Addr) (zs : List Int) : Prop :=
  zs = [] ∨ ∃ b off, a = some ⟨b, off, none⟩ ∧ ok b ∧ ∀ i, i < zs.length → w.cell? ⟨b, off + i, none⟩ = some (.int .i64 (zs.getD i 0))
def OpsIn (ok : Nat → Prop) (w : World) (a : Option Addr) (zs : List OpL) : Prop :=
  zs = [] ∨ ∃ b off, a = some ⟨b, off, none⟩ ∧ ok b ∧ ∀ i, i < zs.length → w.cell? ⟨b, off + i * 3, none⟩ = some (.int .i64 (zs.getD i (0, 0, 0)).1) ∧
    w.cell? ⟨b, off + i * 3 + 1, none⟩ = some (.int .i64 (zs.getD i (0, 0, 0)).2.1) ∧ w.cell? ⟨b, off + i * 3 + 2, none⟩ = some (.int .i64 (zs.getD i (0, 0, 0)).2.2)

/-- Blocks of which 'ok' holds are as they were. -/
def SameOn (ok : Nat → Prop) (w w' : World) : Prop := ∀ k, k < w.heap.size → ok k → w'.heap[k]? = w.heap[k]?
theorem SameOn.cell {ok : Nat → Prop} {w w' : World} (h : SameOn ok w w') {p : Addr} {v : Value} (hc : w.cell? p = some v) (hk : ok p.block) : w'.cell? p = some v :=
  (World.cell?_of_block (h p.block (World.block_lt_of_cell? w p hc) hk)).trans hc
theorem SameOn.of_size {ok : Nat → Prop} {w w' : World} (h : Below w.heap.size w w') : SameOn ok w w' := fun k h1 _ => h.block k h1
theorem IntsIn.later {ok : Nat → Prop} {w w' : World} {a : Option Addr} {zs : List Int} (h : IntsIn ok w a zs) (hB : SameOn ok w w') : IntsIn ok w' a zs := by
  rcases h with h | ⟨b, off, ha, hb, hc⟩
  · exact Or.inl h
  · exact Or.inr ⟨b, off, ha, hb, fun i hi => hB.cell (hc i hi) hb⟩
theorem IntsIn.mono {ok ok' : Nat → Prop} {w : World} {a : Option Addr} {zs : List Int} (h : IntsIn ok w a zs) (hk : ∀ k, k < w.heap.size → ok k → ok' k) : IntsIn ok' w a zs := by
  rcases h with h | ⟨b, off, ha, hb, hc⟩
  · exact Or.inl h
  · cases zs with
    | nil => exact Or.inl rfl
    | cons z r =>
      have := World.block_lt_of_cell? w _ (hc 0 (by simp))
      exact Or.inr ⟨b, off, ha, hk b this hb, hc⟩
theorem IntsIn.at {ok : Nat → Prop} {w : World} {a : Option Addr} {zs : List Int} (h : IntsIn ok w a zs) : IntsAt w.heap.size w a zs := by
  rcases h with h | ⟨b, off, ha, hb, hc⟩
  · exact Or.inl h
  · cases zs with
    | nil => exact Or.inl rfl
    | cons z r => exact Or.inr ⟨b, off, ha, World.block_lt_of_cell? w _ (hc 0 (by simp)), hc⟩
theorem OpsIn.later {ok : Nat → Prop} {w w' : World} {a : Option Addr} {zs : List OpL} (h : OpsIn ok w a zs) (hB : SameOn ok w w') : OpsIn ok w' a zs := by
  rcases h with h | ⟨b, off, ha, hb, hc⟩
  · exact Or.inl h
  · exact Or.inr ⟨b, off, ha, hb, fun i hi => ⟨hB.cell (hc i hi).1 hb, hB.cell (hc i hi).2.1 hb, hB.cell (hc i hi).2.2 hb⟩⟩
theorem OpsIn.mono {ok ok' : Nat → Prop} {w : World} {a : Option Addr} {zs : List OpL} (h : OpsIn ok w a zs) (hk : ∀ k, k < w.heap.size → ok k → ok' k) : OpsIn ok' w a zs := by
  rcases h with h | ⟨b, off, ha, hb, hc⟩
  · exact Or.inl h
  · cases zs with
    | nil => exact Or.inl rfl
    | cons z r =>
      have := World.block_lt_of_cell? w _ (hc 0 (by simp)).1
      exact Or.inr ⟨b, off, ha, hk b this hb, hc⟩
theorem OpsIn.at {ok : Nat → Prop} {w : World} {a : Option Addr} {zs : List OpL} (h : OpsIn ok w a zs) : OpsAt w a zs := by
  rcases h with h | ⟨b, off, ha, hb, hc⟩
  · exact Or.inl h
  · cases zs with
    | nil => exact Or.inl rfl
    | cons z r => exact Or.inr ⟨b, off, ha, World.block_lt_of_cell? w _ (hc 0 (by simp)).1, hc⟩

/-- A value that is a list of ints; of operations. -/
def IsI (ok : Nat → Prop) (w : World) (v : Value) (zs : List Int) : Prop := ∃ a cap, v = .slice a zs.length cap ∧ IntsIn ok w a zs ∧ zs.length * 8 ≤ 140737488355328 ∧ zs.length ≤ cap ∧ (a = none → zs.length = 0 ∧ cap = 0)
def IsO (ok : Nat → Prop) (w : World) (v : Value) (zs : List OpL) : Prop := ∃ a cap, v = .slice a zs.length cap ∧ OpsIn ok w a zs ∧ zs.length * 24 ≤ 140737488355328 ∧ zs.length ≤ cap ∧ (a = none → zs.length = 0 ∧ cap = 0)
theorem IsI.later {ok : Nat → Prop} {w w' : World} {v : Value} {zs : List Int} (h : IsI ok w v zs) (hB : SameOn ok w w') : IsI ok w' v zs := by
  obtain ⟨a, cap, h1, h2, h3⟩ := h
  exact ⟨a, cap, h1, h2.later hB, h3⟩
theorem IsI.mono {ok ok' : Nat → Prop} {w : World} {v : Value} {zs : List Int} (h : IsI ok w v zs) (hk : ∀ k, k < w.heap.size → ok k → ok' k) : IsI ok' w v zs := by
  obtain ⟨a, cap, h1, h2, h3⟩ := h
  exact ⟨a, cap, h1, h2.mono hk, h3⟩
theorem IsI.sl {ok : Nat → Prop} {w : World} {v : Value} {zs : List Int} (h : IsI ok w v zs) : ∃ a cap, v = .slice a zs.length cap ∧ SlInts w a cap zs := by
  obtain ⟨a, cap, h1, h2, h3, h4, h5⟩ := h
  exact ⟨a, cap, h1, h2.at, by unfold maxLen; omega, h4, h5⟩
theorem IsI.nil (ok : Nat → Prop) (w : World) : IsI ok w (.slice none 0 0) [] := ⟨none, 0, rfl, Or.inl rfl, by decide, Nat.le_refl _, fun _ => ⟨rfl, rfl⟩⟩
theorem IsI.one {ok : Nat → Prop} {w : World} {v : Value} {zs : List Int} (h : IsI ok w v zs) : v.oneCell' = true := by
  obtain ⟨a, cap, rfl, _⟩ := h
  rfl
theorem IsO.later {ok : Nat → Prop} {w w' : World} {v : Value} {zs : List OpL} (h : IsO ok w v zs) (hB : SameOn ok w w') : IsO ok w' v zs := by
  obtain ⟨a, cap, h1, h2, h3⟩ := h
  exact ⟨a, cap, h1, h2.later hB, h3⟩
theorem IsO.mono {ok ok' : Nat → Prop} {w : World} {v : Value} {zs : List OpL} (h : IsO ok w v zs) (hk : ∀ k, k < w.heap.size → ok k → ok' k) : IsO ok' w v zs := by
  obtain ⟨a, cap, h1, h2, h3⟩ := h
  exact ⟨a, cap, h1, h2.mono hk, h3⟩
theorem IsO.sl {ok : Nat → Prop} {w : World} {v : Value} {zs : List OpL} (h : IsO ok w v zs) : ∃ a cap, v = .slice a zs.length cap ∧ SlOps w a cap zs := by
  obtain ⟨a, cap, h1, h2, h3, h4, h5⟩ := h
  exact ⟨a, cap, h1, h2.at, by unfold maxLen; omega, h4, h5⟩
theorem IsO.nil (ok : Nat → Prop) (w : World) : IsO ok w (.slice none 0 0) [] := ⟨none, 0, rfl, Or.inl rfl, by decide, Nat.le_refl _, fun _ => ⟨rfl, rfl⟩⟩
theorem IsO.one {ok : Nat → Prop} {w : World} {v : Value} {zs : List OpL} (h : IsO ok w v zs) : v.oneCell' = true := by
  obtain ⟨a, cap, rfl, _⟩ := h
  rfl
/-- What the call made for itself. -/
theorem IsI.of_owns {w : World} {base : Nat} {e : TypeId} {v : Value} {zs : List Int} (h : w.ownsRow base e 1 v zs.length (intCells zs)) (hl : zs.length * 8 ≤ 140737488355328) : IsI (fun b => base ≤ b ∧ v.ownBlock = some b) w v zs := by
  obtain ⟨a, cap, rfl, h1, h2⟩ := own_form h
  refine ⟨a, cap, rfl, ?_, hl, h1, h2⟩
  obtain ⟨a', cap', he, hi⟩ := IntsAt.of_owns h
  simp at he
  obtain ⟨rfl, rfl⟩ := he
  rcases hi with hi | ⟨b, off, rfl, hb, hc⟩
  · exact Or.inl hi
  · exact Or.inr ⟨b, off, rfl, ⟨(World.ownsRow.lt h b rfl).1, rfl⟩, hc⟩
theorem IsO.of_owns {w : World} {base : Nat} {e : TypeId} {v : Value} {zs : List OpL} (h : w.ownsRow base e 3 v zs.length (opsCells zs)) (hl : zs.length * 24 ≤ 140737488355328) : IsO (fun b => base ≤ b ∧ v.ownBlock = some b) w v zs := by
  obtain ⟨a, cap, rfl, h1, h2⟩ := own_form h
  refine ⟨a, cap, rfl, ?_, hl, h1, h2⟩
  obtain ⟨hi, _⟩ := SlOps.of_owns h
  rcases hi with hi | ⟨b, off, rfl, hb, hc⟩
  · exact Or.inl hi
  · exact Or.inr ⟨b, off, rfl, ⟨(World.ownsRow.lt h b rfl).1, rfl⟩, hc⟩

theorem rowF_all {N : Nat} {f : Nat → Value} (h : ∀ i, i < N → (f i).oneCell' = true) : (rowF N f).all (·.oneCell') = true := by
  refine Array.all_eq_true_iff_forall_mem.2 (fun v hv => ?_)
  simp [rowF] at hv
  obtain ⟨i, hi, rfl⟩ := hv
  exact h i hi

end Go.Proofs.Ytkoefoccbjhoiab

namespace Go.Proofs.Ytkoefoccbjhoiab
open Go.RowKit

/-- A clone: a row of the call's own; of nothing no room. -/
def CloneI (w w' : World) (v : Value) (zs : List Int) : Prop := w'.ownsRow w.heap.size 3 1 v zs.length (intCells zs) ∧ (zs.length = 0 → ∃ a, v = .slice a 0 0) ∧ Below w.heap.size w w'
def CloneO (w w' : World) (v : Value) (zs : List OpL) : Prop := w'.ownsRow w.heap.size 108 3 v zs.length (opsCells zs) ∧ (zs.length = 0 → ∃ a, v = .slice a 0 0) ∧ Below w.heap.size w w'


theorem intCells_one (zs : List Int) : ∀ u ∈ intCells zs, u.oneCell' = true := by
  intro u hu
  obtain ⟨n, _, rfl⟩ := List.mem_map.1 hu
  rfl
theorem opsCells_one (zs : List OpL) : ∀ u ∈ opsCells zs, u.oneCell' = true := by
  intro u hu
  obtain ⟨o, _, h⟩ := List.mem_flatMap.1 hu
  simp [opCells] at h
  rcases h with rfl | rfl | rfl <;> rfl
/-- The cells of a list that lay there lie there still. -/
theorem IntsAt.news {w w1 : World} {ad : Addr} {zs : List Int} (h : IntsAt w.heap.size w (some ad) zs) (hb : Below w.heap.size w w1) : ∀ j u, (intCells zs)[j]? = some u → w1.cell? (ad.add j) = some u := by
  intro j u hu
  rcases h with rfl | ⟨b, off, hb', hlt, hc⟩
  · simp [intCells] at hu
  · obtain rfl : ad = ⟨b, off, none⟩ := by simpa using hb'
    have hj : j < zs.length := by
      obtain ⟨hj, _⟩ := List.getElem?_eq_some_iff.1 hu
      simpa [intCells] using hj
    rw [add_none, hb.cell (p := ⟨b, off + j, none⟩) hlt, hc j hj]
    simp [intCells, hj] at hu
    simp [List.getD, hj, hu]
theorem OpsAt.news {w w1 : World} {ad : Addr} {zs : List OpL} (h : OpsAt w (some ad) zs) (hb : Below w.heap.size w w1) : ∀ j u, (opsCells zs)[j]? = some u → w1.cell? (ad.add j) = some u := by
  intro j u hu
  rcases h with rfl | ⟨b, off, hb', hlt, hc⟩
  · simp [opsCells] at hu
  · obtain rfl : ad = ⟨b, off, none⟩ := by simpa using hb'
    have hj : j < zs.length * 3 := by
      obtain ⟨hj, _⟩ := List.getElem?_eq_some_iff.1 hu
      rw [opsCells_len] at hj
      exact hj
    obtain ⟨g0, g1, g2⟩ := opsCells_get zs (j / 3) (by omega)
    obtain ⟨c0, c1, c2⟩ := hc (j / 3) (by omega)
    rw [add_none, hb.cell (p := ⟨b, off + j, none⟩) hlt]
    have h3 : j = j / 3 * 3 ∨ j = j / 3 * 3 + 1 ∨ j = j / 3 * 3 + 2 := by omega
    rcases h3 with e | e | e
    · rw [e] at hu ⊢; rw [c0]; rw [g0] at hu; exact hu
    · rw [e] at hu ⊢; rw [← Nat.add_assoc, c1]; rw [g1] at hu; exact hu
    · rw [e] at hu ⊢; rw [← Nat.add_assoc, c2]; rw [g2] at hu; exact hu

set_option maxRecDepth 100000 in
set_option maxHeartbeats 400000 in
theorem cloneI_any (a : Option Addr) (cap : Nat) (zs : List Int) (w : World) (h : SlInts w a cap zs) (hl : zs.length * 8 ≤ 140737488355328) :
    Calls Try.prog 86 #[.slice a zs.length cap] w fun e w' => ∃ v, e = .returned v ∧ CloneI w w' v zs := by
  obtain ⟨i0, hi, hz0, hz1, hz2⟩ := info_parts Try.infoInt
  have he := fun w => Go.Lib.run_eql_slice_nil (P := Try.prog) w 23 3 a zs.length cap 0 0 Try.underlying23
  cases a with
  | none =>
    obtain ⟨h1, rfl⟩ := h.2.2.2 rfl
    obtain rfl := List.eq_nil_of_length_eq_zero h1
    simp only [Option.isNone_none, List.length_nil] at he
    go_enter Try.func86, Try.ntmps86
    go_wp2
    go_ret
    exact ⟨_, rfl, World.ownsRow_nil _ _ _ _, fun _ => ⟨_, rfl⟩, Below.refl _ _⟩
  | some ad =>
    simp only [Option.isNone_some] at he
    obtain ⟨hz, hm, hc, _⟩ := h
    have HB : Hid (Below w.heap.size w (w.alloc (.cells #[] 3))) := (Below.refl _ _).alloc (Nat.le_refl _) _
    have HZ : Hid (IntsAt w.heap.size w (some ad) zs) := hz
    clear hz
    by_cases h0 : zs.length = 0
    · obtain rfl := List.eq_nil_of_length_eq_zero h0
      simp only [List.length_nil] at he
      go_enter Try.func86, Try.ntmps86
      go_wp2_with (first
        | (at_builtin; refine wpList_append_fits_any _ rfl _ _ 23 rfl w.heap.size 3 i0 1 Try.underlying23 hi hz1 w.heap.size 0 0 [] rfl (World.ownsRow_made (e := 3) (size := 1) w #[] 0 (Nat.le_refl _) (by decide) rfl) (some ad) 0 cap [] rfl rfl (fun h => by cases h) (fun _ _ j u hj => by simp at hj) (by simp) (Nat.le_refl _) ?_; intro w2 hown hg)
        | go_in)
      go_wp2
      go_ret
      exact ⟨_, rfl, hown, fun _ => ⟨_, rfl⟩, HB.out.grown hg (by rw [size_push]; omega) (by intro k hk; cases hk; exact Nat.le_refl _)⟩
    · go_enter Try.func86, Try.ntmps86
      go_wp2_with (first
        | (at_builtin; refine wpList_append_own _ rfl _ _ 23 rfl w.heap.size 3 i0 (.int .i64 0) 1 8 Try.underlying23 hi hz0 hz1 hz2 rfl (by decide) _ _ _ rfl (World.ownsRow_made (e := 3) (size := 1) w #[] 0 (Nat.le_refl _) (by decide) rfl) ad zs.length cap (intCells zs) rfl ?c1 ?c2 ?c3 ?c4 ?c5 ?c6 ?_)
        | go_in)
      case c1 => simp [intCells]
      case c2 => exact HZ.out.news HB.out
      case c3 => exact intCells_one zs
      case c4 => unfold maxLen; omega
      case c5 => omega
      case c6 => rw [size_push]; omega
      · intro v' w2 hown hg _
        go_wp2
        go_ret
        refine ⟨_, rfl, ?_, fun h => absurd h h0, HB.out.grown hg (by rw [size_push]; omega) (by intro k hk; cases hk; exact Nat.le_refl _)⟩
        simpa using hown

set_option maxRecDepth 100000 in
set_option maxHeartbeats 400000 in
theorem cloneO_any (a : Option Addr) (cap : Nat) (zs : List OpL) (w : World) (h : SlOps w a cap zs) (hl : zs.length * 24 ≤ 140737488355328) :
    Calls Try.prog 91 #[.slice a zs.length cap] w fun e w' => ∃ v, e = .returned v ∧ CloneO w w' v zs := by
  obtain ⟨i0, hi, hz0, hz1, hz2⟩ := info_parts Try.infoOp
  have he := fun w => Go.Lib.run_eql_slice_nil (P := Try.prog) w 35 108 a zs.length cap 0 0 Try.underlying35
  cases a with
  | none =>
    obtain ⟨h1, rfl⟩ := h.2.2.2 rfl
    obtain rfl := List.eq_nil_of_length_eq_zero h1
    simp only [Option.isNone_none, List.length_nil] at he
    go_enter Try.func91, Try.ntmps91
    go_wp2
    go_ret
    exact ⟨_, rfl, World.ownsRow_nil _ _ _ _, fun _ => ⟨_, rfl⟩, Below.refl _ _⟩
  | some ad =>
    simp only [Option.isNone_some] at he
    obtain ⟨hz, hm, hc, _⟩ := h
    have HB : Hid (Below w.heap.size w (w.alloc (.cells #[] 108))) := (Below.refl _ _).alloc (Nat.le_refl _) _
    have HZ : Hid (OpsAt w (some ad) zs) := hz
    clear hz
    by_cases h0 : zs.length = 0
    · obtain rfl := List.eq_nil_of_length_eq_zero h0
      simp only [List.length_nil] at he
      go_enter Try.func91, Try.ntmps91
      go_wp2_with (first
        | (at_builtin; refine wpList_append_fits_any _ rfl _ _ 35 rfl w.heap.size 108 i0 3 Try.underlying35 hi hz1 w.heap.size 0 0 [] rfl (World.ownsRow_made (e := 108) (size := 3) w #[] 0 (Nat.le_refl _) (by decide) rfl) (some ad) 0 cap [] rfl rfl (fun h => by cases h) (fun _ _ j u hj => by simp at hj) (by simp) (Nat.le_refl _) ?_; intro w2 hown hg)
        | go_in)
      go_wp2
      go_ret
      exact ⟨_, rfl, hown, fun _ => ⟨_, rfl⟩, HB.out.grown hg (by rw [size_push]; omega) (by intro k hk; cases hk; exact Nat.le_refl _)⟩
    · go_enter Try.func91, Try.ntmps91
      go_wp2_with (first
        | (at_builtin; refine wpList_append_own _ rfl _ _ 35 rfl w.heap.size 108 i0 (.agg #[.int .i64 0, .int .i64 0, .int .i64 0]) 3 24 Try.underlying35 hi hz0 hz1 hz2 rfl (by decide) _ _ _ rfl (World.ownsRow_made (e := 108) (size := 3) w #[] 0 (Nat.le_refl _) (by decide) rfl) ad zs.length cap (opsCells zs) rfl ?c1 ?c2 ?c3 ?c4 ?c5 ?c6 ?_)
        | go_in)
      case c1 => exact opsCells_len zs
      case c2 => exact HZ.out.news HB.out
      case c3 => exact opsCells_one zs
      case c4 => unfold maxLen; omega
      case c5 => omega
      case c6 => rw [size_push]; omega
      · intro v' w2 hown hg _
        go_wp2
        go_ret
        refine ⟨_, rfl, ?_, fun h => absurd h h0, HB.out.grown hg (by rw [size_push]; omega) (by intro k hk; cases hk; exact Nat.le_refl _)⟩
        simpa using hown

end Go.Proofs.Ytkoefoccbjhoiab

namespace Go.Proofs.Ytkoefoccbjhoiab
open Go.RowKit

theorem setRow_other (w : World) {g k : Nat} (cs : Array Value) (h : k ≠ g) : (w.setRow g cs).heap[k]? = w.heap[k]? := by
  simp [World.setRow, Array.getElem?_modify]
  intro e; omega
theorem own_same {w w' : World} {b : Nat} {e : TypeId} {size : Nat} {v : Value} {n : Nat} {xs : List Value} (h : w.ownsRow b e size v n xs) (hs : ∀ k, v.ownBlock = some k → w'.heap[k]? = w.heap[k]?) : w'.ownsRow b e size v n xs :=
  ⟨h.1, h.2.imp id fun ⟨g, cap, cur, h1, h2, h3, h4⟩ => ⟨g, cap, cur, h1, h2, by rw [hs g (by rw [h1]; rfl)]; exact h3, h4⟩⟩

theorem rows3 (w : World) (A B C : Obj) : (((w.alloc A).alloc B).alloc C).heap[w.heap.size]? = some A ∧ (((w.alloc A).alloc B).alloc C).heap[w.heap.size + 1]? = some B ∧ (((w.alloc A).alloc B).alloc C).heap[w.heap.size + 2]? = some C := by
  have h1 : (w.alloc A).heap.size = w.heap.size + 1 := size_push _ _
  have h2 : ((w.alloc A).alloc B).heap.size = w.heap.size + 2 := by rw [size_push]; omega
  obtain ⟨r1, r2⟩ := two_rows w A B
  refine ⟨?_, ?_, ?_⟩
  · rw [Below.heap_alloc _ _ _ (by omega)]; exact r1
  · rw [Below.heap_alloc _ _ _ (by omega)]; exact r2
  · rw [show w.heap.size + 2 = ((w.alloc A).alloc B).heap.size by omega]; exact heap_new _ _
theorem Try.infoFrame7 : (Try.prog.info? 43).map (·.size) = some 7 := by kernel_rfl
theorem Try.infoFrameZ : (Try.prog.info? 43).map (fun i => (i.zero, i.size, i.bytes)) = some (some (.agg #[.int .i64 0, .int .i64 0, .int .i64 0, .slice none 0 0, .slice none 0 0, .slice none 0 0, .slice none 0 0]), 7, 120) := by kernel_rfl
theorem results_row2 {P : Program} {fn : Func} {p q r : Tmp} {ty : TypeId} (h : fn.results = #[.cell p ty, .tmp q, .tmp r]) (tmps : Array Value) (w : World) (g : Nat) (t : TypeId) (cs : Array Value) (fr : Nat × Nat) (d : TypeDesc)
    (hp : tmps.getD p undef = .pointer (some ⟨g, 0, none⟩)) (hg : w.heap[g]? = some (.cells cs t fr)) (hu : P.underlying ty = some d) (hd : (match d with | .struct _ | .array _ _ => true | _ => false) = true) (hi : (P.info? ty).map (·.size) = some cs.size)
    (x y : Value) (hx : tmps.getD q undef = x) (hy : tmps.getD r undef = y) : (results fn tmps).run P w = .ok (.tuple #[.agg cs, x, y]) w := by
  have hp' : tmps[p]?.getD undef = .pointer (some ⟨g, 0, none⟩) := by simpa using hp
  have hx' : tmps[q]?.getD undef = x := by simpa using hx
  have hy' : tmps[r]?.getD undef = y := by simpa using hy
  simp [results, h, hp', hx', hy', asAddr, run_loadVar_row w g t ty cs fr d hg hu hd hi]

/-- A frame whose lists lie below B. -/
def FrameB (B : Nat) (w : World) (v : Value) (f : FrameL) : Prop := ∃ a3 c3 a4 c4 a5 c5 a6 c6,
  v = .agg #[.int .i64 f.kind, .int .i64 f.node, .int .i64 f.id, .slice a3 f.ops.length c3, .slice a4 f.deps.length c4, .slice a5 f.ats.length c5, .slice a6 f.vals.length c6] ∧
  (SlOps w a3 c3 f.ops ∧ OpsIn (· < B) w a3 f.ops) ∧ (SlInts w a4 c4 f.deps ∧ IntsIn (· < B) w a4 f.deps) ∧ (SlInts w a5 c5 f.ats ∧ IntsIn (· < B) w a5 f.ats) ∧ (SlInts w a6 c6 f.vals ∧ IntsIn (· < B) w a6 f.vals)
theorem FrameV.b {w : World} {v : Value} {f : FrameL} (h : FrameV w v f) : FrameB w.heap.size w v f := by
  obtain ⟨a3, c3, a4, c4, a5, c5, a6, c6, e, h3, h4, h5, h6⟩ := h
  exact ⟨a3, c3, a4, c4, a5, c5, a6, c6, e, ⟨h3, h3.1⟩, ⟨h4, h4.1⟩, ⟨h5, h5.1⟩, ⟨h6, h6.1⟩⟩
theorem FrameB.v {B : Nat} {w : World} {v : Value} {f : FrameL} (h : FrameB B w v f) : FrameV w v f := by
  obtain ⟨a3, c3, a4, c4, a5, c5, a6, c6, e, h3, h4, h5, h6⟩ := h
  exact ⟨a3, c3, a4, c4, a5, c5, a6, c6, e, h3.1, h4.1, h5.1, h6.1⟩
theorem slI_later {B : Nat} {w w' : World} {a : Option Addr} {cap : Nat} {zs : List Int} (h : SlInts w a cap zs ∧ IntsIn (· < B) w a zs) (hb : Below B w w') : SlInts w' a cap zs ∧ IntsIn (· < B) w' a zs := by
  have h2 := h.2.later (w' := w') (fun k _ hk => hb.block k hk)
  exact ⟨⟨h2.at, h.1.2⟩, h2⟩
theorem slO_later {B : Nat} {w w' : World} {a : Option Addr} {cap : Nat} {zs : List OpL} (h : SlOps w a cap zs ∧ OpsIn (· < B) w a zs) (hb : Below B w w') : SlOps w' a cap zs ∧ OpsIn (· < B) w' a zs := by
  have h2 := h.2.later (w' := w') (fun k _ hk => hb.block k hk)
  exact ⟨⟨h2.at, h.1.2⟩, h2⟩
theorem FrameB.later {B : Nat} {w w' : World} {v : Value} {f : FrameL} (h : FrameB B w v f) (hb : Below B w w') : FrameB B w' v f := by
  obtain ⟨a3, c3, a4, c4, a5, c5, a6, c6, e, h3, h4, h5, h6⟩ := h
  exact ⟨a3, c3, a4, c4, a5, c5, a6, c6, e, slO_later h3 hb, slI_later h4 hb, slI_later h5 hb, slI_later h6 hb⟩
/-- A frame whose lists lie from B on. -/
def FrameG (B : Nat) (w : World) (v : Value) (f : FrameL) : Prop := ∃ a3 c3 a4 c4 a5 c5 a6 c6,
  v = .agg #[.int .i64 f.kind, .int .i64 f.node, .int .i64 f.id, .slice a3 f.ops.length c3, .slice a4 f.deps.length c4, .slice a5 f.ats.length c5, .slice a6 f.vals.length c6] ∧
  (SlOps w a3 c3 f.ops ∧ OpsIn (B ≤ ·) w a3 f.ops) ∧ (SlInts w a4 c4 f.deps ∧ IntsIn (B ≤ ·) w a4 f.deps) ∧ (SlInts w a5 c5 f.ats ∧ IntsIn (B ≤ ·) w a5 f.ats) ∧ (SlInts w a6 c6 f.vals ∧ IntsIn (B ≤ ·) w a6 f.vals)
theorem slI_same {ok : Nat → Prop} {w w' : World} {a : Option Addr} {cap : Nat} {zs : List Int} (h : SlInts w a cap zs ∧ IntsIn ok w a zs) (hb : SameOn ok w w') : SlInts w' a cap zs ∧ IntsIn ok w' a zs := by
  have h2 := h.2.later hb
  exact ⟨⟨h2.at, h.1.2⟩, h2⟩
theorem slO_same {ok : Nat → Prop} {w w' : World} {a : Option Addr} {cap : Nat} {zs : List OpL} (h : SlOps w a cap zs ∧ OpsIn ok w a zs) (hb : SameOn ok w w') : SlOps w' a cap zs ∧ OpsIn ok w' a zs := by
  have h2 := h.2.later hb
  exact ⟨⟨h2.at, h.1.2⟩, h2⟩
theorem FrameG.same {B : Nat} {w w' : World} {v : Value} {f : FrameL} (h : FrameG B w v f) (hb : SameOn (B ≤ ·) w w') : FrameG B w' v f := by
  obtain ⟨a3, c3, a4, c4, a5, c5, a6, c6, e, h3, h4, h5, h6⟩ := h
  exact ⟨a3, c3, a4, c4, a5, c5, a6, c6, e, slO_same h3 hb, slI_same h4 hb, slI_same h5 hb, slI_same h6 hb⟩
theorem FrameG.mono {B B' : Nat} {w : World} {v : Value} {f : FrameL} (h : FrameG B w v f) (hB : B' ≤ B) : FrameG B' w v f := by
  obtain ⟨a3, c3, a4, c4, a5, c5, a6, c6, e, h3, h4, h5, h6⟩ := h
  have m : ∀ k, k < w.heap.size → B ≤ k → B' ≤ k := fun k _ (h : B ≤ k) => by omega
  exact ⟨a3, c3, a4, c4, a5, c5, a6, c6, e, ⟨h3.1, h3.2.mono m⟩, ⟨h4.1, h4.2.mono m⟩, ⟨h5.1, h5.2.mono m⟩, ⟨h6.1, h6.2.mono m⟩⟩
theorem slI_nil (ok : Nat → Prop) (w : World) : SlInts w none 0 [] ∧ IntsIn ok w none [] := ⟨⟨Or.inl rfl, Nat.zero_le _, Nat.le_refl _, fun _ => ⟨rfl, rfl⟩⟩, Or.inl rfl⟩
theorem slO_nil (ok : Nat → Prop) (w : World) : SlOps w none 0 [] ∧ OpsIn ok w none [] := ⟨⟨Or.inl rfl, Nat.zero_le _, Nat.le_refl _, fun _ => ⟨rfl, rfl⟩⟩, Or.inl rfl⟩
theorem slI_own {B b0 : Nat} {w : World} {a : Option Addr} {cap : Nat} {zs : List Int} (h : w.ownsRow b0 3 1 (.slice a zs.length cap) zs.length (intCells zs)) (hB : B ≤ b0) : SlInts w a cap zs ∧ IntsIn (B ≤ ·) w a zs := by
  have h1 := SlInts.of_owns h
  refine ⟨h1, ?_⟩
  rcases h1.1 with e | ⟨b, off, rfl, _, hc⟩
  · exact Or.inl e
  · exact Or.inr ⟨b, off, rfl, Nat.le_trans hB (World.ownsRow.lt h b rfl).1, hc⟩

/-- A list of frames that the call made. -/
def FramesV (B : Nat) (w : World) (v : Value) (fs : List FrameL) : Prop := ∃ css : List (List Value), css.length = fs.length ∧ w.ownsRow B 43 7 v fs.length css.flatten ∧
  (∀ i (h : i < fs.length), (css.getD i []).length = 7 ∧ FrameG B w (.agg (css.getD i []).toArray) fs[i])
theorem FramesV.same {B : Nat} {w w' : World} {v : Value} {fs : List FrameL} (h : FramesV B w v fs) (hb : SameOn (B ≤ ·) w w') : FramesV B w' v fs := by
  obtain ⟨css, h1, h2, h3⟩ := h
  exact ⟨css, h1, own_same h2 (fun k hk => hb k (World.ownsRow.lt h2 k hk).2 (World.ownsRow.lt h2 k hk).1), fun i hi => ⟨(h3 i hi).1, (h3 i hi).2.same hb⟩⟩
theorem FramesV.mono {B B' : Nat} {w : World} {v : Value} {fs : List FrameL} (h : FramesV B w v fs) (hB : B' ≤ B) : FramesV B' w v fs := by
  obtain ⟨css, h1, h2, h3⟩ := h
  exact ⟨css, h1, own_mono h2 hB, fun i hi => ⟨(h3 i hi).1, (h3 i hi).2.mono hB⟩⟩
theorem FramesV.nil (B : Nat) (w : World) : FramesV B w (.slice none 0 0) [] := ⟨[], rfl, World.ownsRow_nil _ _ _ _, fun _ h => by simp at h⟩

end Go.Proofs.Ytkoefoccbjhoiab

namespace Go.Proofs.Ytkoefoccbjhoiab
open Go.RowKit

end Go.Proofs.Ytkoefoccbjhoiab

namespace Go.Proofs.Ytkoefoccbjhoiab
open Go.RowKit

/-- A new variable of a type whose zero value is known. -/
theorem wpList_alloc_as {P : Program} {w : World} {ops : Array Oper} {rest : List Oper} {o : Oper} {a : Act} {Q : Exit → Act → World → Prop} (hg : o.guard = none) (ty : TypeId) (ho : o.op = .alloc ty) (cs : Array Value) (hz : (P.info? ty).map (·.zero) = some (some (.agg cs)))
    (h : wpList P ops Q rest (a.put o.dst (.pointer (some ⟨w.heap.size, 0, none⟩))) (w.alloc (.cells cs ty))) : wpList P ops Q (o :: rest) a w := by
  refine wpList_plain hg fun K hK => ?_
  cases hq : P.info? ty with
  | none => simp [hq] at hz
  | some i =>
    have hzz : i.zero = some (.agg cs) := by simpa [hq] using hz
    unfold Oper.wp execOp
    simp [ho, Instr.alloc, zeroValue, typeInfo, hq, hzz, newVar, newRow, Value.cells, go_sem]
    exact hK _ _ h

end Go.Proofs.Ytkoefoccbjhoiab

namespace Go.Proofs.Ytkoefoccbjhoiab
open Go.RowKit

def txnB' (n : Int) : Bool := decide (0 ≤ n ∧ n < 32)

set_option maxRecDepth 100000 in
set_option maxHeartbeats 400000 in
theorem g_isTxn (n : Int) (w : World) :
    Calls Try.prog 60 #[.int .i64 n] w fun e w' => e = .returned (.bool (txnB' n)) ∧ w' = w := by
  by_cases h1 : 0 ≤ n
  · by_cases h2 : n < 32
    · have E : Hid (txnB' n = true) := by unfold txnB' Hid; simp; omega
      have d1 : decide (0 ≤ n) = true := by simpa using h1
      have d2 : decide (n < 32) = true := by simpa using h2
      go_enter Try.func60, Try.ntmps60
      go_wp2
      go_ret
      exact ⟨ret_bool E.out.symm, rfl⟩
    · have E : Hid (txnB' n = false) := by unfold txnB' Hid; simp; omega
      have d1 : decide (0 ≤ n) = true := by simpa using h1
      have d2 : decide (n < 32) = false := by simpa using h2
      go_enter Try.func60, Try.ntmps60
      go_wp2
      go_ret
      exact ⟨ret_bool E.out.symm, rfl⟩
  · have E : Hid (txnB' n = false) := by unfold txnB' Hid; simp; omega
    have d1 : decide (0 ≤ n) = false := by simpa using h1
    go_enter Try.func60, Try.ntmps60
    go_wp2
    go_ret
    exact ⟨ret_bool E.out.symm, rfl⟩

theorem Try.setGuard : Try.prog.eqGuardType Try.prog.depth 22 = false := by kernel_rfl

theorem StAt.drewN {w : World} {c : Nat} {gv : Nat → Value} {s : St} {sv : Value} (h : StAt w c gv s sv) (k : Nat) : StAt (w.drewN k) c gv s sv := h
theorem StAt.drew {w : World} {c : Nat} {gv : Nat → Value} {s : St} {sv : Value} (h : StAt w c gv s sv) : StAt w.drew c gv s sv := h

theorem Try.sizeSet (S : Nat → Bool) : (Try.prog.info? 22).map (·.size) = some (bools 32 S).toList.length := by rw [bools_len]; exact Try.infoSet


set_option maxRecDepth 100000 in
set_option maxHeartbeats 400000 in
theorem together_any (c : Nat) (gv : Nat → Value) (s : St) (sv : Value) (n m : Nat) (hn : n < 32) (hm : m < 32) (w : World) (hs : StAt w c gv s sv) :
    Calls Try.prog 131 #[.pointer (some ⟨c, 0, none⟩), .int .i64 n, .int .i64 m] w fun e w' => e = .returned (.bool (sameB 32 (s.reach n) (s.reach m))) ∧ ∃ k, w' = w.drewN k := by
  have r1 := hs.row hn
  have r2 := hs.row hm
  have hg := Try.setGuard
  have he := fun w => run_equalIn_bools 9998 Try.underlying22 Try.underlying4 Try.infoBool (s.reach n) (s.reach m) w
  have n1 : (0 : Int) ≤ (n : Int) ∧ (n : Int) < 32 := by omega
  have m1 : (0 : Int) ≤ (m : Int) ∧ (m : Int) < 32 := by omega
  go_enter Try.func131, Try.ntmps131
  go_wp2
  refine wp_region_quiet_lit (by kernel_rfl) (by kernel_rfl) ?_
  repeat (quiet_step (fail))
  refine wpQuiet_load_mid (by rfl) _ _ rfl _ _ rfl (bools 32 (s.reach n)).toList _ r1 Try.underlying22 rfl (Try.sizeSet _) ?_
  simp only [Act.put, List.setIfInBounds_toArray, List.set_cons_zero, List.set_cons_succ, Array.toArray_toList]
  repeat (quiet_step (fail))
  refine wpQuiet_load_mid (by rfl) _ _ rfl _ _ rfl (bools 32 (s.reach m)).toList _ r2 Try.underlying22 rfl (Try.sizeSet _) ?_
  simp only [Act.put, List.setIfInBounds_toArray, List.set_cons_zero, List.set_cons_succ, Array.toArray_toList]
  repeat (quiet_step (fail))
  refine wpQuiet_nil ?_
  rintro _ ⟨nq, rfl⟩
  go_wp2
  go_ret
  exact ⟨rfl, _, rfl⟩

end Go.Proofs.Ytkoefoccbjhoiab

namespace Go.Proofs.Ytkoefoccbjhoiab
open Go.RowKit

theorem grown_drew {w w1 : World} {row : Option Nat} (h : w.grownBy w1 row) : w.grownBy w1.drew row := ⟨h.os, h.tape, h.output, h.size, h.block⟩
theorem grown_below {w w1 : World} {c : Nat} (h : w.grownBy w1 (some c)) (hc : c < w.heap.size) : Below c w w1 :=
  (Below.refl _ _).grown h (by omega) (by intro k hk; cases hk; exact Nat.le_refl _)
theorem below_grown {w w1 : World} (h : Below w.heap.size w w1) (row : Option Nat) : w.grownBy w1 row := ⟨h.os, h.tape, h.output, h.size, fun k hk _ => h.block k hk⟩
theorem StAt.later {w w1 : World} {c B : Nat} {gv : Nat → Value} {s : St} {sv : Value} (h : StAt w c gv s sv) (hb : Below B w w1) (hc : c < B) : StAt w1 c gv s sv := BlkAt.later h hb hc
theorem StAt.lt {w : World} {c : Nat} {gv : Nat → Value} {s : St} {sv : Value} (h : StAt w c gv s sv) : c < w.heap.size := BlkAt.lt h
theorem StAt.alloc {w : World} {c : Nat} {gv : Nat → Value} {s : St} {sv : Value} (h : StAt w c gv s sv) (o : Obj) : StAt (w.alloc o) c gv s sv :=
  h.later (B := w.heap.size) ((Below.refl _ _).alloc (Nat.le_refl _) _) h.lt

def inclTo (s : St) (n : Nat) (T : Nat → Bool) (k : Nat) : St := { s with reach := upd s.reach n (fun j => s.reach n j || (decide (j < k) && T j)) }
theorem inclTo_zero (s : St) (n : Nat) (T : Nat → Bool) : inclTo s n T 0 = s := by
  unfold inclTo
  have : upd s.reach n (fun j => s.reach n j || (decide (j < 0) && T j)) = s.reach := by
    funext i j
    unfold upd
    split
    · rename_i e; subst e; simp
    · rfl
  rw [this]
theorem inclTo_hit (s : St) (n : Nat) (T : Nat → Bool) (k : Nat) (h : T k = true) : ({ inclTo s n T k with reach := upd (inclTo s n T k).reach n (upd ((inclTo s n T k).reach n) k true) } : St) = inclTo s n T (k + 1) := by
  unfold inclTo
  simp only [upd_same]
  congr 1
  funext i j
  unfold upd
  by_cases e : i = n
  · simp only [e, if_true]
    by_cases e2 : j = k
    · subst e2; simp [h]
    · have : decide (j < k + 1) = decide (j < k) := by rw [Bool.eq_iff_iff]; simp; omega
      simp [e2, this]
  · simp [e]
theorem inclTo_miss (s : St) (n : Nat) (T : Nat → Bool) (k : Nat) (h : T k = false) : inclTo s n T (k + 1) = inclTo s n T k := by
  unfold inclTo
  congr 2
  funext j
  by_cases e2 : j = k
  · subst e2; simp [h]
  · have : decide (j < k + 1) = decide (j < k) := by rw [Bool.eq_iff_iff]; simp; omega
    rw [this]
theorem StAt.same {w : World} {c : Nat} {gv : Nat → Value} {s s' : St} {sv : Value} (h : StAt w c gv s sv) (h1 : s.met = s'.met) (h2 : ∀ i, i < 32 → s.turn i = s'.turn i) (h3 : ∀ i, i < 32 → s.back i = s'.back i) (h4 : ∀ i, i < 32 → s.opn i = s'.opn i)
    (h5 : ∀ i j, i < 32 → j < 32 → s.reach i j = s'.reach i j) : StAt w c gv s' sv := by
  refine BlkAt.congr h fun i hi => ?_
  unfold sCell
  repeat' split
  · rfl
  · rw [h1]
  · rw [h2 _ (by omega)]
  · rw [h3 _ (by omega)]
  · rfl
  · rw [h4 _ (by omega)]
  · rw [h5 _ _ (by omega) (by omega)]

set_option maxRecDepth 100000 in
set_option maxHeartbeats 400000 in
theorem incl_any (c : Nat) (gv : Nat → Value) (s : St) (sv : Value) (n : Nat) (hn : n < 32) (T : Nat → Bool) (w : World) (hs : StAt w c gv s sv) :
    Calls Try.prog 129 #[.pointer (some ⟨c, 162 + n * 32, none⟩), .agg (bools 32 T)] w fun e w' => e = .returned (.tuple #[]) ∧ StAt w' c gv { s with reach := upd s.reach n (fun j => s.reach n j || T j) } sv ∧ w.grownBy w' (some c) := by
  have hlt := hs.lt
  go_enter Try.func129, Try.ntmps129
  go_wp2_with (refine wpList_load_row rfl 22 _ rfl w.heap.size rfl 22 (bools 32 T) (0, 0) _ (heap_new _ _) Try.underlying22 rfl (by rw [bools_size]; exact Try.infoSet) ?_)
  have hg0 : w.grownBy (w.alloc (.cells (bools 32 T) 22)) (some c) := grown_alloc (World.grownBy.refl _ _) _
  have hs0 := hs.alloc (.cells (bools 32 T) 22)
  rw [← inclTo_zero s n T] at hs0
  clear hs
  go_loopw [7] (fun i wr => ∃ k : Nat, k ≤ 32 ∧ i = .int .i64 k ∧ StAt wr c gv (inclTo s n T k) sv ∧ w.grownBy wr (some c)) (fun i _ => 32 - (intOf i).toNat)
  case atStart => exact ⟨0, Nat.zero_le _, rfl, hs0, hg0⟩
  case round =>
    obtain ⟨k, hk, rfl, hS, hG⟩ := hrel
    clear hs0 hg0
    by_cases hlt : k < 32
    · have hix := fun wx => run_index_bools Try.underlying22 Try.underlying4 Try.infoBool T hlt wx
      cases tk : T k
      · rw [tk] at hix
        have HM : Hid (inclTo s n T (k + 1) = inclTo s n T k) := inclTo_miss s n T k tk
        go_wp2
        go_roundw
        case rel => exact ⟨k + 1, by omega, by go_num, by rw [HM.out]; exact hS, hG⟩
        case measure => simp [intOf]; omega
      · rw [tk] at hix
        have c0 : wr.cell? ⟨c, 162 + n * 32 + k, none⟩ = some (.bool ((inclTo s n T k).reach n k)) := by rw [BlkAt.cell hS (by omega), sCell_reach _ _ _ hlt]
        have f0 : wr.frozen? ⟨c, 162 + n * 32 + k, none⟩ = false := BlkAt.frozen hS _
        have HS : Hid (StAt wr c gv (inclTo s n T k) sv) := hS
        have HM : Hid (_ = inclTo s n T (k + 1)) := inclTo_hit s n T k tk
        clear hS
        go_wp2
        go_roundw
        case rel => exact ⟨k + 1, by omega, by go_num, by rw [← HM.out]; exact HS.out.putReach hlt true, grown_put_same hG _ _⟩
        case measure => simp [intOf]; omega
    · go_wp2
      go_end0
      obtain rfl : k = 32 := by omega
      refine ⟨rfl, hS.same rfl (fun _ _ => rfl) (fun _ _ => rfl) (fun _ _ => rfl) (fun i j _ hj => ?_), hG⟩
      unfold inclTo upd
      by_cases e : i = n
      · simp [e, hj]
      · simp [e]

set_option maxRecDepth 100000 in
set_option maxHeartbeats 400000 in
theorem index_any (a : Option Addr) (cap : Nat) (zs : List Int) (n : Int) (i : Nat) (w : World) (hl : zs.length ≤ maxLen) (hz : IntsAt w.heap.size w a zs) (hi : i < zs.length) (hn : zs.getD i 0 = n) (hb : ∀ j, j < i → zs.getD j 0 ≠ n) :
    Calls Try.prog 140 #[.slice a zs.length cap, .int .i64 n] w fun e w' => e = .returned (.int .i64 i) ∧ w' = w := by
  unfold maxLen at hl
  rcases hz with rfl | ⟨b, off, rfl, _, hc⟩
  · simp at hi
  · have h64 : (zs.length : Int) ≤ 9223372036854775807 := by omega
    go_enter Try.func140, Try.ntmps140
    go_wp2
    go_loop [8] (fun v => ∃ k : Nat, k ≤ i ∧ v = .int .i64 k) (fun v => zs.length - (intOf v).toNat)
    case atStart => exact ⟨0, Nat.zero_le _, rfl⟩
    case round =>
      obtain ⟨k, hk, rfl⟩ := hrel
      have hlt : k < zs.length := by omega
      obtain ⟨q, Hq⟩ : ∃ q : Int, Hid (zs.getD k 0 = q) := ⟨_, rfl⟩
      have e0 : w.cell? ⟨b, off + k, none⟩ = some (.int .i64 q) := by rw [← Hq.out]; exact hc k hlt
      clear hc
      by_cases e : k = i
      · subst e
        have hq : (n == q) = true := by rw [← Hq.out, hn]; simp
        go_wp2
        go_ret
        exact ⟨rfl, rfl⟩
      · have hq : (n == q) = false := by
          have := hb k (by omega)
          rw [Hq.out] at this
          exact beq_eq_false_iff_ne.2 (fun h => this h.symm)
        go_wp2
        go_round
        case rel => exact ⟨k + 1, by omega, by go_num⟩
        case measure => simp [intOf]; omega

end Go.Proofs.Ytkoefoccbjhoiab
