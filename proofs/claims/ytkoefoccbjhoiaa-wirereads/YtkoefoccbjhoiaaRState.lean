/-
  The state of the reading of a frame: where the reader, the frame under way and its lists lie.
-/
import Derived.Test.YtkoefoccbjhoiaaReader
import Derived.Test.YtkoefoccbjhoiaaOpen
import Derived.Deep.AppendLies
set_option linter.unusedVariables false
set_option linter.unusedSimpArgs false
namespace Go.Proofs.Ytkoefoccbjhoiaa
open Go.RowKit

theorem Try.infoOp : (Try.prog.info? 28).map (fun i => (i.zero, i.size, i.bytes)) = some (some (.agg #[.int .i64 0, .int .i64 0, .int .i64 0]), 3, 24) := by kernel_rfl

/-- A frame's seven cells at block b. -/
def FAt (w : World) (b : Nat) (a0 a1 a2 : Int) (v3 v4 v5 v6 : Value) : Prop := ∃ t, w.heap[b]? = some (.cells #[.int .i64 a0, .int .i64 a1, .int .i64 a2, v3, v4, v5, v6] t (0, 0))

section
variable {w w' : World} {b : Nat} {a0 a1 a2 : Int} {v3 v4 v5 v6 : Value}
theorem FAt.cell (h : FAt w b a0 a1 a2 v3 v4 v5 v6) :
    w.cell? ⟨b, 0, none⟩ = some (.int .i64 a0) ∧ w.cell? ⟨b, 1, none⟩ = some (.int .i64 a1) ∧ w.cell? ⟨b, 2, none⟩ = some (.int .i64 a2) ∧
    w.cell? ⟨b, 3, none⟩ = some v3 ∧ w.cell? ⟨b, 4, none⟩ = some v4 ∧ w.cell? ⟨b, 5, none⟩ = some v5 ∧ w.cell? ⟨b, 6, none⟩ = some v6 := by
  obtain ⟨t, h⟩ := h
  refine ⟨?_, ?_, ?_, ?_, ?_, ?_, ?_⟩ <;> (rw [cell_of_row w b _ _ t _ h]; rfl)
theorem FAt.frozen (h : FAt w b a0 a1 a2 v3 v4 v5 v6) (i : Nat) : w.frozen? ⟨b, i, none⟩ = false := by
  obtain ⟨t, h⟩ := h
  exact frozen_of_row w b i _ t h
theorem FAt.block (h : FAt w b a0 a1 a2 v3 v4 v5 v6) (e : w'.heap[b]? = w.heap[b]?) : FAt w' b a0 a1 a2 v3 v4 v5 v6 := by
  obtain ⟨t, h⟩ := h
  exact ⟨t, by rw [e]; exact h⟩
theorem FAt.lt (h : FAt w b a0 a1 a2 v3 v4 v5 v6) : b < w.heap.size := by
  obtain ⟨t, h⟩ := h
  exact (Array.getElem?_eq_some_iff.1 h).1
theorem FAt.put3 (h : FAt w b a0 a1 a2 v3 v4 v5 v6) (v : Value) : FAt (w.setCell ⟨b, 3, none⟩ v) b a0 a1 a2 v v4 v5 v6 := by
  obtain ⟨t, h⟩ := h
  exact ⟨t, by rw [heap_setCell_same w b 3 _ t _ h]; rfl⟩
theorem FAt.put4 (h : FAt w b a0 a1 a2 v3 v4 v5 v6) (v : Value) : FAt (w.setCell ⟨b, 4, none⟩ v) b a0 a1 a2 v3 v v5 v6 := by
  obtain ⟨t, h⟩ := h
  exact ⟨t, by rw [heap_setCell_same w b 4 _ t _ h]; rfl⟩
theorem FAt.put5 (h : FAt w b a0 a1 a2 v3 v4 v5 v6) (v : Value) : FAt (w.setCell ⟨b, 5, none⟩ v) b a0 a1 a2 v3 v4 v v6 := by
  obtain ⟨t, h⟩ := h
  exact ⟨t, by rw [heap_setCell_same w b 5 _ t _ h]; rfl⟩
theorem FAt.put6 (h : FAt w b a0 a1 a2 v3 v4 v5 v6) (v : Value) : FAt (w.setCell ⟨b, 6, none⟩ v) b a0 a1 a2 v3 v4 v5 v := by
  obtain ⟨t, h⟩ := h
  exact ⟨t, by rw [heap_setCell_same w b 6 _ t _ h]; rfl⟩
end

theorem RdAt.block {w w' : World} {c : Nat} {r : Rd} (h : RdAt w c r) (e : w'.heap[c]? = w.heap[c]?) : RdAt w' c r := by
  obtain ⟨t, h⟩ := h
  exact ⟨t, by rw [e]; exact h⟩
theorem RdAt.lt {w : World} {c : Nat} {r : Rd} (h : RdAt w c r) : c < w.heap.size := by
  obtain ⟨t, h⟩ := h
  exact (Array.getElem?_eq_some_iff.1 h).1
theorem RdAt.alloc {w : World} {c : Nat} {r : Rd} (h : RdAt w c r) (o : Obj) : RdAt (w.alloc o) c r := h.block (Below.heap_alloc _ _ _ h.lt)

/-- but for block c, what was there is as it was -/
theorem grownR_trans {w w1 w2 : World} {c : Nat} (h : w.grownBy w1 (some c)) (k : w1.grownBy w2 (some c)) : w.grownBy w2 (some c) :=
  ⟨k.os.trans h.os, k.tape.trans h.tape, k.output.trans h.output, Nat.le_trans h.size k.size, fun i hi hn => (k.block i (Nat.lt_of_lt_of_le hi h.size) hn).trans (h.block i hi hn)⟩
theorem grown_far {w w1 w2 : World} {c : Nat} {row : Option Nat} (h : w.grownBy w1 (some c)) (k : w1.grownBy w2 row) (hr : ∀ g, row = some g → w.heap.size ≤ g) : w.grownBy w2 (some c) :=
  ⟨k.os.trans h.os, k.tape.trans h.tape, k.output.trans h.output, Nat.le_trans h.size k.size, fun i hi hn => (k.block i (Nat.lt_of_lt_of_le hi h.size) (fun e => by have := hr i e.symm; omega)).trans (h.block i hi hn)⟩
theorem grown_put {w w1 : World} {c b : Nat} (h : w.grownBy w1 (some c)) (hb : w.heap.size ≤ b) (o : Nat) (v : Value) : w.grownBy (w1.setCell ⟨b, o, none⟩ v) (some c) :=
  ⟨h.os, h.tape, h.output, by simp [World.setCell]; exact h.size, fun i hi hn => (Below.heap_setCell _ _ _ _ (by simp; omega)).trans (h.block i hi hn)⟩

/-- The state of the reading: the reader at c, the frame under way at B3, the result's cells at B2; else nothing old has turned. -/
structure Fr (w : World) (c B2 B3 : Nat) (a0 a1 a2 : Int) (wr : World) (rk : Rd) (v3 v4 v5 v6 : Value) : Prop where
  rd : RdAt wr c rk
  f : FAt wr B3 a0 a1 a2 v3 v4 v5 v6
  z : FAt wr B2 0 0 0 (.slice none 0 0) (.slice none 0 0) (.slice none 0 0) (.slice none 0 0)
  g : w.grownBy wr (some c)
  l1 : c < w.heap.size
  l2 : w.heap.size ≤ B2
  l3 : B2 < B3

section
variable {w wr w1 : World} {c B2 B3 : Nat} {a0 a1 a2 : Int} {rk rj : Rd} {v3 v4 v5 v6 : Value}
theorem Fr.small (h : Fr w c B2 B3 a0 a1 a2 wr rk v3 v4 v5 v6) (k : RdAt w1 c rj) (hb : Beside c wr w1) : Fr w c B2 B3 a0 a1 a2 w1 rj v3 v4 v5 v6 :=
  have h1 := h.l1
  have h2 := h.l2
  have h3 := h.l3
  ⟨k, h.f.block (hb.block _ (by omega)), h.z.block (hb.block _ (by omega)), grownR_trans h.g hb.grown, h1, h2, h3⟩
theorem Fr.grown (h : Fr w c B2 B3 a0 a1 a2 wr rk v3 v4 v5 v6) {row : Option Nat} (hg : wr.grownBy w1 row) (hr : ∀ g, row = some g → B3 < g) : Fr w c B2 B3 a0 a1 a2 w1 rk v3 v4 v5 v6 :=
  have h1 := h.l1
  have h2 := h.l2
  have h3 := h.l3
  have n : ∀ k, k ≤ B3 → some k ≠ row := fun k hk e => by have := hr k e.symm; omega
  ⟨h.rd.block (hg.block _ h.rd.lt (n _ (by omega))), h.f.block (hg.block _ h.f.lt (n _ (by omega))), h.z.block (hg.block _ h.z.lt (n _ (by omega))), grown_far h.g hg (fun g e => by have := hr g e; omega), h1, h2, h3⟩
theorem Fr.alloc (h : Fr w c B2 B3 a0 a1 a2 wr rk v3 v4 v5 v6) (o : Obj) : Fr w c B2 B3 a0 a1 a2 (wr.alloc o) rk v3 v4 v5 v6 :=
  h.grown (World.grownBy_alloc wr o none) (by simp)
theorem Fr.drew (h : Fr w c B2 B3 a0 a1 a2 wr rk v3 v4 v5 v6) : Fr w c B2 B3 a0 a1 a2 wr.drew rk v3 v4 v5 v6 :=
  ⟨h.rd, h.f, h.z, ⟨h.g.os, h.g.tape, h.g.output, h.g.size, h.g.block⟩, h.l1, h.l2, h.l3⟩
theorem Fr.put3 (h : Fr w c B2 B3 a0 a1 a2 wr rk v3 v4 v5 v6) (v : Value) : Fr w c B2 B3 a0 a1 a2 (wr.setCell ⟨B3, 3, none⟩ v) rk v v4 v5 v6 :=
  have h1 := h.l1
  have h2 := h.l2
  have h3 := h.l3
  ⟨h.rd.block (Below.heap_setCell _ _ _ _ (by simp; omega)), h.f.put3 v, h.z.block (Below.heap_setCell _ _ _ _ (by simp; omega)), grown_put h.g (by omega) _ _, h1, h2, h3⟩
theorem Fr.put4 (h : Fr w c B2 B3 a0 a1 a2 wr rk v3 v4 v5 v6) (v : Value) : Fr w c B2 B3 a0 a1 a2 (wr.setCell ⟨B3, 4, none⟩ v) rk v3 v v5 v6 :=
  have h1 := h.l1
  have h2 := h.l2
  have h3 := h.l3
  ⟨h.rd.block (Below.heap_setCell _ _ _ _ (by simp; omega)), h.f.put4 v, h.z.block (Below.heap_setCell _ _ _ _ (by simp; omega)), grown_put h.g (by omega) _ _, h1, h2, h3⟩
theorem Fr.put5 (h : Fr w c B2 B3 a0 a1 a2 wr rk v3 v4 v5 v6) (v : Value) : Fr w c B2 B3 a0 a1 a2 (wr.setCell ⟨B3, 5, none⟩ v) rk v3 v4 v v6 :=
  have h1 := h.l1
  have h2 := h.l2
  have h3 := h.l3
  ⟨h.rd.block (Below.heap_setCell _ _ _ _ (by simp; omega)), h.f.put5 v, h.z.block (Below.heap_setCell _ _ _ _ (by simp; omega)), grown_put h.g (by omega) _ _, h1, h2, h3⟩
theorem Fr.put6 (h : Fr w c B2 B3 a0 a1 a2 wr rk v3 v4 v5 v6) (v : Value) : Fr w c B2 B3 a0 a1 a2 (wr.setCell ⟨B3, 6, none⟩ v) rk v3 v4 v5 v :=
  have h1 := h.l1
  have h2 := h.l2
  have h3 := h.l3
  ⟨h.rd.block (Below.heap_setCell _ _ _ _ (by simp; omega)), h.f.put6 v, h.z.block (Below.heap_setCell _ _ _ _ (by simp; omega)), grown_put h.g (by omega) _ _, h1, h2, h3⟩
theorem Fr.start (hr : RdAt w1 c rk) (hb : Beside c (w.alloc (.cells #[.int .i64 0, .int .i64 0, .int .i64 0, .slice none 0 0, .slice none 0 0, .slice none 0 0, .slice none 0 0] 39)) w1) (hc : c < w.heap.size) (a0 a1 a2 : Int) :
    Fr w c w.heap.size w1.heap.size a0 a1 a2 (w1.alloc (.cells #[.int .i64 a0, .int .i64 a1, .int .i64 a2, .slice none 0 0, .slice none 0 0, .slice none 0 0, .slice none 0 0] 39)) rk (.slice none 0 0) (.slice none 0 0) (.slice none 0 0) (.slice none 0 0) := by
  have hs : w1.heap.size = w.heap.size + 1 := by have := hb.size; simpa using this
  refine ⟨hr.alloc _, ⟨_, heap_new _ _⟩, ⟨39, ?_⟩, ?_, hc, Nat.le_refl _, by omega⟩
  · rw [Below.heap_alloc _ _ _ (by omega), hb.block _ (by omega), heap_new]
  · exact grownR_trans (World.grownBy_alloc w _ _) (grownR_trans hb.grown (World.grownBy_alloc _ _ _))
end

def opCells (o : OpL) : List Value := [.int .i64 o.1, .int .i64 o.2.1, .int .i64 o.2.2]
def opsCells (zs : List OpL) : List Value := zs.flatMap opCells
theorem opsCells_snoc (zs : List OpL) (o : OpL) : opsCells (zs ++ [o]) = opsCells zs ++ opCells o := by simp [opsCells]

theorem own_small {w w1 : World} {c base : Nat} {e : TypeId} {size : Nat} {v : Value} {n : Nat} {xs : List Value} (h : w.ownsRow base e size v n xs) (hb : Beside c w w1) (hc : c < base) : w1.ownsRow base e size v n xs :=
  h.kept hb.grown (by
    cases hv : v.ownBlock with
    | none => exact Or.inl rfl
    | some k => right; intro e; have := (h.lt k hv).1; simp at e; omega)

theorem alloc_size (w : World) (o : Obj) : (w.alloc o).heap.size = w.heap.size + 1 := by simp
theorem one_op (o : OpL) : ∀ u ∈ opCells o, u.oneCell' = true := by simp [opCells, Value.oneCell']
theorem len_ok {k n : Nat} (h : k < n) (h' : n < 256) : k + 1 ≤ maxLen := by unfold maxLen; omega
theorem len24_ok {k n : Nat} (h : k < n) (h' : n < 256) : (k + 1) * 24 ≤ 140737488355328 := by omega
theorem len8_ok {k n : Nat} (h : k < n) (h' : n < 256) : (k + 1) * 8 ≤ 140737488355328 := by omega
theorem lt_ok {w : World} {b : Nat} {o : Obj} (h : b < w.heap.size) : b + 1 ≤ (w.alloc o).heap.size := by rw [alloc_size]; omega
theorem Fr.after {w x4 x5 : World} {c B2 B3 : Nat} {a0 a1 a2 : Int} {rk : Rd} {v3 v4 v5 v6 v : Value} {o : Obj} {e : TypeId} {size n : Nat} {xs : List Value} (F : Fr w c B2 B3 a0 a1 a2 x4 rk v3 v4 v5 v6)
    (hown : x4.ownsRow (B3 + 1) e size v n xs) (hg : (x4.alloc o).grownBy x5 v.ownBlock) : Fr w c B2 B3 a0 a1 a2 x5 rk v3 v4 v5 v6 :=
  (F.alloc o).grown hg (fun g h => by have := (hown.lt g h).1; omega)

theorem le_small {w w1 : World} {b c : Nat} (h : b ≤ w.heap.size) (hb : Beside c w.drew w1) : b ≤ w1.heap.size := by rw [hb.size]; exact h
theorem le_alloc {w : World} {b : Nat} {o : Obj} (h : b ≤ w.heap.size) : b ≤ (w.alloc o).heap.size := by rw [alloc_size]; omega
theorem le_grown {w w1 : World} {b : Nat} {o : Obj} {row : Option Nat} (h : b ≤ w.heap.size) (hg : (w.alloc o).grownBy w1 row) : b ≤ w1.heap.size := by have := hg.size; rw [alloc_size] at this; omega
theorem le_put {w : World} {b : Nat} {a : Addr} {v : Value} (h : b ≤ w.heap.size) : b ≤ (w.setCell a v).heap.size := by simpa [World.setCell] using h
theorem own_far {x y : World} {o : Obj} {b base : Nat} {e e' : TypeId} {size size' : Nat} {v v' : Value} {n n' : Nat} {xs xs' : List Value} (h : x.ownsRow b e size v n xs) (hl : ∀ k, v.ownBlock = some k → k < base)
    (h' : x.ownsRow base e' size' v' n' xs') (hg : (x.alloc o).grownBy y v'.ownBlock) : y.ownsRow b e size v n xs :=
  (h.alloc o).kept hg (by
    cases hv : v.ownBlock with
    | none => exact Or.inl rfl
    | some k => right; intro e; have h1 := hl k hv; have h2 := (h'.lt k e.symm).1; omega)
theorem own_apart {x y : World} {o : Obj} {b : Nat} {e : TypeId} {size : Nat} {v v' : Value} {n : Nat} {xs : List Value} (h : x.ownsRow b e size v n xs) (ha : ∀ k, v'.ownBlock = some k → v.ownBlock ≠ some k)
    (hg : (x.alloc o).grownBy y v'.ownBlock) : y.ownsRow b e size v n xs :=
  (h.alloc o).kept hg (by
    cases hv : v.ownBlock with
    | none => exact Or.inl rfl
    | some k => right; intro e; exact ha k e.symm hv)
theorem apart_new {x : World} {b g : Nat} {e : TypeId} {size : Nat} {v v' : Value} {n : Nat} {xs : List Value} (ha : ∀ k, v'.ownBlock = some k → v.ownBlock ≠ some k) (h : x.ownsRow b e size v n xs)
    (hat : v'.ownBlock = some g ∨ g = x.heap.size + 1) : v.ownBlock ≠ some g := by
  rcases hat with h1 | rfl
  · exact ha g h1
  · intro e
    have := (h.lt _ e).2
    omega
theorem apart_flip {v : Value} {g n cap : Nat} (h : v.ownBlock ≠ some g) : ∀ k, v.ownBlock = some k → (Value.slice (some ⟨g, 0, none⟩) n cap).ownBlock ≠ some k := by
  intro k hk e
  simp [Value.ownBlock] at e
  exact h (by rw [hk, e])
theorem apart_both {x : World} {b g g' n n' cap cap' : Nat} {e : TypeId} {size : Nat} {v : Value} {m : Nat} {xs : List Value} (h : v.ownBlock ≠ some g) (ho : x.ownsRow b e size (.slice (some ⟨g, 0, none⟩) n cap) m xs) (hat : v.ownBlock = some g' ∨ g' = x.heap.size + 1) :
    ∀ k, (Value.slice (some ⟨g, 0, none⟩) n cap).ownBlock = some k → (Value.slice (some ⟨g', 0, none⟩) n' cap').ownBlock ≠ some k := by
  intro k hk e
  have hg : g < x.heap.size := (ho.lt g rfl).2
  simp [Value.ownBlock] at hk e
  rcases hat with h1 | h1
  · exact h (by rw [h1]; congr 1; omega)
  · omega
theorem own_put {x : World} {b c o : Nat} {e : TypeId} {size : Nat} {v u : Value} {n : Nat} {xs : List Value} (h : x.ownsRow b e size v n xs) (hc : c < b) : (x.setCell ⟨c, o, none⟩ u).ownsRow b e size v n xs :=
  ownsRow_setCell_below h hc u
theorem ops_end {r : List OpL × Rd} {n k : Nat} {zs : List OpL} {rk : Rd} (h : ¬ k < n) (HR : Hid (r = (zs ++ (Rd.ops (n - k) rk).1, (Rd.ops (n - k) rk).2))) : r = (zs, rk) := by
  have : n - k = 0 := by omega
  unfold Hid at HR
  rw [HR, this]
  simp [Rd.ops]
theorem nums_end {r : List Int × Rd} {n k : Nat} {zs : List Int} {rk : Rd} (h : ¬ k < n) (HR : Hid (r = (zs ++ (Rd.nums (n - k) rk).1, (Rd.nums (n - k) rk).2))) : r = (zs, rk) := by
  have : n - k = 0 := by omega
  unfold Hid at HR
  rw [HR, this]
  simp [Rd.nums]
theorem told_end {r : List Int × List Int × Rd} {n k : Nat} {xs ys : List Int} {rk : Rd} (h : ¬ k < n) (HR : Hid (r = (xs ++ (Rd.told (n - k) rk).1, ys ++ (Rd.told (n - k) rk).2.1, (Rd.told (n - k) rk).2.2))) : r = (xs, ys, rk) := by
  have : n - k = 0 := by omega
  unfold Hid at HR
  rw [HR, this]
  simp [Rd.told]
theorem d1_start {r : Rd} {zs : List OpL} {rk : Rd} (h : r.o1 = (zs, rk)) : r.d1 = Rd.nums rk.one.toNat rk.next := by unfold Rd.d1; rw [h]
theorem t1_start {r : Rd} {zs : List Int} {rk : Rd} (h : r.d1 = (zs, rk)) : r.t1 = Rd.told rk.one.toNat rk.next := by unfold Rd.t1; rw [h]
theorem ops_go {r : List OpL × Rd} {n k : Nat} {zs : List OpL} {rk : Rd} (h : k < n) (HR : Hid (r = (zs ++ (Rd.ops (n - k) rk).1, (Rd.ops (n - k) rk).2))) :
    Hid (r = (zs ++ [(rk.one, rk.next.one, rk.next.next.wide)] ++ (Rd.ops (n - (k + 1)) rk.next.next.next6).1, (Rd.ops (n - (k + 1)) rk.next.next.next6).2)) := by
  obtain ⟨j, hj⟩ : ∃ j, n - k = j + 1 := ⟨n - k - 1, by omega⟩
  have hj' : n - (k + 1) = j := by omega
  unfold Hid at *
  rw [HR, hj', hj]
  simp [Rd.ops]
theorem nums_go {r : List Int × Rd} {n k : Nat} {zs : List Int} {rk : Rd} (h : k < n) (HR : Hid (r = (zs ++ (Rd.nums (n - k) rk).1, (Rd.nums (n - k) rk).2))) :
    Hid (r = (zs ++ [rk.one] ++ (Rd.nums (n - (k + 1)) rk.next).1, (Rd.nums (n - (k + 1)) rk.next).2)) := by
  obtain ⟨j, hj⟩ : ∃ j, n - k = j + 1 := ⟨n - k - 1, by omega⟩
  have hj' : n - (k + 1) = j := by omega
  unfold Hid at *
  rw [HR, hj', hj]
  simp [Rd.nums]
theorem told_go {r : List Int × List Int × Rd} {n k : Nat} {xs ys : List Int} {rk : Rd} (h : k < n) (HR : Hid (r = (xs ++ (Rd.told (n - k) rk).1, ys ++ (Rd.told (n - k) rk).2.1, (Rd.told (n - k) rk).2.2))) :
    Hid (r = (xs ++ [rk.one] ++ (Rd.told (n - (k + 1)) rk.next.next6).1, ys ++ [rk.next.wide] ++ (Rd.told (n - (k + 1)) rk.next.next6).2.1, (Rd.told (n - (k + 1)) rk.next.next6).2.2)) := by
  obtain ⟨j, hj⟩ : ∃ j, n - k = j + 1 := ⟨n - k - 1, by omega⟩
  have hj' : n - (k + 1) = j := by omega
  unfold Hid at *
  rw [HR, hj', hj]
  simp [Rd.told]

def SlOps (w : World) (a : Option Addr) (cap : Nat) (zs : List OpL) : Prop := OpsAt w a zs ∧ zs.length ≤ maxLen ∧ zs.length ≤ cap ∧ (a = none → zs.length = 0 ∧ cap = 0)
/-- A value that is a frame. -/
def FrameV (w : World) (v : Value) (f : FrameL) : Prop := ∃ a3 c3 a4 c4 a5 c5 a6 c6,
  v = .agg #[.int .i64 f.kind, .int .i64 f.node, .int .i64 f.id, .slice a3 f.ops.length c3, .slice a4 f.deps.length c4, .slice a5 f.ats.length c5, .slice a6 f.vals.length c6] ∧
  SlOps w a3 c3 f.ops ∧ SlInts w a4 c4 f.deps ∧ SlInts w a5 c5 f.ats ∧ SlInts w a6 c6 f.vals
theorem SlOps.later {w w' : World} {a : Option Addr} {cap : Nat} {zs : List OpL} (h : SlOps w a cap zs) (hb : Below w.heap.size w w') : SlOps w' a cap zs :=
  ⟨h.1.later hb, h.2⟩
theorem FrameV.later {w w' : World} {v : Value} {f : FrameL} (h : FrameV w v f) (hb : Below w.heap.size w w') : FrameV w' v f := by
  obtain ⟨a3, c3, a4, c4, a5, c5, a6, c6, e, h3, h4, h5, h6⟩ := h
  exact ⟨a3, c3, a4, c4, a5, c5, a6, c6, e, h3.later hb, h4.later hb, h5.later hb, h6.later hb⟩

theorem opsCells_len (zs : List OpL) : (opsCells zs).length = zs.length * 3 := by
  induction zs with
  | nil => rfl
  | cons o zs ih => simp [opsCells, opCells] at *; omega
theorem opsCells_get : ∀ (zs : List OpL) (i : Nat), i < zs.length → (opsCells zs)[i * 3]? = some (.int .i64 (zs.getD i (0, 0, 0)).1) ∧ (opsCells zs)[i * 3 + 1]? = some (.int .i64 (zs.getD i (0, 0, 0)).2.1) ∧ (opsCells zs)[i * 3 + 2]? = some (.int .i64 (zs.getD i (0, 0, 0)).2.2)
  | [], i, h => by simp at h
  | o :: zs, 0, _ => by simp [opsCells, opCells]
  | o :: zs, i + 1, h => by
    have ih := opsCells_get zs i (by simpa using h)
    have e : opsCells (o :: zs) = .int .i64 o.1 :: .int .i64 o.2.1 :: .int .i64 o.2.2 :: opsCells zs := by simp [opsCells, opCells]
    have n0 : (i + 1) * 3 = i * 3 + 1 + 1 + 1 := by omega
    have n1 : (i + 1) * 3 + 1 = (i * 3 + 1) + 1 + 1 + 1 := by omega
    have n2 : (i + 1) * 3 + 2 = (i * 3 + 2) + 1 + 1 + 1 := by omega
    rw [e, n1, n2, n0]
    simpa using ih
theorem SlOps.of_owns {w : World} {b : Nat} {e : TypeId} {a : Option Addr} {cap : Nat} {zs : List OpL} (h : w.ownsRow b e 3 (.slice a zs.length cap) zs.length (opsCells zs)) : SlOps w a cap zs := by
  obtain ⟨a2, c2, h1, h2, h3⟩ := own_form h
  simp at h1
  obtain ⟨rfl, rfl⟩ := h1
  rcases h.2 with ⟨_, h0⟩ | ⟨g, c, cur, hs, hg, hh, h5, h6, h7, h8⟩
  · exact ⟨Or.inl (List.eq_nil_of_length_eq_zero h0), by rw [h0]; exact Nat.zero_le _, h2, h3⟩
  · simp at hs
    obtain ⟨rfl, rfl⟩ := hs
    refine ⟨Or.inr ⟨g, 0, rfl, (Array.getElem?_eq_some_iff.1 hh).1, fun i hi => ?_⟩, by omega, h2, h3⟩
    have key : ∀ j, j < zs.length * 3 → w.cell? ⟨g, 0 + j, none⟩ = (opsCells zs)[j]? := fun j hj => by
      rw [cell_of_row w g (0 + j) cur e _ hh, ← h8, List.getElem?_take_of_lt hj, Nat.zero_add]
      simp
    have := opsCells_get zs i hi
    rw [← key _ (by omega), ← key _ (by omega), ← key _ (by omega)] at this
    simpa [Nat.add_assoc] using this

def put7 (w : World) (b : Nat) (x0 x1 x2 x3 x4 x5 x6 : Value) : World :=
  ((((((w.setCell ⟨b, 0, none⟩ x0).setCell ⟨b, 1, none⟩ x1).setCell ⟨b, 2, none⟩ x2).setCell ⟨b, 3, none⟩ x3).setCell ⟨b, 4, none⟩ x4).setCell ⟨b, 5, none⟩ x5).setCell ⟨b, 6, none⟩ x6
theorem put7_own {w : World} {b : Nat} {x0 x1 x2 x3 x4 x5 x6 : Value} {base : Nat} {e : TypeId} {size : Nat} {v : Value} {n : Nat} {xs : List Value} (h : w.ownsRow base e size v n xs) (hb : b < base) : (put7 w b x0 x1 x2 x3 x4 x5 x6).ownsRow base e size v n xs :=
  own_put (own_put (own_put (own_put (own_put (own_put (own_put h hb) hb) hb) hb) hb) hb) hb
theorem put7_block {w : World} {b : Nat} {x0 x1 x2 x3 x4 x5 x6 : Value} {k : Nat} (h : k ≠ b) : (put7 w b x0 x1 x2 x3 x4 x5 x6).heap[k]? = w.heap[k]? := by
  unfold put7
  rw [Below.heap_setCell _ _ _ _ h, Below.heap_setCell _ _ _ _ h, Below.heap_setCell _ _ _ _ h, Below.heap_setCell _ _ _ _ h, Below.heap_setCell _ _ _ _ h, Below.heap_setCell _ _ _ _ h, Below.heap_setCell _ _ _ _ h]
theorem put7_grown {w w1 : World} {b c : Nat} {x0 x1 x2 x3 x4 x5 x6 : Value} (h : w.grownBy w1 (some c)) (hb : w.heap.size ≤ b) : w.grownBy (put7 w1 b x0 x1 x2 x3 x4 x5 x6) (some c) :=
  grown_put (grown_put (grown_put (grown_put (grown_put (grown_put (grown_put h hb _ _) hb _ _) hb _ _) hb _ _) hb _ _) hb _ _) hb _ _

/-- No slice of the value lies below block b. -/
def FarV (b : Nat) (v : Value) : Prop := ∀ (cs : Array Value), v = .agg cs → ∀ (i : Nat) (x : Addr) (n c : Nat), cs[i]? = some (Value.slice (some x) n c) → b ≤ x.block
theorem far_of {w : World} {base b : Nat} {e : TypeId} {size n m : Nat} {a : Option Addr} {cap : Nat} {xs : List Value} (h : w.ownsRow base e size (.slice a n cap) m xs) (hb : b ≤ base) {x : Addr} (hx : a = some x) : b ≤ x.block := by
  subst hx
  have := (h.lt x.block rfl).1
  omega

theorem frame_fin {w wr : World} {c B3 b4 b5 : Nat} {r rk rk2 rk3 : Rd} {v3 v4 v5 v6 : Option Addr} {c3 c4 c5 c6 : Nat} {zs : List OpL} {ds xs ys : List Int} {k3 : Nat} {e3 e4 e5 e6 : TypeId}
    (F : Fr w c w.heap.size B3 r.one r.next.one r.next.next.one wr rk3 (.slice v3 zs.length c3) (.slice v4 ds.length c4) (.slice v5 k3 c5) (.slice v6 k3 c6)) (h3 : wr.ownsRow (B3 + 1) e3 3 (.slice v3 zs.length c3) zs.length (opsCells zs))
    (h4 : wr.ownsRow b4 e4 1 (.slice v4 ds.length c4) ds.length (intCells ds)) (h5 : wr.ownsRow b5 e5 1 (.slice v5 k3 c5) k3 (intCells xs)) (h6 : wr.ownsRow b5 e6 1 (.slice v6 k3 c6) k3 (intCells ys))
    (l4 : w.heap.size < b4) (l5 : w.heap.size < b5) (lx : xs.length = k3) (ly : ys.length = k3) (E1 : r.o1 = (zs, rk)) (E3 : r.d1 = (ds, rk2)) (E5 : r.t1 = (xs, ys, rk3)) {x0 x1 x2 x3 x4 x5 x6 : Value} :
    FrameV (put7 wr w.heap.size x0 x1 x2 x3 x4 x5 x6) (.agg #[.int .i64 r.one, .int .i64 r.next.one, .int .i64 r.next.next.one, .slice v3 zs.length c3, .slice v4 ds.length c4, .slice v5 k3 c5, .slice v6 k3 c6]) r.frame ∧
      RdAt (put7 wr w.heap.size x0 x1 x2 x3 x4 x5 x6) c r.end_ ∧ w.grownBy (put7 wr w.heap.size x0 x1 x2 x3 x4 x5 x6) (some c) ∧
      FarV w.heap.size (.agg #[.int .i64 r.one, .int .i64 r.next.one, .int .i64 r.next.next.one, .slice v3 zs.length c3, .slice v4 ds.length c4, .slice v5 k3 c5, .slice v6 k3 c6]) := by
  have l1 := F.l1
  have l3 := F.l3
  subst lx
  refine ⟨?_, ?_, put7_grown F.g (Nat.le_refl _), ?_⟩
  rotate_left 2
  · intro cs hcs i x n cc hi
    cases hcs
    match i, hi with
    | 0, hi => simp at hi
    | 1, hi => simp at hi
    | 2, hi => simp at hi
    | 3, hi => simp at hi; exact far_of h3 (by omega) hi.1
    | 4, hi => simp at hi; exact far_of h4 (by omega) hi.1
    | 5, hi => simp at hi; exact far_of h5 (by omega) hi.1
    | 6, hi => simp at hi; exact far_of h6 (by omega) hi.1
    | n + 7, hi => simp at hi
  · unfold Rd.frame FrameV
    rw [E1, E3, E5]
    refine ⟨v3, c3, v4, c4, v5, c5, v6, c6, by simp [ly], SlOps.of_owns (put7_own h3 (by omega)), SlInts.of_owns (put7_own h4 l4), SlInts.of_owns (put7_own h5 l5), ?_⟩
    rw [← ly] at h6
    exact SlInts.of_owns (put7_own h6 l5)
  · unfold Rd.end_
    rw [E5]
    exact F.rd.block (put7_block (by omega))

end Go.Proofs.Ytkoefoccbjhoiaa
