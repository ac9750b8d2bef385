/-
  A node as it lies in memory: 201 cells (32 entries of six, the order, eight values), and the lists that they name.
-/
import Derived.Test.YtgdkjjmnoikhdabNodeT
import Derived.Test.YtgdkjjmnoikhdabGAhead
import Derived.Test.YtgdkjjmnoikhdabRState
namespace Go.Proofs.Ytgdkjjmnoikhdab
open Go.RowKit

/-- A list of ints in a block of which 'ok' holds: nothing, or its cells. -/
def IntsIn (ok : Nat → Prop) (w : World) (a : Option Addr) (zs : List Int) : Prop :=
  zs = [] ∨ ∃ b off, a = some ⟨b, off, none⟩ ∧ ok b ∧ ∀ i, i < zs.length → w.cell? ⟨b, off + i, none⟩ = some (.int .i64 (zs.getD i 0))
def OpsIn (ok : Nat → Prop) (w : World) (a : Option Addr) (zs : List OpL) : Prop :=
  zs = [] ∨ ∃ b off, a = some ⟨b, off, none⟩ ∧ ok b ∧ ∀ i, i < zs.length → w.cell? ⟨b, off + i * 3, none⟩ = some (.int .i64 (zs.getD i (0, 0, 0)).1) ∧
    w.cell? ⟨b, off + i * 3 + 1, none⟩ = some (.int .i64 (zs.getD i (0, 0, 0)).2.1) ∧ w.cell? ⟨b, off + i * 3 + 2, none⟩ = some (.int .i64 (zs.getD i (0, 0, 0)).2.2)

/-- Blocks of which 'ok' holds are as they were. -/
def SameOn (ok : Nat → Prop) (w w' : World) : Prop := ∀ k, k < w.heap.size → ok k → w'.heap[k]? = w.heap[k]?
theorem SameOn.cell {ok : Nat → Prop} {w w' : World} (h : SameOn ok w w') {p : Addr} {v : Value} (hc : w.cell? p = some v) (hk : ok p.block) : w'.cell? p = some v :=
  (World.cell?_of_block (h p.block (World.block_lt_of_cell? w p hc) hk)).trans hc
theorem SameOn.of_below {ok : Nat → Prop} {B : Nat} {w w' : World} (h : Below B w w') (hk : ∀ k, k < w.heap.size → ok k → k < B) : SameOn ok w w' := fun k h1 h2 => h.block k (hk k h1 h2)
theorem SameOn.of_size {ok : Nat → Prop} {w w' : World} (h : Below w.heap.size w w') : SameOn ok w w' := fun k h1 _ => h.block k h1
theorem SameOn.trans {ok : Nat → Prop} {w w1 w2 : World} (h : SameOn ok w w1) (hs : w.heap.size ≤ w1.heap.size) (k : SameOn ok w1 w2) : SameOn ok w w2 := fun i h1 h2 => (k i (by omega) h2).trans (h i h1 h2)

theorem IntsIn.later {ok : Nat → Prop} {w w' : World} {a : Option Addr} {zs : List Int} (h : IntsIn ok w a zs) (hB : SameOn ok w w') : IntsIn ok w' a zs := by
  rcases h with h | ⟨b, off, ha, hb, hc⟩
  · exact Or.inl h
  · exact Or.inr ⟨b, off, ha, hb, fun i hi => hB.cell (hc i hi) hb⟩
theorem IntsIn.mono {ok ok' : Nat → Prop} {w : World} {a : Option Addr} {zs : List Int} (h : IntsIn ok w a zs) (hk : ∀ k, k < w.heap.size → ok k → ok' k) : IntsIn ok' w a zs := by
  rcases h with h | ⟨b, off, ha, hb, hc⟩
  · exact Or.inl h
  · cases zs with
    | nil => exact Or.inl rfl
    | cons z r =>
      have := World.block_lt_of_cell? w _ (hc 0 (by simp))
      exact Or.inr ⟨b, off, ha, hk b this hb, hc⟩
theorem IntsIn.at {ok : Nat → Prop} {w : World} {a : Option Addr} {zs : List Int} (h : IntsIn ok w a zs) : IntsAt w.heap.size w a zs := by
  rcases h with h | ⟨b, off, ha, hb, hc⟩
  · exact Or.inl h
  · cases zs with
    | nil => exact Or.inl rfl
    | cons z r => exact Or.inr ⟨b, off, ha, World.block_lt_of_cell? w _ (hc 0 (by simp)), hc⟩
theorem IntsIn.of_at {B : Nat} {w : World} {a : Option Addr} {zs : List Int} (h : IntsAt B w a zs) : IntsIn (· < B) w a zs := h
theorem OpsIn.later {ok : Nat → Prop} {w w' : World} {a : Option Addr} {zs : List OpL} (h : OpsIn ok w a zs) (hB : SameOn ok w w') : OpsIn ok w' a zs := by
  rcases h with h | ⟨b, off, ha, hb, hc⟩
  · exact Or.inl h
  · exact Or.inr ⟨b, off, ha, hb, fun i hi => ⟨hB.cell (hc i hi).1 hb, hB.cell (hc i hi).2.1 hb, hB.cell (hc i hi).2.2 hb⟩⟩
theorem OpsIn.mono {ok ok' : Nat → Prop} {w : World} {a : Option Addr} {zs : List OpL} (h : OpsIn ok w a zs) (hk : ∀ k, k < w.heap.size → ok k → ok' k) : OpsIn ok' w a zs := by
  rcases h with h | ⟨b, off, ha, hb, hc⟩
  · exact Or.inl h
  · cases zs with
    | nil => exact Or.inl rfl
    | cons z r =>
      have := World.block_lt_of_cell? w _ (hc 0 (by simp)).1
      exact Or.inr ⟨b, off, ha, hk b this hb, hc⟩
theorem OpsIn.at {ok : Nat → Prop} {w : World} {a : Option Addr} {zs : List OpL} (h : OpsIn ok w a zs) : OpsAt w a zs := by
  rcases h with h | ⟨b, off, ha, hb, hc⟩
  · exact Or.inl h
  · cases zs with
    | nil => exact Or.inl rfl
    | cons z r => exact Or.inr ⟨b, off, ha, World.block_lt_of_cell? w _ (hc 0 (by simp)).1, hc⟩

/-- A value that is a list of ints; of operations. -/
def IsI (ok : Nat → Prop) (w : World) (v : Value) (zs : List Int) : Prop := ∃ a cap, v = .slice a zs.length cap ∧ IntsIn ok w a zs ∧ zs.length * 8 ≤ 140737488355328 ∧ zs.length ≤ cap ∧ (a = none → zs.length = 0 ∧ cap = 0)
def IsO (ok : Nat → Prop) (w : World) (v : Value) (zs : List OpL) : Prop := ∃ a cap, v = .slice a zs.length cap ∧ OpsIn ok w a zs ∧ zs.length * 24 ≤ 140737488355328 ∧ zs.length ≤ cap ∧ (a = none → zs.length = 0 ∧ cap = 0)
theorem IsI.later {ok : Nat → Prop} {w w' : World} {v : Value} {zs : List Int} (h : IsI ok w v zs) (hB : SameOn ok w w') : IsI ok w' v zs := by
  obtain ⟨a, cap, h1, h2, h3⟩ := h
  exact ⟨a, cap, h1, h2.later hB, h3⟩
theorem IsI.mono {ok ok' : Nat → Prop} {w : World} {v : Value} {zs : List Int} (h : IsI ok w v zs) (hk : ∀ k, k < w.heap.size → ok k → ok' k) : IsI ok' w v zs := by
  obtain ⟨a, cap, h1, h2, h3⟩ := h
  exact ⟨a, cap, h1, h2.mono hk, h3⟩
theorem IsI.sl {ok : Nat → Prop} {w : World} {v : Value} {zs : List Int} (h : IsI ok w v zs) : ∃ a cap, v = .slice a zs.length cap ∧ SlInts w a cap zs := by
  obtain ⟨a, cap, h1, h2, h3, h4, h5⟩ := h
  exact ⟨a, cap, h1, h2.at, by unfold maxLen; omega, h4, h5⟩
theorem IsI.of_sl {w : World} {a : Option Addr} {cap : Nat} {zs : List Int} (h : SlInts w a cap zs) (hl : zs.length * 8 ≤ 140737488355328) : IsI (· < w.heap.size) w (.slice a zs.length cap) zs := ⟨a, cap, rfl, IntsIn.of_at h.1, hl, h.2.2.1, h.2.2.2⟩
theorem IsI.nil (ok : Nat → Prop) (w : World) : IsI ok w (.slice none 0 0) [] := ⟨none, 0, rfl, Or.inl rfl, by decide, Nat.le_refl _, fun _ => ⟨rfl, rfl⟩⟩
theorem IsI.one {ok : Nat → Prop} {w : World} {v : Value} {zs : List Int} (h : IsI ok w v zs) : v.oneCell' = true := by
  obtain ⟨a, cap, rfl, _⟩ := h
  rfl
theorem IsO.later {ok : Nat → Prop} {w w' : World} {v : Value} {zs : List OpL} (h : IsO ok w v zs) (hB : SameOn ok w w') : IsO ok w' v zs := by
  obtain ⟨a, cap, h1, h2, h3⟩ := h
  exact ⟨a, cap, h1, h2.later hB, h3⟩
theorem IsO.mono {ok ok' : Nat → Prop} {w : World} {v : Value} {zs : List OpL} (h : IsO ok w v zs) (hk : ∀ k, k < w.heap.size → ok k → ok' k) : IsO ok' w v zs := by
  obtain ⟨a, cap, h1, h2, h3⟩ := h
  exact ⟨a, cap, h1, h2.mono hk, h3⟩
theorem IsO.sl {ok : Nat → Prop} {w : World} {v : Value} {zs : List OpL} (h : IsO ok w v zs) : ∃ a cap, v = .slice a zs.length cap ∧ SlOps w a cap zs := by
  obtain ⟨a, cap, h1, h2, h3, h4, h5⟩ := h
  exact ⟨a, cap, h1, h2.at, by unfold maxLen; omega, h4, h5⟩
theorem IsO.of_sl {w : World} {a : Option Addr} {cap : Nat} {zs : List OpL} (h : SlOps w a cap zs) (hl : zs.length * 24 ≤ 140737488355328) : IsO (· < w.heap.size) w (.slice a zs.length cap) zs := ⟨a, cap, rfl, h.1, hl, h.2.2.1, h.2.2.2⟩
theorem IsO.nil (ok : Nat → Prop) (w : World) : IsO ok w (.slice none 0 0) [] := ⟨none, 0, rfl, Or.inl rfl, by decide, Nat.le_refl _, fun _ => ⟨rfl, rfl⟩⟩
theorem IsO.one {ok : Nat → Prop} {w : World} {v : Value} {zs : List OpL} (h : IsO ok w v zs) : v.oneCell' = true := by
  obtain ⟨a, cap, rfl, _⟩ := h
  rfl
/-- What the call made for itself. -/
theorem IsI.of_owns {w : World} {base : Nat} {e : TypeId} {v : Value} {zs : List Int} (h : w.ownsRow base e 1 v zs.length (intCells zs)) (hl : zs.length * 8 ≤ 140737488355328) : IsI (fun b => base ≤ b ∧ v.ownBlock = some b) w v zs := by
  obtain ⟨a, cap, rfl, h1, h2⟩ := own_form h
  refine ⟨a, cap, rfl, ?_, hl, h1, h2⟩
  obtain ⟨a', cap', he, hi⟩ := IntsAt.of_owns h
  simp at he
  obtain ⟨rfl, rfl⟩ := he
  rcases hi with hi | ⟨b, off, rfl, hb, hc⟩
  · exact Or.inl hi
  · exact Or.inr ⟨b, off, rfl, ⟨(World.ownsRow.lt h b rfl).1, rfl⟩, hc⟩
theorem IsO.of_owns {w : World} {base : Nat} {e : TypeId} {v : Value} {zs : List OpL} (h : w.ownsRow base e 3 v zs.length (opsCells zs)) (hl : zs.length * 24 ≤ 140737488355328) : IsO (fun b => base ≤ b ∧ v.ownBlock = some b) w v zs := by
  obtain ⟨a, cap, rfl, h1, h2⟩ := own_form h
  refine ⟨a, cap, rfl, ?_, hl, h1, h2⟩
  obtain ⟨hi, _⟩ := SlOps.of_owns h
  rcases hi with hi | ⟨b, off, rfl, hb, hc⟩
  · exact Or.inl hi
  · exact Or.inr ⟨b, off, rfl, ⟨(World.ownsRow.lt h b rfl).1, rfl⟩, hc⟩

/-- An entry's six cells, from the o-th on. -/
structure EntC (ok : Nat → Prop) (w : World) (nv : Nat → Value) (o : Nat) (e : EntryL) : Prop where
  state : nv o = .int .i64 e.state
  ops : IsO ok w (nv (o + 1)) e.ops
  first : IsI ok w (nv (o + 2)) e.first
  deps : IsI ok w (nv (o + 3)) e.deps
  ats : IsI ok w (nv (o + 4)) e.ats
  vals : IsI ok w (nv (o + 5)) e.vals
theorem EntC.later {ok : Nat → Prop} {w w' : World} {nv : Nat → Value} {o : Nat} {e : EntryL} (h : EntC ok w nv o e) (hB : SameOn ok w w') : EntC ok w' nv o e :=
  ⟨h.state, h.ops.later hB, h.first.later hB, h.deps.later hB, h.ats.later hB, h.vals.later hB⟩
theorem EntC.mono {ok ok' : Nat → Prop} {w : World} {nv : Nat → Value} {o : Nat} {e : EntryL} (h : EntC ok w nv o e) (hk : ∀ k, k < w.heap.size → ok k → ok' k) : EntC ok' w nv o e :=
  ⟨h.state, h.ops.mono hk, h.first.mono hk, h.deps.mono hk, h.ats.mono hk, h.vals.mono hk⟩
theorem EntC.same {ok : Nat → Prop} {w : World} {nv nv' : Nat → Value} {o o' : Nat} {e : EntryL} (h : EntC ok w nv o e) (hn : ∀ j, j < 6 → nv' (o' + j) = nv (o + j)) : EntC ok w nv' o' e :=
  ⟨by have := hn 0 (by omega); simp only [Nat.add_zero] at this; rw [this]; exact h.state, by rw [hn 1 (by omega)]; exact h.ops, by rw [hn 2 (by omega)]; exact h.first, by rw [hn 3 (by omega)]; exact h.deps, by rw [hn 4 (by omega)]; exact h.ats, by rw [hn 5 (by omega)]; exact h.vals⟩
theorem EntC.one {ok : Nat → Prop} {w : World} {nv : Nat → Value} {o : Nat} {e : EntryL} (h : EntC ok w nv o e) : ∀ j, j < 6 → (nv (o + j)).oneCell' = true := by
  intro j hj
  match j, hj with
  | 0, _ => rw [Nat.add_zero, h.state]; rfl
  | 1, _ => exact h.ops.one
  | 2, _ => exact h.first.one
  | 3, _ => exact h.deps.one
  | 4, _ => exact h.ats.one
  | 5, _ => exact h.vals.one

/-- All but the order. -/
structure NodeE (ok : Nat → Prop) (w : World) (nv : Nat → Value) (s : NodeL) : Prop where
  ent : ∀ i, i < 32 → EntC ok w nv (i * 6) (s.ent i)
  vals : ∀ k, k < 8 → nv (193 + k) = .int .i64 (s.vals k)
structure NodeC (ok : Nat → Prop) (w : World) (nv : Nat → Value) (s : NodeL) : Prop where
  es : NodeE ok w nv s
  order : IsI ok w (nv 192) s.order
theorem NodeE.later {ok : Nat → Prop} {w w' : World} {nv : Nat → Value} {s : NodeL} (h : NodeE ok w nv s) (hB : SameOn ok w w') : NodeE ok w' nv s := ⟨fun i hi => (h.ent i hi).later hB, h.vals⟩
theorem NodeE.mono {ok ok' : Nat → Prop} {w : World} {nv : Nat → Value} {s : NodeL} (h : NodeE ok w nv s) (hk : ∀ k, k < w.heap.size → ok k → ok' k) : NodeE ok' w nv s := ⟨fun i hi => (h.ent i hi).mono hk, h.vals⟩
theorem NodeC.later {ok : Nat → Prop} {w w' : World} {nv : Nat → Value} {s : NodeL} (h : NodeC ok w nv s) (hB : SameOn ok w w') : NodeC ok w' nv s := ⟨h.es.later hB, h.order.later hB⟩
theorem NodeC.mono {ok ok' : Nat → Prop} {w : World} {nv : Nat → Value} {s : NodeL} (h : NodeC ok w nv s) (hk : ∀ k, k < w.heap.size → ok k → ok' k) : NodeC ok' w nv s := ⟨h.es.mono hk, h.order.mono hk⟩
theorem NodeC.below {w w' : World} {nv : Nat → Value} {s : NodeL} (h : NodeC (· < w.heap.size) w nv s) (hb : Below w.heap.size w w') : NodeC (· < w'.heap.size) w' nv s :=
  (h.later (SameOn.of_size hb)).mono (fun k _ (h : k < w.heap.size) => by have := hb.size; show k < _; omega)
theorem NodeC.any {ok : Nat → Prop} {w : World} {nv : Nat → Value} {s : NodeL} (h : NodeC ok w nv s) : NodeC (· < w.heap.size) w nv s := h.mono (fun _ h _ => h)
theorem NodeC.one {ok : Nat → Prop} {w : World} {nv : Nat → Value} {s : NodeL} (h : NodeC ok w nv s) : ∀ i, i < 201 → (nv i).oneCell' = true := by
  intro i hi
  by_cases h1 : i < 192
  · have := (h.es.ent (i / 6) (by omega)).one (i % 6) (by omega)
    rw [show i / 6 * 6 + i % 6 = i by omega] at this
    exact this
  · by_cases h2 : i = 192
    · subst h2; exact h.order.one
    · have := h.es.vals (i - 193) (by omega)
      rw [show 193 + (i - 193) = i by omega] at this
      rw [this]; rfl
theorem rowF_all {N : Nat} {f : Nat → Value} (h : ∀ i, i < N → (f i).oneCell' = true) : (rowF N f).all (·.oneCell') = true := by
  refine Array.all_eq_true_iff_forall_mem.2 (fun v hv => ?_)
  simp [rowF] at hv
  obtain ⟨i, hi, rfl⟩ := hv
  exact h i hi

/-- The lists of ints of an entry, by the numbers of their cells; and what a cell may be. -/
def EntryL.nums (e : EntryL) (f : Nat) : List Int := if f = 2 then e.first else if f = 3 then e.deps else if f = 4 then e.ats else e.vals
def fieldOK (ok : Nat → Prop) (w : World) (e : EntryL) (f : Nat) (v : Value) : Prop := if f = 0 then v = .int .i64 e.state else if f = 1 then IsO ok w v e.ops else IsI ok w v (e.nums f)
theorem EntC.get {ok : Nat → Prop} {w : World} {nv : Nat → Value} {o : Nat} {e : EntryL} (h : EntC ok w nv o e) : ∀ f, f < 6 → fieldOK ok w e f (nv (o + f)) := by
  intro f hf
  match f, hf with
  | 0, _ => exact h.state
  | 1, _ => exact h.ops
  | 2, _ => exact h.first
  | 3, _ => exact h.deps
  | 4, _ => exact h.ats
  | 5, _ => exact h.vals
theorem EntC.of {ok : Nat → Prop} {w : World} {nv : Nat → Value} {o : Nat} {e : EntryL} (h : ∀ f, f < 6 → fieldOK ok w e f (nv (o + f))) : EntC ok w nv o e :=
  ⟨h 0 (by omega), h 1 (by omega), h 2 (by omega), h 3 (by omega), h 4 (by omega), h 5 (by omega)⟩
/-- One entry is another one; the cells of all others are as they were. -/
theorem NodeE.change {ok : Nat → Prop} {w : World} {nv nv' : Nat → Value} {s : NodeL} (h : NodeE ok w nv s) {k : Nat} {e' : EntryL} (he : ∀ f, f < 6 → fieldOK ok w e' f (nv' (k * 6 + f)))
    (ho : ∀ i, i < 201 → (i < k * 6 ∨ k * 6 + 6 ≤ i) → i ≠ 192 → nv' i = nv i) (hk : k < 32) (o : List Int) : NodeE ok w nv' ⟨upd s.ent k e', o, s.vals⟩ := by
  refine ⟨fun i hi => ?_, fun j hj => ?_⟩
  · by_cases e : i = k
    · subst e
      show EntC ok w nv' (i * 6) (upd s.ent i e' i)
      rw [upd_same]
      exact EntC.of he
    · show EntC ok w nv' (i * 6) (upd s.ent k e' i)
      rw [upd_other _ _ e]
      exact (h.ent i hi).same (fun j hj => ho _ (by omega) (by omega) (by omega))
  · rw [ho _ (by omega) (by omega) (by omega)]
    exact h.vals j hj
theorem NodeC.put {ok : Nat → Prop} {w : World} {nv : Nat → Value} {s : NodeL} (h : NodeC ok w nv s) {k f : Nat} (hk : k < 32) (hf : f < 6) {v : Value} (hv : fieldOK ok w (s.ent k) f v) : NodeC ok w (fun i => if i = k * 6 + f then v else nv i) s := by
  refine ⟨⟨fun i hi => EntC.of fun g hg => ?_, fun j hj => ?_⟩, ?_⟩
  · show fieldOK ok w (s.ent i) g (if i * 6 + g = k * 6 + f then v else nv (i * 6 + g))
    by_cases e : i * 6 + g = k * 6 + f
    · obtain rfl : i = k := by omega
      obtain rfl : g = f := by omega
      rw [if_pos rfl]
      exact hv
    · rw [if_neg e]
      exact (h.es.ent i hi).get g hg
  · show (if 193 + j = k * 6 + f then v else nv (193 + j)) = _
    rw [if_neg (by omega)]
    exact h.es.vals j hj
  · show IsI ok w (if 192 = k * 6 + f then v else nv 192) _
    rw [if_neg (by omega)]
    exact h.order

theorem Try.infoNode : (Try.prog.info? 41).map (·.size) = some 201 := by kernel_rfl
theorem Try.infoEnts : (Try.prog.info? 38).map (·.size) = some 192 := by kernel_rfl
theorem Try.infoEntry : (Try.prog.info? 37).map (·.size) = some 6 := by kernel_rfl

end Go.Proofs.Ytgdkjjmnoikhdab
