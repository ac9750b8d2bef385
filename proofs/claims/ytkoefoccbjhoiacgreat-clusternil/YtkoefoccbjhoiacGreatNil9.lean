/-
  The contract of node's separate: a state whose lists are rows of the call's own.
  The contracts of package wire's Good and what it calls.
  The contracts of node's goodAhead, goodTold, goodLists, goodEntry.
  The contracts of node's goodEntry, goodOrder, Good.
  The contracts of node's isNode and refusal.
  The contracts of node's answer and ahead.
  A node behind a pointer: its lists lie behind it, the order is a row of its own; frames whose lists lie ahead of it; lists of frames.
  The contract of node's takeAsk.
  The statements' own question whether graph answers at all.
  The contract of node's Graph.
  Regions that draw their order: loads may be taken first where only operations that wait for them write their cells.
  What execute needs of memory: lists that grow by append, and a node of which one entry's told lists are under way.
  The contract of node's execute.
  The contract of node's executeReady.
  The contract of node's takeCommit.
  The contract of node's Take.
  One frame that a node that is nothing takes.
  The contracts of package wire's appendWide and Encode.
  The contract of the reader's frame: what it reads, good or not.
  The contract of package wire's Decode.
  The contract of node's Replay.
  What NodeLogs needs: a log is replayed, text by text; a list of texts that grows.
  Plain mathematics of a log: how a record is written, and what the records of a log are.
  Plain mathematics of the whole, 10: the cluster act by act, part 1: what comes to a node; a node goes down and comes up.
-/
import Derived.Test.YtkoefoccbjhoiacGreatNil8
import Derived.Test.YtkoefoccbjhoiacGreatNil6
import Derived.Test.YtkoefoccbjhoiacGreatNil2
import Derived.Deep.RegionWith
import Derived.Test.YtkoefoccbjhoiacGreatNil5
import Derived.Deep.RegionHeld3
import Derived.OrdersHeld
import Derived.WalkKit
import Derived.Deep.AppendLies
import Derived.ArgAppend
import Derived.Laws.IdiomStrings
import Derived.Deep.RegionLaw
import Derived.Deep.DrawnRows
namespace Go.Proofs.YtkoefoccbjhoiacGreat
open Go.RowKit


/-- The cells of a node that is nothing. -/
def zv (i : Nat) : Value := if i < 192 then (if i % 6 = 0 then .int .i64 0 else .slice none 0 0) else if i = 192 then .slice none 0 0 else .int .i64 0
theorem Tryz.zeroNode : (Tryz.prog.info? 32).map (·.zero) = some (some (.agg (rowF 201 zv))) := by kernel_rfl
theorem zero_node (ok : Nat → Prop) (w : World) : NodeC ok w zv zeroN := by
  refine ⟨⟨fun i hi => ?_, fun k hk => ?_⟩, ?_⟩
  · have h1 : ∀ j, 0 < j → j < 6 → zv (i * 6 + j) = .slice none 0 0 := by
      intro j h0 hj
      unfold zv
      rw [if_pos (by omega), if_neg (by omega)]
    refine ⟨?_, ?_, ?_, ?_, ?_, ?_⟩
    · unfold zv
      rw [if_pos (by omega), if_pos (by omega)]
      rfl
    · rw [h1 1 (by omega) (by omega)]; exact IsO.nil _ _
    · rw [h1 2 (by omega) (by omega)]; exact IsI.nil _ _
    · rw [h1 3 (by omega) (by omega)]; exact IsI.nil _ _
    · rw [h1 4 (by omega) (by omega)]; exact IsI.nil _ _
    · rw [h1 5 (by omega) (by omega)]; exact IsI.nil _ _
  · unfold zv
    rw [if_neg (by omega), if_neg (by omega)]
    rfl
  · exact IsI.nil _ _

/-- A list's value: its block is behind r; what is empty has no room. -/
def Fresh (r : Nat) (v : Value) : Prop := (∀ b, v.ownBlock = some b → r < b) ∧ ∀ a cap, v = .slice a 0 cap → cap = 0
theorem CloneI.fresh {r : Nat} {w w' : World} {v : Value} {zs : List Int} (h : CloneI w w' v zs) (hr : r < w.heap.size) : Fresh r v := by
  refine ⟨fun b hb => ?_, fun a cap e => ?_⟩
  · have := (World.ownsRow.lt h.1 b hb).1; omega
  · obtain ⟨a', cap', e', _⟩ := own_form h.1
    rw [e] at e'
    simp at e'
    obtain ⟨a2, e2⟩ := h.2.1 e'.2.1.symm
    rw [e] at e2
    simp at e2
    exact e2.2
theorem CloneO.fresh {r : Nat} {w w' : World} {v : Value} {zs : List OpL} (h : CloneO w w' v zs) (hr : r < w.heap.size) : Fresh r v := by
  refine ⟨fun b hb => ?_, fun a cap e => ?_⟩
  · have := (World.ownsRow.lt h.1 b hb).1; omega
  · obtain ⟨a', cap', e', _⟩ := own_form h.1
    rw [e] at e'
    simp at e'
    obtain ⟨a2, e2⟩ := h.2.1 e'.2.1.symm
    rw [e] at e2
    simp at e2
    exact e2.2
/-- In the midst of it: the first m cells are done. -/
structure SepInv (w0 : World) (s : NodeL) (zr : Array Value) (nv : Nat → Value) (m : Nat) (w : World) : Prop where
  blk : BlkAt 201 w w0.heap.size nv
  node : NodeC (fun b => b ≠ w0.heap.size ∧ b ≠ w0.heap.size + 1) w nv s
  fresh : ∀ i, i < m → i < 192 → i % 6 ≠ 0 → Fresh (w0.heap.size + 1) (nv i)
  below : Below w0.heap.size w0 w
  res : w.heap[w0.heap.size + 1]? = some (.cells zr 32 (0, 0))
theorem SepInv.lt {w0 : World} {s : NodeL} {zr : Array Value} {nv : Nat → Value} {m : Nat} {w : World} (h : SepInv w0 s zr nv m w) : w0.heap.size + 1 < w.heap.size := (Array.getElem?_eq_some_iff.1 h.res).1
theorem SepInv.step {w0 : World} {s : NodeL} {zr : Array Value} {nv : Nat → Value} {k f : Nat} {w w1 : World} {v : Value} (h : SepInv w0 s zr nv (k * 6 + f) w) (hk : k < 32) (hf : f < 6) (hb : Below w.heap.size w w1)
    (hv : fieldOK (fun b => b ≠ w0.heap.size ∧ b ≠ w0.heap.size + 1) w1 (s.ent k) f v) (hn : Fresh (w0.heap.size + 1) v) :
    SepInv w0 s zr (fun i => if i = k * 6 + f then v else nv i) (k * 6 + (f + 1)) (w1.setCell ⟨w0.heap.size, k * 6 + f, none⟩ v) := by
  have hl := h.lt
  have hsame : SameOn (fun b => b ≠ w0.heap.size ∧ b ≠ w0.heap.size + 1) w1 (w1.setCell ⟨w0.heap.size, k * 6 + f, none⟩ v) := fun b _ hb => Below.heap_setCell _ _ _ _ hb.1
  refine ⟨(h.blk.later hb (by omega)).put _ _, ?_, fun i hi hi2 h6 => ?_, ?_, ?_⟩
  · exact ((h.node.later (SameOn.of_size hb)).put hk hf hv).later hsame
  · show Fresh _ (if i = k * 6 + f then v else nv i)
    by_cases e : i = k * 6 + f
    · rw [if_pos e]; exact hn
    · rw [if_neg e]; exact h.fresh i (by omega) hi2 h6
  · exact (h.below.trans (hb.mono (by omega))).setCell (Nat.le_refl _) _
  · rw [Below.heap_setCell _ _ _ _ (by simp), hb.block _ hl]
    exact h.res
/-- Behind a round. -/
theorem SepInv.next {w0 : World} {s : NodeL} {zr : Array Value} {nv : Nat → Value} {k : Nat} {w : World} (h : SepInv w0 s zr nv (k * 6 + 6) w) : SepInv w0 s zr nv ((k + 1) * 6 + 1) w :=
  ⟨h.blk, h.node, fun i hi hi2 h6 => h.fresh i (by omega) hi2 h6, h.below, h.res⟩

/-- The end: the order is a row of its own, beside all others. -/
structure SepFin (w0 : World) (s : NodeL) (zr : Array Value) (nv : Nat → Value) (w : World) : Prop where
  blk : BlkAt 201 w w0.heap.size nv
  node : NodeE (fun b => w0.heap.size + 1 < b ∧ (nv 192).ownBlock ≠ some b) w nv s
  order : w.ownsRow (w0.heap.size + 2) 3 1 (nv 192) s.order.length (intCells s.order)
  hot : ∀ i, i < 192 → i % 6 ≠ 0 → ∀ a cap, nv i = .slice a 0 cap → cap = 0
  len : s.order.length * 8 ≤ 140737488355328
  below : Below w0.heap.size w0 w
  res : w.heap[w0.heap.size + 1]? = some (.cells zr 32 (0, 0))
theorem IsI.fresh {ok : Nat → Prop} {r B : Nat} {w : World} {v : Value} {zs : List Int} (h : IsI ok w v zs) (hv : Fresh r v) (hB : w.heap.size ≤ B) : IsI (fun b => r < b ∧ b < B) w v zs := by
  obtain ⟨a, cap, rfl, h2, h3⟩ := h
  refine ⟨a, cap, rfl, ?_, h3⟩
  rcases h2 with h2 | ⟨b, off, rfl, hb, hc⟩
  · exact Or.inl h2
  · cases zs with
    | nil => exact Or.inl rfl
    | cons z l => exact Or.inr ⟨b, off, rfl, ⟨hv.1 b rfl, Nat.lt_of_lt_of_le (World.block_lt_of_cell? w _ (hc 0 (by simp))) hB⟩, hc⟩
theorem IsO.fresh {ok : Nat → Prop} {r B : Nat} {w : World} {v : Value} {zs : List OpL} (h : IsO ok w v zs) (hv : Fresh r v) (hB : w.heap.size ≤ B) : IsO (fun b => r < b ∧ b < B) w v zs := by
  obtain ⟨a, cap, rfl, h2, h3⟩ := h
  refine ⟨a, cap, rfl, ?_, h3⟩
  rcases h2 with h2 | ⟨b, off, rfl, hb, hc⟩
  · exact Or.inl h2
  · cases zs with
    | nil => exact Or.inl rfl
    | cons z l => exact Or.inr ⟨b, off, rfl, ⟨hv.1 b rfl, Nat.lt_of_lt_of_le (World.block_lt_of_cell? w _ (hc 0 (by simp)).1) hB⟩, hc⟩
theorem SepFin.one {w0 : World} {s : NodeL} {zr : Array Value} {nv : Nat → Value} {w : World} (h : SepFin w0 s zr nv w) : ∀ i, i < 201 → (nv i).oneCell' = true :=
  (show NodeC _ w nv s from ⟨h.node.mono (ok' := fun _ => True) (fun _ _ _ => trivial), (IsI.of_owns h.order h.len).mono (fun _ _ _ => trivial)⟩).one
/-- What separate leaves: a node whose lists are new, the order a row of its own beside all others. -/
structure Apart (B : Nat) (w : World) (nv : Nat → Value) (s : NodeL) : Prop where
  node : NodeE (fun b => B ≤ b ∧ (nv 192).ownBlock ≠ some b) w nv s
  order : w.ownsRow B 3 1 (nv 192) s.order.length (intCells s.order)
  hot : ∀ i, i < 192 → i % 6 ≠ 0 → ∀ a cap, nv i = .slice a 0 cap → cap = 0
  len : s.order.length * 8 ≤ 140737488355328

theorem SepFin.done {w0 : World} {s : NodeL} {zr : Array Value} {nv : Nat → Value} {w : World} (h : SepFin w0 s zr nv w) (fr : Array Value) : Apart w0.heap.size (w.setRow (w0.heap.size + 1) fr) nv s ∧ Below w0.heap.size w0 (w.setRow (w0.heap.size + 1) fr) := by
  refine ⟨⟨?_, ?_, h.hot, h.len⟩, setRow_below h.below (by omega) _⟩
  · exact (h.node.later (fun b _ hb => setRow_other _ _ (by omega))).mono (fun b _ hb => ⟨by omega, hb.2⟩)
  · exact own_mono (own_same h.order (fun k hk => setRow_other _ _ (by have := (World.ownsRow.lt h.order k hk).1; omega))) (by omega)

end Go.Proofs.YtkoefoccbjhoiacGreat

namespace Go.Proofs.YtkoefoccbjhoiacGreat
open Go.RowKit

/- slices.Index: the first place, or -1: here whether there is one -/
theorem IntsAt.get {B : Nat} {w : World} {a : Option Addr} {zs : List Int} (h : IntsAt B w a zs) {k : Nat} (hk : k < zs.length) : ∃ q : Int, Hid (zs.getD k 0 = q) ∧ ∃ b off, a = some ⟨b, off, none⟩ ∧ w.cell? ⟨b, off + k, none⟩ = some (.int .i64 q) := by
  rcases h with rfl | ⟨b, off, rfl, _, hc⟩
  · simp at hk
  · exact ⟨_, rfl, b, off, rfl, hc k hk⟩
end Go.Proofs.YtkoefoccbjhoiacGreat

namespace Go.Proofs.YtkoefoccbjhoiacGreat
open Go.RowKit

/-- An entry by value. -/
def EntV (w : World) (v : Value) (e : EntryL) : Prop := ∃ a1 c1 a2 c2 a3 c3 a4 c4 a5 c5,
  v = .agg #[.int .i64 e.state, .slice a1 e.ops.length c1, .slice a2 e.first.length c2, .slice a3 e.deps.length c3, .slice a4 e.ats.length c4, .slice a5 e.vals.length c5] ∧
  SlOps w a1 c1 e.ops ∧ SlInts w a2 c2 e.first ∧ SlInts w a3 c3 e.deps ∧ SlInts w a4 c4 e.ats ∧ SlInts w a5 c5 e.vals ∧
  (e.ops.length ≤ 140737488355328 ∧ e.first.length ≤ 140737488355328 ∧ e.deps.length ≤ 140737488355328 ∧ e.ats.length ≤ 140737488355328 ∧ e.vals.length ≤ 140737488355328)
theorem EntV.later {w w' : World} {v : Value} {e : EntryL} (h : EntV w v e) (hb : Below w.heap.size w w') : EntV w' v e := by
  obtain ⟨a1, c1, a2, c2, a3, c3, a4, c4, a5, c5, hv, h1, h2, h3, h4, h5, hl⟩ := h
  exact ⟨a1, c1, a2, c2, a3, c3, a4, c4, a5, c5, hv, h1.later hb, h2.later hb, h3.later hb, h4.later hb, h5.later hb, hl⟩
def sixV (nv : Nat → Value) (o : Nat) : Array Value := #[nv o, nv (o + 1), nv (o + 2), nv (o + 3), nv (o + 4), nv (o + 5)]
theorem EntC.v {ok : Nat → Prop} {w : World} {nv : Nat → Value} {o : Nat} {e : EntryL} (h : EntC ok w nv o e) : EntV w (.agg (sixV nv o)) e := by
  obtain ⟨a1, c1, e1, h1⟩ := h.ops.sl
  obtain ⟨a2, c2, e2, h2⟩ := h.first.sl
  obtain ⟨a3, c3, e3, h3⟩ := h.deps.sl
  obtain ⟨a4, c4, e4, h4⟩ := h.ats.sl
  obtain ⟨a5, c5, e5, h5⟩ := h.vals.sl
  obtain ⟨_, _, _, _, l1, _⟩ := h.ops
  obtain ⟨_, _, _, _, l2, _⟩ := h.first
  obtain ⟨_, _, _, _, l3, _⟩ := h.deps
  obtain ⟨_, _, _, _, l4, _⟩ := h.ats
  obtain ⟨_, _, _, _, l5, _⟩ := h.vals
  refine ⟨a1, c1, a2, c2, a3, c3, a4, c4, a5, c5, ?_, h1, h2, h3, h4, h5, by omega, by omega, by omega, by omega, by omega⟩
  unfold sixV
  rw [h.state, e1, e2, e3, e4, e5]

end Go.Proofs.YtkoefoccbjhoiacGreat

namespace Go.Proofs.YtkoefoccbjhoiacGreat
open Go.RowKit

/-! ### The order -/
/-- As far as k: within the bounds, each once. -/
def OrdTo (l : List Int) (k : Nat) : Prop := (∀ x ∈ l.take k, 0 ≤ x ∧ x < 32) ∧ (l.take k).Nodup
theorem OrdTo.step {l : List Int} {k m : Nat} (h : OrdTo l k) (hk : k < l.length) (hm : m < 32) (hx : l.getD k 0 = (m : Int)) (hn : (l.take k).contains (m : Int) = false) : OrdTo l (k + 1) := by
  have e : l[k] = (m : Int) := by rw [← hx]; simp [List.getD, hk]
  unfold OrdTo
  rw [List.take_succ_eq_append_getElem hk, e]
  refine ⟨fun x hx => ?_, ?_⟩
  · rcases List.mem_append.1 hx with hx | hx
    · exact h.1 x hx
    · simp at hx; omega
  · rw [List.nodup_append]
    refine ⟨h.2, by simp, fun a ha b hb => ?_⟩
    simp at hb
    subst hb
    intro e
    subst e
    rw [List.contains_iff_mem.2 ha] at hn
    cases hn
end Go.Proofs.YtkoefoccbjhoiacGreat

namespace Go.Proofs.YtkoefoccbjhoiacGreat
open Go.RowKit

def nodeB (n : Int) : Bool := decide (0 ≤ n ∧ n < 6)

end Go.Proofs.YtkoefoccbjhoiacGreat

namespace Go.Proofs.YtkoefoccbjhoiacGreat
open Go.RowKit

end Go.Proofs.YtkoefoccbjhoiacGreat

namespace Go.Proofs.YtkoefoccbjhoiacGreat
open Go.RowKit

def Okb (c : Nat) (nv : Nat → Value) (b : Nat) : Prop := c + 2 < b ∧ (nv 192).ownBlock ≠ some b
structure NodeAt (c : Nat) (w : World) (nv : Nat → Value) (s : NodeL) : Prop where
  blk : BlkAt 201 w c nv
  node : NodeE (Okb c nv) w nv s
  room : c + 2 < w.heap.size
  order : w.ownsRow (c + 3) 3 1 (nv 192) s.order.length (intCells s.order)
  hot : ∀ i, i < 32 → ∀ f, f = 4 ∨ f = 5 → ∀ a cap, nv (i * 6 + f) = .slice a 0 cap → cap = 0
theorem NodeAt.lt {c : Nat} {w : World} {nv : Nat → Value} {s : NodeL} (h : NodeAt c w nv s) : c < w.heap.size := h.blk.lt
theorem NodeAt.later {c : Nat} {w w' : World} {nv : Nat → Value} {s : NodeL} (h : NodeAt c w nv s) (hb : Below w.heap.size w w') : NodeAt c w' nv s :=
  ⟨h.blk.later hb h.lt, h.node.later (SameOn.of_size hb), Nat.lt_of_lt_of_le h.room hb.size, own_same h.order (fun k hk => hb.block k (World.ownsRow.lt h.order k hk).2), h.hot⟩
theorem NodeAt.drew {c : Nat} {w : World} {nv : Nat → Value} {s : NodeL} (h : NodeAt c w nv s) : NodeAt c w.drew nv s := h.later (Below.refl _ _).drew
theorem NodeAt.fr {c : Nat} {w : World} {nv : Nat → Value} {s : NodeL} (h : NodeAt c w nv s) (i : Nat) : w.frozen? ⟨c, i, none⟩ = false := h.blk.frozen i
theorem NodeAt.notC {c : Nat} {w : World} {nv : Nat → Value} {s : NodeL} (h : NodeAt c w nv s) {k : Nat} (hk : (nv 192).ownBlock = some k) : c < k := by have := (World.ownsRow.lt h.order k hk).1; omega

/-- All up to the two boxes behind a node's is as it was, but its own. -/
structure Near (c : Nat) (w w' : World) : Prop where
  os : w'.os = w.os
  tape : w'.tape = w.tape
  output : w'.output = w.output
  size : w.heap.size ≤ w'.heap.size
  block : ∀ k, k < c + 3 → k ≠ c → w'.heap[k]? = w.heap[k]?
theorem Near.trans {c : Nat} {a b d : World} (h : Near c a b) (k : Near c b d) : Near c a d :=
  ⟨k.os.trans h.os, k.tape.trans h.tape, k.output.trans h.output, Nat.le_trans h.size k.size, fun i hi hc => (k.block i hi hc).trans (h.block i hi hc)⟩
theorem Near.setCell {c : Nat} {a w : World} (h : Near c a w) {o : Nat} (u : Value) : Near c a (w.setCell ⟨c, o, none⟩ u) :=
  h.trans ⟨rfl, rfl, rfl, by simp [World.setCell], fun k _ hc => Below.heap_setCell _ _ _ _ hc⟩
theorem Near.drew {c : Nat} {a w : World} (h : Near c a w) : Near c a w.drew := ⟨h.os, h.tape, h.output, h.size, h.block⟩
theorem Near.below {c : Nat} {w w' : World} (h : Near c w w') : Below c w w' := ⟨h.os, h.tape, h.output, h.size, fun k hk => h.block k (by omega) (by omega)⟩
/-- One cell of one entry is written. -/
theorem NodeAt.put {c : Nat} {w : World} {nv : Nat → Value} {s : NodeL} (h : NodeAt c w nv s) {m f : Nat} (hm : m < 32) (hf : f < 6) {v : Value} (e' : EntryL) (hv : fieldOK (Okb c nv) w e' f v) (hh : f = 4 ∨ f = 5 → ∀ a cap, v = .slice a 0 cap → cap = 0)
    (hag : ∀ g, g < 6 → g ≠ f → fieldOK (Okb c nv) w (s.ent m) g (nv (m * 6 + g)) → fieldOK (Okb c nv) w e' g (nv (m * 6 + g))) :
    NodeAt c (w.setCell ⟨c, m * 6 + f, none⟩ v) (fun i => if i = m * 6 + f then v else nv i) ⟨upd s.ent m e', s.order, s.vals⟩ := by
  have e192 : (if 192 = m * 6 + f then v else nv 192) = nv 192 := if_neg (by omega)
  have hok : Okb c (fun i => if i = m * 6 + f then v else nv i) = Okb c nv := by
    funext b
    unfold Okb
    show (c + 2 < b ∧ (if 192 = m * 6 + f then v else nv 192).ownBlock ≠ some b) = _
    rw [e192]
  refine ⟨h.blk.put _ _, ?_, by simp [World.setCell]; exact h.room, ?_, ?_⟩
  · rw [hok]
    have h1 : NodeE (Okb c nv) w (fun i => if i = m * 6 + f then v else nv i) ⟨upd s.ent m e', s.order, s.vals⟩ := by
      refine h.node.change (fun g hg => ?_) (fun i _ hi _ => ?_) hm s.order
      · show fieldOK (Okb c nv) w e' g (if m * 6 + g = m * 6 + f then v else nv (m * 6 + g))
        by_cases e : g = f
        · subst e; rw [if_pos rfl]; exact hv
        · rw [if_neg (by omega)]; exact hag g hg e ((h.node.ent m hm).get g hg)
      · show (if i = m * 6 + f then v else nv i) = nv i
        rw [if_neg (by omega)]
    exact h1.later (fun b _ hb => Below.heap_setCell _ _ _ _ (show b ≠ c by have := hb.1; omega))
  · show World.ownsRow _ _ _ _ (if 192 = m * 6 + f then v else nv 192) _ _
    rw [e192]
    exact own_put h.order (by omega)
  · intro i hi g hg a cap e
    have e' : (if i * 6 + g = m * 6 + f then v else nv (i * 6 + g)) = .slice a 0 cap := e
    by_cases e2 : i * 6 + g = m * 6 + f
    · rw [if_pos e2] at e'
      exact hh (by omega) a cap e'
    · rw [if_neg e2] at e'
      exact h.hot i hi g hg a cap e'

/-- A node's lists behind B, as separate leaves them, put into a block ahead of them. -/
theorem Apart.at {B c : Nat} {w : World} {nv : Nat → Value} {s : NodeL} (h : Apart B w nv s) (hc : c + 2 < B) (hB : B ≤ w.heap.size) (hb : BlkAt 201 w c nv) : NodeAt c w nv s :=
  ⟨hb, h.node.mono (fun b _ hb => ⟨by omega, hb.2⟩), by omega, own_mono h.order (by omega), fun i hi f hf a cap e => h.hot (i * 6 + f) (by omega) (by omega) a cap e⟩

end Go.Proofs.YtkoefoccbjhoiacGreat

namespace Go.Proofs.YtkoefoccbjhoiacGreat
open Go.RowKit

end Go.Proofs.YtkoefoccbjhoiacGreat

namespace Go.Proofs.YtkoefoccbjhoiacGreat
open Go.RowKit

/-- A graph in a box, and all that may be asked of it later. -/
structure GBox (B : Nat) (W : World) (gv : Nat → Value) (g : GraphL) (gr : Array Value) : Prop where
  row : W.heap[B]? = some (.cells gr 65 (0, 0))
  eq : gr = rowF 64 gv
  lists : GraphC W.heap.size W gv g
theorem GBox.lt {B : Nat} {W : World} {gv : Nat → Value} {g : GraphL} {gr : Array Value} (h : GBox B W gv g gr) : B < W.heap.size := by
  have := (Array.getElem?_eq_some_iff.1 h.row).1
  exact this
theorem GBox.later {B : Nat} {W W' : World} {gv : Nat → Value} {g : GraphL} {gr : Array Value} (h : GBox B W gv g gr) (hb : Below W.heap.size W W') : GBox B W' gv g gr :=
  ⟨by rw [hb.block B h.lt]; exact h.row, h.eq, (h.lists.later hb).mono hb.size⟩
theorem GBox.order {B : Nat} {W : World} {gv : Nat → Value} {g : GraphL} {gr : Array Value} (h : GBox B W gv g gr) (n : Int) :
    Calls Tryz.prog 29 #[.agg gr, .int .i64 n] W fun e w' => ∃ v, e = .returned v ∧ w'.ownsRow W.heap.size 3 1 v (ints (orderI g n)).length (intCells (ints (orderI g n))) ∧ Below W.heap.size W w' := by
  rw [h.eq]; exact order_any gv g n W h.lists
theorem GBox.size {B : Nat} {W : World} {gv : Nat → Value} {g : GraphL} {gr : Array Value} (h : GBox B W gv g gr) : (Tryz.prog.info? 65).map (·.size) = some gr.size := by rw [h.eq]; exact Tryz.sizeGraph gv

end Go.Proofs.YtkoefoccbjhoiacGreat

namespace Go.Proofs.YtkoefoccbjhoiacGreat
open Go.RowKit

/-- The 64 cells of a graph, its lists in blocks of which 'ok' holds. -/
structure GraphIn (ok : Nat → Prop) (w : World) (gv : Nat → Value) (g : GraphL) : Prop where
  known : ∀ i, i < 32 → gv i = .bool (g.known i)
  deps : ∀ i, i < 32 → IsI ok w (gv (32 + i)) (g.deps i)
theorem GraphIn.later {ok : Nat → Prop} {w w' : World} {gv : Nat → Value} {g : GraphL} (h : GraphIn ok w gv g) (hB : SameOn ok w w') : GraphIn ok w' gv g := ⟨h.known, fun i hi => (h.deps i hi).later hB⟩
theorem GraphIn.one {ok : Nat → Prop} {w : World} {gv : Nat → Value} {g : GraphL} (h : GraphIn ok w gv g) : ∀ i, i < 64 → (gv i).oneCell' = true := by
  intro i hi
  by_cases h1 : i < 32
  · rw [h.known i h1]; rfl
  · have := (h.deps (i - 32) (by omega)).one
    rw [show 32 + (i - 32) = i by omega] at this
    exact this
/-- In the midst of it: the first k are done. -/
structure GrInv (w0 : World) (s : NodeL) (zr : Array Value) (gv : Nat → Value) (k : Nat) (w : World) : Prop where
  blk : BlkAt 64 w (w0.heap.size + 2) gv
  known : ∀ i, i < k → gv i = .bool (decide (2 ≤ (s.ent i).state))
  deps : ∀ i, i < k → IsI (fun b => w0.heap.size + 2 < b) w (gv (32 + i)) (s.ent i).deps
  below : Below w0.heap.size w0 w
  res : w.heap[w0.heap.size + 1]? = some (.cells zr 65 (0, 0))
theorem GrInv.lt {w0 : World} {s : NodeL} {zr : Array Value} {gv : Nat → Value} {k : Nat} {w : World} (h : GrInv w0 s zr gv k w) : w0.heap.size + 2 < w.heap.size := h.blk.lt
/-- A new block. -/
theorem GrInv.later {w0 : World} {s : NodeL} {zr : Array Value} {gv : Nat → Value} {k : Nat} {w w1 : World} (h : GrInv w0 s zr gv k w) (hb : Below w.heap.size w w1) : GrInv w0 s zr gv k w1 := by
  have := h.lt
  exact ⟨h.blk.later hb this, h.known, fun i hi => (h.deps i hi).later (SameOn.of_size hb), h.below.trans (hb.mono (by omega)), by rw [hb.block _ (by omega)]; exact h.res⟩
theorem GrInv.step {w0 : World} {s : NodeL} {zr : Array Value} {gv : Nat → Value} {k : Nat} {w w1 : World} {v : Value} (h : GrInv w0 s zr gv k w) (hk : k < 32) (hb : Below w.heap.size (w.setCell ⟨w0.heap.size + 2, k, none⟩ (.bool (decide (2 ≤ (s.ent k).state)))) w1)
    (hv : IsI (fun b => w0.heap.size + 2 < b) w1 v (s.ent k).deps) :
    GrInv w0 s zr (fun i => if i = 32 + k then v else if i = k then .bool (decide (2 ≤ (s.ent k).state)) else gv i) (k + 1) (w1.setCell ⟨w0.heap.size + 2, 32 + k, none⟩ v) := by
  have hl := h.lt
  have h1 : BlkAt 64 (w.setCell ⟨w0.heap.size + 2, k, none⟩ (.bool (decide (2 ≤ (s.ent k).state)))) (w0.heap.size + 2) (fun i => if i = k then .bool (decide (2 ≤ (s.ent k).state)) else gv i) := h.blk.put k _
  have h2 := (h1.later hb hl).put (32 + k) v
  refine ⟨h2, fun i hi => ?_, fun i hi => ?_, ?_, ?_⟩
  · show (if i = 32 + k then v else if i = k then _ else gv i) = _
    rw [if_neg (by omega)]
    by_cases e : i = k
    · subst e; rw [if_pos rfl]
    · rw [if_neg e]; exact h.known i (by omega)
  · show IsI _ _ (if 32 + i = 32 + k then v else if 32 + i = k then _ else gv (32 + i)) _
    have sm : SameOn (fun b => w0.heap.size + 2 < b) w1 (w1.setCell ⟨w0.heap.size + 2, 32 + k, none⟩ v) := fun b _ hb => Below.heap_setCell _ _ _ _ (show b ≠ w0.heap.size + 2 by omega)
    by_cases e : i = k
    · subst e; rw [if_pos rfl]; exact hv.later sm
    · rw [if_neg (by omega), if_neg (by omega)]
      refine ((h.deps i (by omega)).later fun b hb' hb2 => ?_).later sm
      rw [hb.block b hb']
      exact Below.heap_setCell _ _ _ _ (show b ≠ w0.heap.size + 2 by omega)
  · exact ((h.below.setCell (show w0.heap.size ≤ w0.heap.size + 2 by omega) _).trans (hb.mono (by omega))).setCell (show w0.heap.size ≤ w0.heap.size + 2 by omega) _
  · rw [Below.heap_setCell _ _ _ _ (by simp), hb.block _ (by omega), Below.heap_setCell _ _ _ _ (by simp)]
    exact h.res

end Go.Proofs.YtkoefoccbjhoiacGreat

namespace Go.Proofs.YtkoefoccbjhoiacGreat
open Go.RowKit

section
variable {P : Program} {ops : Array Oper} {Q : Exit → Act → World → Prop} {md : Region.Mode} {S : World → Prop} {T : List Nat}

/-- None of T has come up. -/
def shutT (T : List Nat) (listed : Array Bool) : Bool := T.all fun t => !listed.getD t true
/-- Whatever order is picked from here on, and S holds behind every operation while none of T has come up. -/
def wpAnyG (P : Program) (md : Region.Mode) (ops : Array Oper) (Q : Exit → Act → World → Prop) (T : List Nat) (S : World → Prop) : Nat → Array Bool → Act → World → Prop
  | 0, listed, a, w => Region.ready md ops listed = [] ∧ Q .normal a w
  | fuel + 1, listed, a, w =>
    (Region.ready md ops listed = [] → Q .normal a w) ∧
    ∀ i ∈ Region.ready md ops listed, wpOp P ops Q i (fun a' w' => (shutT T (listed.setIfInBounds i true) = true → S w') ∧ wpAnyG P md ops Q T S fuel (listed.setIfInBounds i true) a' w') a w
/-- Each of the operations 'rs' comes up next. -/
def AllReadyG (P : Program) (md : Region.Mode) (ops : Array Oper) (Q : Exit → Act → World → Prop) (T : List Nat) (S : World → Prop) (fuel : Nat) (listed : Array Bool) (a : Act) (w : World) (rs : List Nat) : Prop :=
  ∀ i ∈ rs, wpOp P ops Q i (fun a' w' => (shutT T (listed.setIfInBounds i true) = true → S w') ∧ wpAnyG P md ops Q T S fuel (listed.setIfInBounds i true) a' w') a w
theorem AllReadyG.nil {fuel : Nat} {listed : Array Bool} {a : Act} {w : World} : AllReadyG P md ops Q T S fuel listed a w [] := fun _ h => by cases h
theorem AllReadyG.cons {fuel : Nat} {listed : Array Bool} {a : Act} {w : World} {i : Nat} {o : Oper} {rs : List Nat} (ho : ops[i]? = some o)
    (h : ∀ K' : Act → World → Prop, Hid (∀ a w, S w → (S w → wpAnyG P md ops Q T S fuel (listed.setIfInBounds i true) a w) → K' a w) → if Region.wanted o (yielded ops a.tmps) = true then Oper.wp P o a w K' Q else K' (a.put o.dst undef) w)
    (hs : AllReadyG P md ops Q T S fuel listed a w rs) : AllReadyG P md ops Q T S fuel listed a w (i :: rs) := fun j hj => by
  rcases List.mem_cons.1 hj with rfl | hj
  · exact wpOp_step ho (fun K' hK => h K' (fun a w hS hW => hK a w ⟨fun _ => hS, hW hS⟩))
  · exact hs j hj
end
end Go.Proofs.YtkoefoccbjhoiacGreat

namespace Go.Proofs.YtkoefoccbjhoiacGreat
open Go.RowKit

/-- A list that is appended to: nothing without room, or a row of the call's own. -/
def Grows (b0 : Nat) (w : World) (v : Value) (xs : List Int) : Prop := (xs = [] ∧ ∃ a, v = .slice a 0 0) ∨ (xs ≠ [] ∧ w.ownsRow b0 3 1 v xs.length (intCells xs))
def hotB (v : Value) (xs : List Int) : Option Nat := if xs = [] then none else v.ownBlock
theorem Grows.lt {b0 : Nat} {w : World} {v : Value} {xs : List Int} (h : Grows b0 w v xs) : ∀ k, hotB v xs = some k → b0 ≤ k ∧ k < w.heap.size := by
  intro k hk
  unfold hotB at hk
  rcases h with ⟨h1, _⟩ | ⟨h1, h2⟩
  · rw [if_pos h1] at hk; cases hk
  · rw [if_neg h1] at hk; exact World.ownsRow.lt h2 k hk
theorem Grows.same {b0 : Nat} {w w' : World} {v : Value} {xs : List Int} (h : Grows b0 w v xs) (hs : ∀ k, hotB v xs = some k → w'.heap[k]? = w.heap[k]?) : Grows b0 w' v xs := by
  rcases h with h | ⟨h1, h2⟩
  · exact Or.inl h
  · exact Or.inr ⟨h1, own_same h2 (fun k hk => hs k (by unfold hotB; rw [if_neg h1]; exact hk))⟩
theorem Grows.form {b0 : Nat} {w : World} {v : Value} {xs : List Int} (h : Grows b0 w v xs) : ∃ a cap, v = .slice a xs.length cap := by
  rcases h with ⟨rfl, a, rfl⟩ | ⟨_, h2⟩
  · exact ⟨a, 0, rfl⟩
  · obtain ⟨a, cap, e, _⟩ := own_form h2
    exact ⟨a, cap, e⟩
theorem Grows.one {b0 : Nat} {w : World} {v : Value} {xs : List Int} (h : Grows b0 w v xs) : v.oneCell' = true := by
  obtain ⟨a, cap, rfl⟩ := h.form
  rfl

/-- A node one of whose entries' told lists are under way: all else lies below b0. -/
structure NodeX (c n b0 : Nat) (w : World) (nv : Nat → Value) (s : NodeL) : Prop where
  blk : BlkAt 201 w c nv
  ent : ∀ i, i < 32 → ∀ f, f < 6 → ¬ (i = n ∧ (f = 4 ∨ f = 5)) → fieldOK (fun b => c + 2 < b ∧ b < b0 ∧ (nv 192).ownBlock ≠ some b) w (s.ent i) f (nv (i * 6 + f))
  vals : ∀ k, k < 8 → nv (193 + k) = .int .i64 (s.vals k)
  order : w.ownsRow (c + 3) 3 1 (nv 192) s.order.length (intCells s.order)
  olt : ∀ k, (nv 192).ownBlock = some k → k < b0
  hot : ∀ i, i < 32 → i ≠ n → ∀ f, f = 4 ∨ f = 5 → ∀ a cap, nv (i * 6 + f) = .slice a 0 cap → cap = 0
  cl : c + 2 < b0
theorem fieldOK.later {ok : Nat → Prop} {w w' : World} {e : EntryL} {f : Nat} {v : Value} (h : fieldOK ok w e f v) (hs : SameOn ok w w') : fieldOK ok w' e f v := by
  unfold fieldOK at *
  split
  · rename_i h0; rw [if_pos h0] at h; exact h
  · rename_i h0
    rw [if_neg h0] at h
    split
    · rename_i h1; rw [if_pos h1] at h; exact h.later hs
    · rename_i h1; rw [if_neg h1] at h; exact h.later hs
theorem fieldOK.mono {ok ok' : Nat → Prop} {w : World} {e : EntryL} {f : Nat} {v : Value} (h : fieldOK ok w e f v) (hk : ∀ k, k < w.heap.size → ok k → ok' k) : fieldOK ok' w e f v := by
  unfold fieldOK at *
  split
  · rename_i h0; rw [if_pos h0] at h; exact h
  · rename_i h0
    rw [if_neg h0] at h
    split
    · rename_i h1; rw [if_pos h1] at h; exact h.mono hk
    · rename_i h1; rw [if_neg h1] at h; exact h.mono hk
theorem NodeAt.x {c : Nat} {w : World} {nv : Nat → Value} {s : NodeL} (h : NodeAt c w nv s) (n : Nat) : NodeX c n w.heap.size w nv s :=
  ⟨h.blk, fun i hi f hf _ => ((h.node.ent i hi).get f hf).mono (fun _ hb hk => ⟨hk.1, hb, hk.2⟩), h.node.vals, h.order, fun k hk => (World.ownsRow.lt h.order k hk).2, fun i hi _ => h.hot i hi, h.room⟩
/-- Whatever happens from b0 on. -/
theorem NodeX.later {c n b0 : Nat} {w w' : World} {nv : Nat → Value} {s : NodeL} (h : NodeX c n b0 w nv s) (hb : Below b0 w w') : NodeX c n b0 w' nv s :=
  ⟨h.blk.later hb (by have := h.cl; omega), fun i hi f hf hn => (h.ent i hi f hf hn).later (fun b _ hk => hb.block b hk.2.1), h.vals, own_same h.order (fun k hk => hb.block k (h.olt k hk)), h.olt, h.hot, h.cl⟩
theorem NodeX.fr {c n b0 : Nat} {w : World} {nv : Nat → Value} {s : NodeL} (h : NodeX c n b0 w nv s) (i : Nat) : w.frozen? ⟨c, i, none⟩ = false := h.blk.frozen i
/-- In the midst of execute: what was told, in two rows beside one another. -/
structure ExInv (c n b0 : Nat) (w : World) (nv : Nat → Value) (s : NodeL) (xs ys : List Int) : Prop where
  x : NodeX c n b0 w nv s
  g4 : Grows b0 w (nv (n * 6 + 4)) xs
  g5 : Grows b0 w (nv (n * 6 + 5)) ys
  ap : ∀ k, hotB (nv (n * 6 + 4)) xs = some k → hotB (nv (n * 6 + 5)) ys ≠ some k
  le : b0 ≤ w.heap.size
theorem ExInv.later {c n b0 : Nat} {w w' : World} {nv : Nat → Value} {s : NodeL} {xs ys : List Int} (h : ExInv c n b0 w nv s xs ys) (hb : Below w.heap.size w w') : ExInv c n b0 w' nv s xs ys :=
  ⟨h.x.later (hb.mono h.le), h.g4.same (fun k hk => hb.block k (h.g4.lt k hk).2), h.g5.same (fun k hk => hb.block k (h.g5.lt k hk).2), h.ap, Nat.le_trans h.le hb.size⟩

/-- While the two appends are under way (the cells as they were): the rows, and what is to be appended. -/
structure Reg (c n b0 : Nat) (w : World) (nv : Nat → Value) (s : NodeL) (v4 : Value) (xs : List Int) (v5 : Value) (ys : List Int) : Prop where
  x : NodeX c n b0 w nv s
  g4 : Grows b0 w v4 xs
  g5 : Grows b0 w v5 ys
  ap : ∀ k, hotB v4 xs = some k → hotB v5 ys ≠ some k
  le : b0 ≤ w.heap.size
def NewAt (w : World) (t : Nat) (q : Int) (v4 : Value) (xs : List Int) (v5 : Value) (ys : List Int) : Prop := w.heap[t]? = some (.cells #[.int .i64 q] 3 (0, 0)) ∧ hotB v4 xs ≠ some t ∧ hotB v5 ys ≠ some t
section
variable {c n b0 : Nat} {w : World} {nv : Nat → Value} {s : NodeL} {v4 v5 : Value} {xs ys : List Int}
theorem NewAt.lt {t : Nat} {q : Int} (h : NewAt w t q v4 xs v5 ys) : t < w.heap.size := (Array.getElem?_eq_some_iff.1 h.1).1
theorem Reg.build (h : Reg c n b0 w nv s v4 xs v5 ys) (o : Obj) : Reg c n b0 (w.alloc o) nv s v4 xs v5 ys := by
  have hb : Below w.heap.size w (w.alloc o) := (Below.refl _ _).alloc (Nat.le_refl _) _
  exact ⟨h.x.later (hb.mono h.le), h.g4.same (fun k hk => hb.block k (h.g4.lt k hk).2), h.g5.same (fun k hk => hb.block k (h.g5.lt k hk).2), h.ap, Nat.le_trans h.le hb.size⟩
theorem Reg.new (h : Reg c n b0 w nv s v4 xs v5 ys) (q : Int) : NewAt (w.alloc (.cells #[.int .i64 q] 3)) w.heap.size q v4 xs v5 ys :=
  ⟨heap_new _ _, fun e => by have := (h.g4.lt _ e).2; omega, fun e => by have := (h.g5.lt _ e).2; omega⟩
theorem NewAt.build {t : Nat} {q : Int} (h : NewAt w t q v4 xs v5 ys) (o : Obj) : NewAt (w.alloc o) t q v4 xs v5 ys := ⟨by rw [Below.heap_alloc _ _ _ h.lt]; exact h.1, h.2⟩
end

end Go.Proofs.YtkoefoccbjhoiacGreat

namespace Go.Proofs.YtkoefoccbjhoiacGreat
open Go.RowKit

theorem len_le : ∀ (N : Nat) (l : List Int), (∀ x ∈ l, 0 ≤ x ∧ x < (N : Int)) → (∀ n : Nat, n < N → l.count (n : Int) ≤ 1) → l.length ≤ N
  | 0, l, h, _ => by
    cases l with
    | nil => simp
    | cons a r => have := h a (by simp); omega
  | N + 1, l, h, hc => by
    have e := List.length_eq_countP_add_countP (l := l) (fun x => x == (N : Int))
    have h1 : List.countP (fun x => x == (N : Int)) l = l.count (N : Int) := rfl
    have h2 := len_le N (l.filter fun x => !(x == (N : Int))) (fun x hx => by
      obtain ⟨m1, m2⟩ := List.mem_filter.1 hx
      have := h x m1
      have : x ≠ (N : Int) := by simpa using m2
      omega) (fun n hn => Nat.le_trans (List.Sublist.count_le _ List.filter_sublist) (hc n (by omega)))
    have h3 := hc N (by omega)
    rw [h1] at e
    rw [← List.countP_eq_length_filter] at h2
    have e2 : List.countP (fun a => decide ¬(a == (N : Int)) = true) l = List.countP (fun x => !(x == (N : Int))) l := by
      congr 1
      funext x
      cases (x == (N : Int)) <;> rfl
    omega
theorem GoodN.len {s : NodeL} (h : GoodN s) : s.order.length ≤ 32 := len_le 32 s.order h.lt (fun n hn => by rw [h.cnt n hn]; split <;> omega)
/-- All but the node's own block and the order's is as it was. -/
structure Moves (c : Nat) (ov : Value) (w w' : World) : Prop where
  os : w'.os = w.os
  tape : w'.tape = w.tape
  output : w'.output = w.output
  size : w.heap.size ≤ w'.heap.size
  block : ∀ k, k < w.heap.size → k ≠ c → ov.ownBlock ≠ some k → w'.heap[k]? = w.heap[k]?
/-- Behind one that is executed. -/
structure Ends (c n : Nat) (w w' : World) (nv nv' : Nat → Value) (s' : NodeL) : Prop where
  at_ : NodeAt c w' nv' s'
  moves : Moves c (nv 192) w w'
  ord : ∀ k, (nv' 192).ownBlock = some k → (nv 192).ownBlock = some k ∨ w.heap.size ≤ k
end Go.Proofs.YtkoefoccbjhoiacGreat

namespace Go.Proofs.YtkoefoccbjhoiacGreat
open Go.RowKit

/-- Blocks that no execution touches. -/
structure Safe (A : Nat → Prop) (c : Nat) (W w : World) (nv : Nat → Value) : Prop where
  same : SameOn A W w
  ord : ∀ k, (nv 192).ownBlock = some k → ¬ A k
  lt : ∀ k, A k → k < W.heap.size
  nc : ¬ A c
  size : W.heap.size ≤ w.heap.size
theorem Safe.later {A : Nat → Prop} {c : Nat} {W w w' : World} {nv : Nat → Value} (h : Safe A c W w nv) (hb : Below w.heap.size w w') : Safe A c W w' nv :=
  ⟨fun k hk ha => (hb.block k (by have := h.size; omega)).trans (h.same k hk ha), h.ord, h.lt, h.nc, Nat.le_trans h.size hb.size⟩
theorem Ends.below {c n : Nat} {w w' : World} {nv nv' : Nat → Value} {s s' : NodeL} (h : NodeAt c w nv s) (e : Ends c n w w' nv nv' s') : Below c w w' :=
  ⟨e.moves.os, e.moves.tape, e.moves.output, e.moves.size, fun k hk => e.moves.block k (by have := h.lt; omega) (by omega) (fun ho => by have := h.notC ho; omega)⟩
end Go.Proofs.YtkoefoccbjhoiacGreat

namespace Go.Proofs.YtkoefoccbjhoiacGreat
open Go.RowKit

structure DoneAt (c : Nat) (w x1 z : World) (nv : Nat → Value) (s : NodeL) (who : Int) (m : Nat) (b5 : Option Addr) (d5 : Nat) (b6 : Option Addr) (d6 : Nat) (D : Nat) : Prop where
  node : NodeAt c x1 nv s
  below : Near c w x1
  step : Below x1.heap.size x1 z
  row : z.heap[D]? = some (.cells #[.int .i64 5, .int .i64 who, .int .i64 m, .slice none 0 0, .slice none 0 0, .slice b5 (s.ent m).ats.length d5, .slice b6 (s.ent m).vals.length d6] 123 (0, 0))
  kn : z.heap[x1.heap.size]? = some (.cells #[.int .i64 4, .int .i64 who, .int .i64 m, .slice none 0 0, .slice none 0 0, .slice none 0 0, .slice none 0 0] 123 (0, 0))
  dx : x1.heap.size < D
  wx : w.heap.size ≤ x1.heap.size
  own5 : z.ownsRow (D + 1) 3 1 (.slice b5 (s.ent m).ats.length d5) (s.ent m).ats.length (intCells (s.ent m).ats)
  own6 : z.ownsRow (D + 1) 3 1 (.slice b6 (s.ent m).vals.length d6) (s.ent m).vals.length (intCells (s.ent m).vals)
section
variable {c m D d5 d6 : Nat} {w x1 z : World} {nv : Nat → Value} {s : NodeL} {who : Int} {b5 b6 : Option Addr}
theorem DoneAt.known (h : DoneAt c w x1 z nv s who m b5 d5 b6 d6 D) (hB : w.heap.size ≤ x1.heap.size) : z.ownsRow w.heap.size 123 7 (.slice (some ⟨x1.heap.size, 0, none⟩) 1 1) 1 [.int .i64 4, .int .i64 who, .int .i64 m, .slice none 0 0, .slice none 0 0, .slice none 0 0, .slice none 0 0] :=
  ⟨rfl, Or.inr ⟨x1.heap.size, 1, _, rfl, hB, h.kn, Nat.le_refl _, by decide, rfl, rfl⟩⟩
end
end Go.Proofs.YtkoefoccbjhoiacGreat

namespace Go.Proofs.YtkoefoccbjhoiacGreat
open Go.RowKit

/-- And out of it again, into the result's box. -/
theorem NodeAt.out {c : Nat} {w : World} {nv : Nat → Value} {s : NodeL} (h : NodeAt c w nv s) (hl : s.order.length * 8 ≤ 140737488355328) (r : Array Value) : NodeC (c + 2 < ·) (w.setRow (c + 2) r) nv s := by
  have hs : ∀ k, k ≠ c + 2 → (w.setRow (c + 2) r).heap[k]? = w.heap[k]? := fun k hk => setRow_other _ _ hk
  have h1 : NodeC (c + 2 < ·) w nv s := ⟨h.node.mono (fun b _ hb => hb.1), (IsI.of_owns h.order hl).mono (fun b _ hb => by have := hb.1; omega)⟩
  exact h1.later (fun b _ hb => hs b (by omega))

end Go.Proofs.YtkoefoccbjhoiacGreat

namespace Go.Proofs.YtkoefoccbjhoiacGreat
open Go.RowKit

end Go.Proofs.YtkoefoccbjhoiacGreat

namespace Go.Proofs.YtkoefoccbjhoiacGreat
open Go.RowKit

theorem OpsAt.get {w wr : World} {a : Option Addr} {zs : List OpL} (h : OpsAt w a zs) (hB : Below w.heap.size w wr) {k : Nat} (hk : k < zs.length) : ∃ q0 q1 q2 : Int, Hid (zs.getD k (0, 0, 0) = (q0, q1, q2)) ∧ ∃ b off, a = some ⟨b, off, none⟩ ∧
    wr.cell? ⟨b, off + k * 3, none⟩ = some (.int .i64 q0) ∧ wr.cell? ⟨b, off + k * 3 + 1, none⟩ = some (.int .i64 q1) ∧ wr.cell? ⟨b, off + k * 3 + 2, none⟩ = some (.int .i64 q2) := by
  rcases h with rfl | ⟨b, off, rfl, hb, hc⟩
  · simp at hk
  · obtain ⟨q0, q1, q2, h0, h1, h2, h3⟩ := OpsAt.at hc hb hB hk
    exact ⟨q0, q1, q2, h0, b, off, rfl, h1, h2, h3⟩
end Go.Proofs.YtkoefoccbjhoiacGreat

namespace Go.Proofs.YtkoefoccbjhoiacGreat
open Go.RowKit
attribute [local go_sem ↓] Go.wp_at_zero Go.wp_at_succ

end Go.Proofs.YtkoefoccbjhoiacGreat

namespace Go.Proofs.YtkoefoccbjhoiacGreat
open Go.RowKit

end Go.Proofs.YtkoefoccbjhoiacGreat

namespace Go.Proofs.YtkoefoccbjhoiacGreat
open Go.RowKit

/-- P5.4. -/
def replayFrom (who : Int) : NodeL → List (List UInt8) → NodeL × Int
  | s, [] => (s, 0)
  | s, t :: r => if decE t ≠ 0 then (zeroN, decE t) else if (takeN s who (decL t)).2.2 ≠ 0 then (zeroN, (takeN s who (decL t)).2.2) else replayFrom who (takeN s who (decL t)).1 r
def replayN (who : Int) (l : List (List UInt8)) : NodeL × Int := if nodeB who = false then (zeroN, 2) else replayFrom who zeroN l

/-- A list of texts in memory. -/
def TxIn (B : Nat) (w : World) (a : Option Addr) (zs : List (List UInt8)) : Prop := zs = [] ∨ ∃ b off, a = some ⟨b, off, none⟩ ∧ b < B ∧ ∀ i, i < zs.length → w.cell? ⟨b, off + i, none⟩ = some (.string (str (zs.getD i [])))
theorem TxIn.later {B : Nat} {w w' : World} {a : Option Addr} {zs : List (List UInt8)} (h : TxIn B w a zs) (hb : Below B w w') : TxIn B w' a zs := by
  rcases h with h | ⟨b, off, ha, hlt, hc⟩
  · exact Or.inl h
  · exact Or.inr ⟨b, off, ha, hlt, fun i hi => by rw [hb.cell (p := ⟨b, off + i, none⟩) hlt]; exact hc i hi⟩
theorem results_row1 {P : Program} {fn : Func} {p q : Tmp} {ty : TypeId} (h : fn.results = #[.cell p ty, .tmp q]) (tmps : Array Value) (w : World) (g : Nat) (t : TypeId) (cs : Array Value) (fr : Nat × Nat) (d : TypeDesc)
    (hp : tmps.getD p undef = .pointer (some ⟨g, 0, none⟩)) (hg : w.heap[g]? = some (.cells cs t fr)) (hu : P.underlying ty = some d) (hd : (match d with | .struct _ | .array _ _ => true | _ => false) = true) (hi : (P.info? ty).map (·.size) = some cs.size)
    (x : Value) (hx : tmps.getD q undef = x) : (results fn tmps).run P w = .ok (.tuple #[.agg cs, x]) w := by
  have hp' : tmps[p]?.getD undef = .pointer (some ⟨g, 0, none⟩) := by simpa using hp
  have hx' : tmps[q]?.getD undef = x := by simpa using hx
  simp [results, h, hp', hx', asAddr, run_loadVar_row w g t ty cs fr d hg hu hd hi]

end Go.Proofs.YtkoefoccbjhoiacGreat

namespace Go.Proofs.YtkoefoccbjhoiacGreat
open Go.RowKit

theorem replay_snoc {who : Int} : ∀ {zs : List (List UInt8)} {s0 s : NodeL} {t : List UInt8}, replayFrom who s0 zs = (s, 0) → decE t = 0 → (takeN s who (decL t)).2.2 = 0 → replayFrom who s0 (zs ++ [t]) = ((takeN s who (decL t)).1, 0)
  | [], s0, s, t, h, hd, ht => by
    have e : s0 = s := congrArg Prod.fst h
    subst e
    simp only [List.nil_append, replayFrom]
    rw [if_neg (by rw [hd]; decide), if_neg (by rw [ht]; decide)]
  | z :: zs, s0, s, t, h, hd, ht => by
    unfold replayFrom at h
    rw [List.cons_append]
    conv => lhs; unfold replayFrom
    by_cases h1 : decE z ≠ 0
    · rw [if_pos h1] at h
      exact absurd (congrArg Prod.snd h) h1
    · rw [if_neg h1] at h ⊢
      by_cases h2 : (takeN s0 who (decL z)).2.2 ≠ 0
      · rw [if_pos h2] at h
        exact absurd (congrArg Prod.snd h) h2
      · rw [if_neg h2] at h ⊢
        exact replay_snoc h hd ht
theorem taken_good {s : NodeL} {who : Int} {f : FrameL} (h : (takeN s who f).2.2 = 0) : goodL f = 0 := by
  rcases take_cases s who f with ⟨h1, _⟩ | ⟨_, hf, _⟩
  · exact absurd h h1
  · exact hf
theorem replay_taken {who : Int} {zs : List (List UInt8)} {s : NodeL} {f : FrameL} (h : replayFrom who zeroN zs = (s, 0)) (ht : (takeN s who f).2.2 = 0) : replayFrom who zeroN (zs ++ [encL f]) = ((takeN s who f).1, 0) := by
  obtain ⟨o1, o2⟩ := ok_put (taken_good ht)
  have := replay_snoc (t := encL f) h (by unfold decE; rw [if_pos o1]) (by rw [o2]; exact ht)
  rw [o2] at this
  exact this

end Go.Proofs.YtkoefoccbjhoiacGreat

namespace Go.Proofs.YtkoefoccbjhoiacGreat
open Go.RowKit

/-- a text that may be a record -/
def RecOk (s : List UInt8) : Prop := 0 < s.length ∧ s.length ≤ 400
/-- the two bytes ahead of a record -/
def hd (s : List UInt8) : List UInt8 := [byt ((s.length : Int) / 256), byt ((s.length : Int) % 256)]
/-- a record, as it is written -/
def rc (s : List UInt8) : List UInt8 := hd s ++ s
/-- records, as they are written -/
def recs (l : List (List UInt8)) : List UInt8 := l.flatMap rc
/-- the log begins with no record -/
def NoRec (l : List UInt8) : Prop := ∀ s t, RecOk s → l ≠ rc s ++ t

theorem rc_len (s : List UInt8) : (rc s).length = s.length + 2 := by simp [rc, hd]
theorem recs_nil : recs [] = [] := rfl
theorem recs_cons (s : List UInt8) (l : List (List UInt8)) : recs (s :: l) = rc s ++ recs l := by simp [recs]
theorem recs_app (l m : List (List UInt8)) : recs (l ++ m) = recs l ++ recs m := by simp [recs]
theorem recs_one (s : List UInt8) : recs [s] = rc s := by simp [recs]

/-- what the two bytes ahead of a record say -/
theorem hd_get (s : List UInt8) (h : s.length ≤ 400) : ∃ a b : UInt8, hd s = [a, b] ∧ s.length = a.toNat * 256 + b.toNat := by
  refine ⟨_, _, rfl, ?_⟩
  have e1 := byt_nat (n := (s.length : Int) / 256) (by omega) (by omega)
  have e2 := byt_nat (n := (s.length : Int) % 256) (by omega) (by omega)
  omega

theorem no_short {l : List UInt8} (h : l.length < 2) : NoRec l := by
  intro s t _ e
  have := congrArg List.length e
  rw [List.length_append, rc_len] at this
  omega

/-- a record that is cut off is none -/
theorem no_cut {s : List UInt8} {n : Nat} (hs : RecOk s) (hn : n < s.length + 2) : NoRec ((rc s).take n) := by
  obtain ⟨a, b, e, hl⟩ := hd_get s hs.2
  intro u t hu h
  obtain ⟨a', b', e', hl'⟩ := hd_get u hu.2
  have hlen := congrArg List.length h
  rw [List.length_take, rc_len, List.length_append, rc_len] at hlen
  unfold rc at h
  rw [e, e'] at h
  match n, h with
  | 0, h => simp at h
  | 1, h => simp at h
  | n + 2, h =>
    simp at h
    obtain ⟨rfl, rfl, _⟩ := h
    omega

/-- what Write says, and what it makes -/
def wErr (l s : List UInt8) : Int := if 65536 < l.length then 2 else if s.length = 0 ∨ 400 < s.length then 1 else if 65536 < l.length + s.length + 2 then 5 else 0
def wOut (l s : List UInt8) : List UInt8 := if wErr l s = 0 then l ++ rc s else l
def tearL (l s : List UInt8) (n : Int) : List UInt8 := if wErr l s = 0 then l ++ (rc s).take n.toNat else l

end Go.Proofs.YtkoefoccbjhoiacGreat

namespace Go.Proofs.YtkoefoccbjhoiacGreat
open Go.RowKit

structure CluL where
  up : Nat → Bool
  st : Nat → NodeL
  log : Nat → List UInt8
  tear : Nat → Option Int
  cs : Nat → CaseL
  cnt : Nat
  net : List (List UInt8)
/-- P7.2: SENT. -/
def sentTo (net : List (List UInt8)) (l : List FrameL) : List (List UInt8) := l.foldl (fun net f => if net.length < 60 then net ++ [encL f] else net) net
theorem mem_sent : ∀ (l : List FrameL) (net : List (List UInt8)) (t : List UInt8), t ∈ sentTo net l → t ∈ net ∨ ∃ f ∈ l, t = encL f
  | [], _, _, h => Or.inl h
  | f :: l, net, t, h => by
    rcases mem_sent l (if net.length < 60 then net ++ [encL f] else net) t h with h1 | ⟨g, hg, h1⟩
    · split at h1
      · rcases List.mem_append.1 h1 with h1 | h1
        · exact Or.inl h1
        · exact Or.inr ⟨f, by simp, by simpa using h1⟩
      · exact Or.inl h1
    · exact Or.inr ⟨g, by simp [hg], h1⟩
/-- What only grows. -/
structure GrowsS (S T : Sys) : Prop where
  late : ∀ a b, a < 32 → b < 32 → Late S a b → Late T a b
  did : ∀ n, n < 6 → ∃ l, (T.B n).did = (S.B n).did ++ l
theorem GrowsS.refl (S : Sys) : GrowsS S S := ⟨fun _ _ _ _ h => h, fun _ _ => ⟨[], by simp⟩⟩
theorem GrowsS.trans {S T U : Sys} (h : GrowsS S T) (k : GrowsS T U) : GrowsS S U := by
  refine ⟨fun a b ha hb L => k.late a b ha hb (h.late a b ha hb L), fun n hn => ?_⟩
  obtain ⟨l, e⟩ := h.did n hn
  obtain ⟨m, e'⟩ := k.did n hn
  exact ⟨l ++ m, by rw [e', e, List.append_assoc]⟩
/-- A node's log: whole records, and maybe one that is cut off; what they come to. -/
def LogIs (S : Sys) (c : CluL) (n : Nat) : Prop :=
  ∃ rs t, c.log n = recs rs ++ t ∧ (∀ s ∈ rs, RecOk s) ∧ NoRec t ∧ replayFrom (n : Int) zeroN rs = (S.B n, 0) ∧ (c.up n = true → t = [] ∧ c.st n = S.B n) ∧ (c.up n = false → c.st n = zeroN ∧ c.tear n = none)
structure InvM (c : CluL) (S : Sys) : Prop where
  t : InvT S
  u : InvU S
  good : ∀ f, S.M f → goodL f = 0
  bound : ∀ n, n < 6 → WithN (S.B n)
  net : ∀ t ∈ c.net, ∃ f, S.M f ∧ t = encL f
  cs : c.cs = S.C
  log : ∀ n, n < 6 → LogIs S c n
  cnt : c.cnt ≤ 32 ∧ ∀ i, i < 32 → ((S.C i).begun = true ↔ i < c.cnt)

/-- P7.6: what comes to a node. -/
def come (c : CluL) (f : FrameL) : CluL × Int :=
  if c.up f.node.toNat = false then (c, 6)
  else if (takeN (c.st f.node.toNat) f.node f).2.2 ≠ 0 then (c, (takeN (c.st f.node.toNat) f.node f).2.2)
  else match c.tear f.node.toNat with
    | some m => ({ c with log := upd c.log f.node.toNat (tearL (c.log f.node.toNat) (encL f) m), up := upd c.up f.node.toNat false, st := upd c.st f.node.toNat zeroN, tear := upd c.tear f.node.toNat none }, 6)
    | none =>
      if wErr (c.log f.node.toNat) (encL f) ≠ 0 then (c, wErr (c.log f.node.toNat) (encL f))
      else ({ c with log := upd c.log f.node.toNat (wOut (c.log f.node.toNat) (encL f)), st := upd c.st f.node.toNat (takeN (c.st f.node.toNat) f.node f).1, net := sentTo c.net (takeN (c.st f.node.toNat) f.node f).2.1 }, 0)
theorem GrowsS.took {S : Sys} (h : InvT S) {f : FrameL} (hM : S.M f) (hk : f.kind = 1 ∨ f.kind = 3) (h0 : (takeN (S.B f.node.toNat) f.node f).2.2 = 0) : GrowsS S (S.took f) := by
  obtain ⟨hr1, _⟩ := h.s.rng f hM
  have hn6 : f.node.toNat < 6 := by omega
  refine ⟨fun a b ha hb L => L.node h ha hb hM hk h0 _, fun n hn => ?_⟩
  show ∃ l, (upd S.B f.node.toNat (takeN (S.B f.node.toNat) f.node f).1 n).did = _
  by_cases e : n = f.node.toNat
  · subst e
    rw [upd_same]
    obtain ⟨l, e⟩ := (take_keeps (S.B f.node.toNat) f.node f (h.state _ hn6)).order
    exact ⟨l.map Int.toNat, by unfold NodeL.did; rw [e, List.map_append]⟩
  · rw [upd_other _ _ e]
    exact ⟨[], by simp⟩
theorem no_nil : NoRec [] := no_short (by simp)
theorem enc_ok {f : FrameL} (h : goodL f = 0) : RecOk (encL f) := by
  obtain ⟨h1, h2⟩ := enc_len h
  exact ⟨by omega, by omega⟩
/-- A log that becomes another, at one node. -/
theorem log_other {S T : Sys} {c d : CluL} {n k : Nat} (h : LogIs S c n) (_hne : n ≠ k) (hB : T.B n = S.B n) (hl : d.log n = c.log n) (hu : d.up n = c.up n) (hs : d.st n = c.st n) (ht : d.tear n = c.tear n) : LogIs T d n := by
  unfold LogIs
  rw [hB, hl, hu, hs, ht]
  exact h
theorem InvM.come {c : CluL} {S : Sys} (h : InvM c S) {f : FrameL} (hM : S.M f) (hk : f.kind = 1 ∨ f.kind = 3) : ∃ T, InvM (come c f).1 T ∧ GrowsS S T := by
  obtain ⟨hr1, _⟩ := h.t.s.rng f hM
  have hn6 : f.node.toNat < 6 := by omega
  have hnat : (f.node.toNat : Int) = f.node := by omega
  have hg := h.good f hM
  unfold Go.Proofs.YtkoefoccbjhoiacGreat.come
  split
  · exact ⟨S, h, GrowsS.refl S⟩
  · rename_i hu
    have hu : c.up f.node.toNat = true := by simpa using hu
    split
    · exact ⟨S, h, GrowsS.refl S⟩
    · rename_i h0
      have h0 : (takeN (c.st f.node.toNat) f.node f).2.2 = 0 := by
        by_cases e : (takeN (c.st f.node.toNat) f.node f).2.2 = 0
        · exact e
        · exact absurd e h0
      obtain ⟨rs, t, l1, l2, l3, l4, l5, _⟩ := h.log _ hn6
      obtain ⟨rfl, est⟩ := l5 hu
      rw [List.append_nil] at l1
      rw [est] at h0 ⊢
      have hT : InvT (S.took f) := h.t.node hM hk h0
      have hU : InvU (S.took f) := InvU.node h.t h.u hM hk h0
      have hG := GrowsS.took h.t hM hk h0
      have rep : replayFrom (f.node.toNat : Int) zeroN (rs ++ [encL f]) = ((takeN (S.B f.node.toNat) f.node f).1, 0) := by
        rw [hnat] at l4 ⊢
        exact replay_taken l4 h0
      have bnd : ∀ n, n < 6 → WithN ((S.took f).B n) := fun n hn => by
        show WithN (upd S.B f.node.toNat _ n)
        by_cases e : n = f.node.toNat
        · rw [e, upd_same]; exact with_take (h.bound _ hn6)
        · rw [upd_other _ _ e]; exact h.bound n hn
      have gd : ∀ g, (S.took f).M g → goodL g = 0 := fun g hg => by
        rcases hg with hg | hg
        · exact h.good g hg
        · exact (take_sends_good (h.bound _ hn6) g hg).1
      have Bo : ∀ n, n ≠ f.node.toNat → (S.took f).B n = S.B n := fun n e => upd_other _ _ e
      have Bs : (S.took f).B f.node.toNat = (takeN (S.B f.node.toNat) f.node f).1 := upd_same _ _ _
      have rok : ∀ s ∈ rs ++ [encL f], RecOk s := fun s hs => by
        rcases List.mem_append.1 hs with hs | hs
        · exact l2 s hs
        · rw [List.mem_singleton.1 hs]; exact enc_ok hg
      split
      · rename_i m hm
        by_cases hw : wErr (c.log f.node.toNat) (encL f) = 0 ∧ (encL f).length + 2 ≤ m.toNat
        · -- it is written as a whole
          refine ⟨S.took f, ⟨hT, hU, gd, bnd, fun t ht => ?_, h.cs, fun n hn => ?_, h.cnt⟩, hG⟩
          · obtain ⟨g, hg1, hg2⟩ := h.net t ht
            exact ⟨g, Or.inl hg1, hg2⟩
          · by_cases e : n = f.node.toNat
            · subst e
              refine ⟨rs ++ [encL f], [], ?_, rok, no_nil, by rw [Bs]; exact rep, fun e => ?_, fun _ => ⟨upd_same _ _ _, upd_same _ _ _⟩⟩
              · show upd c.log f.node.toNat _ f.node.toNat = _
                rw [upd_same]
                unfold tearL
                rw [if_pos hw.1, l1, List.take_of_length_le (by rw [rc_len]; exact hw.2), recs_app, recs_one, List.append_nil]
              · have e : upd c.up f.node.toNat false f.node.toNat = true := e
                rw [upd_same] at e; cases e
            · exact log_other (h.log n hn) e (Bo n e) (upd_other _ _ e) (upd_other _ _ e) (upd_other _ _ e) (upd_other _ _ e)
        · -- it is cut off, or not written at all
          refine ⟨S, ⟨h.t, h.u, h.good, h.bound, h.net, h.cs, fun n hn => ?_, h.cnt⟩, GrowsS.refl S⟩
          by_cases e : n = f.node.toNat
          · subst e
            have hdown : upd c.up f.node.toNat false f.node.toNat = true → False := fun e => by rw [upd_same] at e; cases e
            by_cases hw0 : wErr (c.log f.node.toNat) (encL f) = 0
            · refine ⟨rs, (rc (encL f)).take m.toNat, ?_, l2, no_cut (enc_ok hg) ?_, l4, fun e => (hdown e).elim, fun _ => ⟨upd_same _ _ _, upd_same _ _ _⟩⟩
              · show upd c.log f.node.toNat _ f.node.toNat = _
                rw [upd_same]
                unfold tearL
                rw [if_pos hw0, l1]
              · by_cases e : m.toNat < (encL f).length + 2
                · exact e
                · exact absurd ⟨hw0, by omega⟩ hw
            · refine ⟨rs, [], ?_, l2, no_nil, l4, fun e => (hdown e).elim, fun _ => ⟨upd_same _ _ _, upd_same _ _ _⟩⟩
              show upd c.log f.node.toNat _ f.node.toNat = _
              rw [upd_same]
              unfold tearL
              rw [if_neg hw0, l1, List.append_nil]
          · exact log_other (h.log n hn) e rfl (upd_other _ _ e) (upd_other _ _ e) (upd_other _ _ e) (upd_other _ _ e)
      · split
        · exact ⟨S, h, GrowsS.refl S⟩
        · rename_i hw
          have hw : wErr (c.log f.node.toNat) (encL f) = 0 := by
            by_cases e : wErr (c.log f.node.toNat) (encL f) = 0
            · exact e
            · exact absurd e hw
          refine ⟨S.took f, ⟨hT, hU, gd, bnd, fun t ht => ?_, h.cs, fun n hn => ?_, h.cnt⟩, hG⟩
          · rcases mem_sent _ _ _ ht with ht | ⟨g, hg1, hg2⟩
            · obtain ⟨g, hg1, hg2⟩ := h.net t ht
              exact ⟨g, Or.inl hg1, hg2⟩
            · exact ⟨g, Or.inr hg1, hg2⟩
          · by_cases e : n = f.node.toNat
            · subst e
              refine ⟨rs ++ [encL f], [], ?_, rok, no_nil, by rw [Bs]; exact rep, fun _ => ⟨rfl, ?_⟩, fun e => ?_⟩
              · show upd c.log f.node.toNat _ f.node.toNat = _
                rw [upd_same]
                unfold wOut
                rw [if_pos hw, l1, recs_app, recs_one, List.append_nil]
              · show upd c.st f.node.toNat _ f.node.toNat = _
                rw [upd_same, Bs]
              · have e : c.up f.node.toNat = false := e
                rw [hu] at e; cases e
            · exact log_other (h.log n hn) e (Bo n e) (upd_other _ _ e) rfl (upd_other _ _ e) rfl

end Go.Proofs.YtkoefoccbjhoiacGreat
