/-
  The contracts of slices.Clone over ints and over operations.
  The contract of node's separate: a state whose lists are rows of the call's own.
-/
import Derived.Test.YtgdkjjmnoikhdabRep9
import Derived.OwnWalk
import Derived.ArgAppend
import Derived.Lib.SliceRun
namespace Go.Proofs.Ytgdkjjmnoikhdab
open Go.RowKit

/-- A clone: a row of the call's own; of nothing no room. -/
def CloneI (w w' : World) (v : Value) (zs : List Int) : Prop := w'.ownsRow w.heap.size 3 1 v zs.length (intCells zs) ∧ (zs.length = 0 → ∃ a, v = .slice a 0 0) ∧ Below w.heap.size w w'
def CloneO (w w' : World) (v : Value) (zs : List OpL) : Prop := w'.ownsRow w.heap.size 88 3 v zs.length (opsCells zs) ∧ (zs.length = 0 → ∃ a, v = .slice a 0 0) ∧ Below w.heap.size w w'


theorem intCells_one (zs : List Int) : ∀ u ∈ intCells zs, u.oneCell' = true := by
  intro u hu
  obtain ⟨n, _, rfl⟩ := List.mem_map.1 hu
  rfl
theorem opsCells_one (zs : List OpL) : ∀ u ∈ opsCells zs, u.oneCell' = true := by
  intro u hu
  obtain ⟨o, _, h⟩ := List.mem_flatMap.1 hu
  simp [opCells] at h
  rcases h with rfl | rfl | rfl <;> rfl
/-- The cells of a list that lay there lie there still. -/
theorem IntsAt.news {w w1 : World} {ad : Addr} {zs : List Int} (h : IntsAt w.heap.size w (some ad) zs) (hb : Below w.heap.size w w1) : ∀ j u, (intCells zs)[j]? = some u → w1.cell? (ad.add j) = some u := by
  intro j u hu
  rcases h with rfl | ⟨b, off, hb', hlt, hc⟩
  · simp [intCells] at hu
  · obtain rfl : ad = ⟨b, off, none⟩ := by simpa using hb'
    have hj : j < zs.length := by
      obtain ⟨hj, _⟩ := List.getElem?_eq_some_iff.1 hu
      simpa [intCells] using hj
    rw [add_none, hb.cell (p := ⟨b, off + j, none⟩) hlt, hc j hj]
    simp [intCells, hj] at hu
    simp [List.getD, hj, hu]
theorem OpsAt.news {w w1 : World} {ad : Addr} {zs : List OpL} (h : OpsAt w (some ad) zs) (hb : Below w.heap.size w w1) : ∀ j u, (opsCells zs)[j]? = some u → w1.cell? (ad.add j) = some u := by
  intro j u hu
  rcases h with rfl | ⟨b, off, hb', hlt, hc⟩
  · simp [opsCells] at hu
  · obtain rfl : ad = ⟨b, off, none⟩ := by simpa using hb'
    have hj : j < zs.length * 3 := by
      obtain ⟨hj, _⟩ := List.getElem?_eq_some_iff.1 hu
      rw [opsCells_len] at hj
      exact hj
    obtain ⟨g0, g1, g2⟩ := opsCells_get zs (j / 3) (by omega)
    obtain ⟨c0, c1, c2⟩ := hc (j / 3) (by omega)
    rw [add_none, hb.cell (p := ⟨b, off + j, none⟩) hlt]
    have h3 : j = j / 3 * 3 ∨ j = j / 3 * 3 + 1 ∨ j = j / 3 * 3 + 2 := by omega
    rcases h3 with e | e | e
    · rw [e] at hu ⊢; rw [c0]; rw [g0] at hu; exact hu
    · rw [e] at hu ⊢; rw [← Nat.add_assoc, c1]; rw [g1] at hu; exact hu
    · rw [e] at hu ⊢; rw [← Nat.add_assoc, c2]; rw [g2] at hu; exact hu

set_option maxRecDepth 100000 in
set_option maxHeartbeats 400000 in
theorem cloneI_any (a : Option Addr) (cap : Nat) (zs : List Int) (w : World) (h : SlInts w a cap zs) (hl : zs.length * 8 ≤ 140737488355328) :
    Calls Try.prog 66 #[.slice a zs.length cap] w fun e w' => ∃ v, e = .returned v ∧ CloneI w w' v zs := by
  obtain ⟨i0, hi, hz0, hz1, hz2⟩ := info_parts Try.infoInt
  have he := fun w => Go.Lib.run_eql_slice_nil (P := Try.prog) w 23 3 a zs.length cap 0 0 Try.underlying23
  cases a with
  | none =>
    obtain ⟨h1, rfl⟩ := h.2.2.2 rfl
    obtain rfl := List.eq_nil_of_length_eq_zero h1
    simp only [Option.isNone_none, List.length_nil] at he
    go_enter Try.func66, Try.ntmps66
    go_wp2
    go_ret
    exact ⟨_, rfl, World.ownsRow_nil _ _ _ _, fun _ => ⟨_, rfl⟩, Below.refl _ _⟩
  | some ad =>
    simp only [Option.isNone_some] at he
    obtain ⟨hz, hm, hc, _⟩ := h
    have HB : Hid (Below w.heap.size w (w.alloc (.cells #[] 3))) := (Below.refl _ _).alloc (Nat.le_refl _) _
    have HZ : Hid (IntsAt w.heap.size w (some ad) zs) := hz
    clear hz
    by_cases h0 : zs.length = 0
    · obtain rfl := List.eq_nil_of_length_eq_zero h0
      simp only [List.length_nil] at he
      go_enter Try.func66, Try.ntmps66
      go_wp2_with (first
        | (at_builtin; refine wpList_append_fits_any _ rfl _ _ 23 rfl w.heap.size 3 i0 1 Try.underlying23 hi hz1 w.heap.size 0 0 [] rfl (World.ownsRow_made (e := 3) (size := 1) w #[] 0 (Nat.le_refl _) (by decide) rfl) (some ad) 0 cap [] rfl rfl (fun h => by cases h) (fun _ _ j u hj => by simp at hj) (by simp) (Nat.le_refl _) ?_; intro w2 hown hg)
        | go_in)
      go_wp2
      go_ret
      exact ⟨_, rfl, hown, fun _ => ⟨_, rfl⟩, HB.out.grown hg (by rw [size_push]; omega) (by intro k hk; cases hk; exact Nat.le_refl _)⟩
    · go_enter Try.func66, Try.ntmps66
      go_wp2_with (first
        | (at_builtin; refine wpList_append_own _ rfl _ _ 23 rfl w.heap.size 3 i0 (.int .i64 0) 1 8 Try.underlying23 hi hz0 hz1 hz2 rfl (by decide) _ _ _ rfl (World.ownsRow_made (e := 3) (size := 1) w #[] 0 (Nat.le_refl _) (by decide) rfl) ad zs.length cap (intCells zs) rfl ?c1 ?c2 ?c3 ?c4 ?c5 ?c6 ?_)
        | go_in)
      case c1 => simp [intCells]
      case c2 => exact HZ.out.news HB.out
      case c3 => exact intCells_one zs
      case c4 => unfold maxLen; omega
      case c5 => omega
      case c6 => rw [size_push]; omega
      · intro v' w2 hown hg _
        go_wp2
        go_ret
        refine ⟨_, rfl, ?_, fun h => absurd h h0, HB.out.grown hg (by rw [size_push]; omega) (by intro k hk; cases hk; exact Nat.le_refl _)⟩
        simpa using hown

set_option maxRecDepth 100000 in
set_option maxHeartbeats 400000 in
theorem cloneO_any (a : Option Addr) (cap : Nat) (zs : List OpL) (w : World) (h : SlOps w a cap zs) (hl : zs.length * 24 ≤ 140737488355328) :
    Calls Try.prog 72 #[.slice a zs.length cap] w fun e w' => ∃ v, e = .returned v ∧ CloneO w w' v zs := by
  obtain ⟨i0, hi, hz0, hz1, hz2⟩ := info_parts Try.infoOp
  have he := fun w => Go.Lib.run_eql_slice_nil (P := Try.prog) w 35 88 a zs.length cap 0 0 Try.underlying35
  cases a with
  | none =>
    obtain ⟨h1, rfl⟩ := h.2.2.2 rfl
    obtain rfl := List.eq_nil_of_length_eq_zero h1
    simp only [Option.isNone_none, List.length_nil] at he
    go_enter Try.func72, Try.ntmps72
    go_wp2
    go_ret
    exact ⟨_, rfl, World.ownsRow_nil _ _ _ _, fun _ => ⟨_, rfl⟩, Below.refl _ _⟩
  | some ad =>
    simp only [Option.isNone_some] at he
    obtain ⟨hz, hm, hc, _⟩ := h
    have HB : Hid (Below w.heap.size w (w.alloc (.cells #[] 88))) := (Below.refl _ _).alloc (Nat.le_refl _) _
    have HZ : Hid (OpsAt w (some ad) zs) := hz
    clear hz
    by_cases h0 : zs.length = 0
    · obtain rfl := List.eq_nil_of_length_eq_zero h0
      simp only [List.length_nil] at he
      go_enter Try.func72, Try.ntmps72
      go_wp2_with (first
        | (at_builtin; refine wpList_append_fits_any _ rfl _ _ 35 rfl w.heap.size 88 i0 3 Try.underlying35 hi hz1 w.heap.size 0 0 [] rfl (World.ownsRow_made (e := 88) (size := 3) w #[] 0 (Nat.le_refl _) (by decide) rfl) (some ad) 0 cap [] rfl rfl (fun h => by cases h) (fun _ _ j u hj => by simp at hj) (by simp) (Nat.le_refl _) ?_; intro w2 hown hg)
        | go_in)
      go_wp2
      go_ret
      exact ⟨_, rfl, hown, fun _ => ⟨_, rfl⟩, HB.out.grown hg (by rw [size_push]; omega) (by intro k hk; cases hk; exact Nat.le_refl _)⟩
    · go_enter Try.func72, Try.ntmps72
      go_wp2_with (first
        | (at_builtin; refine wpList_append_own _ rfl _ _ 35 rfl w.heap.size 88 i0 (.agg #[.int .i64 0, .int .i64 0, .int .i64 0]) 3 24 Try.underlying35 hi hz0 hz1 hz2 rfl (by decide) _ _ _ rfl (World.ownsRow_made (e := 88) (size := 3) w #[] 0 (Nat.le_refl _) (by decide) rfl) ad zs.length cap (opsCells zs) rfl ?c1 ?c2 ?c3 ?c4 ?c5 ?c6 ?_)
        | go_in)
      case c1 => exact opsCells_len zs
      case c2 => exact HZ.out.news HB.out
      case c3 => exact opsCells_one zs
      case c4 => unfold maxLen; omega
      case c5 => omega
      case c6 => rw [size_push]; omega
      · intro v' w2 hown hg _
        go_wp2
        go_ret
        refine ⟨_, rfl, ?_, fun h => absurd h h0, HB.out.grown hg (by rw [size_push]; omega) (by intro k hk; cases hk; exact Nat.le_refl _)⟩
        simpa using hown

end Go.Proofs.Ytgdkjjmnoikhdab

namespace Go.Proofs.Ytgdkjjmnoikhdab
open Go.RowKit

/-- A new variable of a type whose zero value is known. -/
theorem wpList_alloc_as {P : Program} {w : World} {ops : Array Oper} {rest : List Oper} {o : Oper} {a : Act} {Q : Exit → Act → World → Prop} (hg : o.guard = none) (ty : TypeId) (ho : o.op = .alloc ty) (cs : Array Value) (hz : (P.info? ty).map (·.zero) = some (some (.agg cs)))
    (h : wpList P ops Q rest (a.put o.dst (.pointer (some ⟨w.heap.size, 0, none⟩))) (w.alloc (.cells cs ty))) : wpList P ops Q (o :: rest) a w := by
  refine wpList_plain hg fun K hK => ?_
  cases hq : P.info? ty with
  | none => simp [hq] at hz
  | some i =>
    have hzz : i.zero = some (.agg cs) := by simpa [hq] using hz
    unfold Oper.wp execOp
    simp [ho, Instr.alloc, zeroValue, typeInfo, hq, hzz, newVar, newRow, Value.cells, go_sem]
    exact hK _ _ h

/-- The cells of a node that is nothing. -/
def zv (i : Nat) : Value := if i < 192 then (if i % 6 = 0 then .int .i64 0 else .slice none 0 0) else if i = 192 then .slice none 0 0 else .int .i64 0
theorem Try.zeroNode : (Try.prog.info? 41).map (·.zero) = some (some (.agg (rowF 201 zv))) := by kernel_rfl
theorem zero_node (ok : Nat → Prop) (w : World) : NodeC ok w zv zeroN := by
  refine ⟨⟨fun i hi => ?_, fun k hk => ?_⟩, ?_⟩
  · have h1 : ∀ j, 0 < j → j < 6 → zv (i * 6 + j) = .slice none 0 0 := by
      intro j h0 hj
      unfold zv
      rw [if_pos (by omega), if_neg (by omega)]
    refine ⟨?_, ?_, ?_, ?_, ?_, ?_⟩
    · unfold zv
      rw [if_pos (by omega), if_pos (by omega)]
      rfl
    · rw [h1 1 (by omega) (by omega)]; exact IsO.nil _ _
    · rw [h1 2 (by omega) (by omega)]; exact IsI.nil _ _
    · rw [h1 3 (by omega) (by omega)]; exact IsI.nil _ _
    · rw [h1 4 (by omega) (by omega)]; exact IsI.nil _ _
    · rw [h1 5 (by omega) (by omega)]; exact IsI.nil _ _
  · unfold zv
    rw [if_neg (by omega), if_neg (by omega)]
    rfl
  · exact IsI.nil _ _

/-- A list's value: its block is behind r; what is empty has no room. -/
def Fresh (r : Nat) (v : Value) : Prop := (∀ b, v.ownBlock = some b → r < b) ∧ ∀ a cap, v = .slice a 0 cap → cap = 0
theorem CloneI.fresh {r : Nat} {w w' : World} {v : Value} {zs : List Int} (h : CloneI w w' v zs) (hr : r < w.heap.size) : Fresh r v := by
  refine ⟨fun b hb => ?_, fun a cap e => ?_⟩
  · have := (World.ownsRow.lt h.1 b hb).1; omega
  · obtain ⟨a', cap', e', _⟩ := own_form h.1
    rw [e] at e'
    simp at e'
    obtain ⟨a2, e2⟩ := h.2.1 e'.2.1.symm
    rw [e] at e2
    simp at e2
    exact e2.2
theorem CloneO.fresh {r : Nat} {w w' : World} {v : Value} {zs : List OpL} (h : CloneO w w' v zs) (hr : r < w.heap.size) : Fresh r v := by
  refine ⟨fun b hb => ?_, fun a cap e => ?_⟩
  · have := (World.ownsRow.lt h.1 b hb).1; omega
  · obtain ⟨a', cap', e', _⟩ := own_form h.1
    rw [e] at e'
    simp at e'
    obtain ⟨a2, e2⟩ := h.2.1 e'.2.1.symm
    rw [e] at e2
    simp at e2
    exact e2.2
theorem CloneI.is {w w' : World} {v : Value} {zs : List Int} (h : CloneI w w' v zs) (hl : zs.length * 8 ≤ 140737488355328) (ok : Nat → Prop) (hk : ∀ b, w.heap.size ≤ b → ok b) : IsI ok w' v zs :=
  (IsI.of_owns h.1 hl).mono (fun b _ hb => hk b hb.1)
theorem CloneO.is {w w' : World} {v : Value} {zs : List OpL} (h : CloneO w w' v zs) (hl : zs.length * 24 ≤ 140737488355328) (ok : Nat → Prop) (hk : ∀ b, w.heap.size ≤ b → ok b) : IsO ok w' v zs :=
  (IsO.of_owns h.1 hl).mono (fun b _ hb => hk b hb.1)

/-- In the midst of it: the first m cells are done. -/
structure SepInv (w0 : World) (s : NodeL) (zr : Array Value) (nv : Nat → Value) (m : Nat) (w : World) : Prop where
  blk : BlkAt 201 w w0.heap.size nv
  node : NodeC (fun b => b ≠ w0.heap.size ∧ b ≠ w0.heap.size + 1) w nv s
  fresh : ∀ i, i < m → i < 192 → i % 6 ≠ 0 → Fresh (w0.heap.size + 1) (nv i)
  below : Below w0.heap.size w0 w
  res : w.heap[w0.heap.size + 1]? = some (.cells zr 41 (0, 0))
theorem SepInv.lt {w0 : World} {s : NodeL} {zr : Array Value} {nv : Nat → Value} {m : Nat} {w : World} (h : SepInv w0 s zr nv m w) : w0.heap.size + 1 < w.heap.size := (Array.getElem?_eq_some_iff.1 h.res).1
theorem SepInv.step {w0 : World} {s : NodeL} {zr : Array Value} {nv : Nat → Value} {k f : Nat} {w w1 : World} {v : Value} (h : SepInv w0 s zr nv (k * 6 + f) w) (hk : k < 32) (hf : f < 6) (hb : Below w.heap.size w w1)
    (hv : fieldOK (fun b => b ≠ w0.heap.size ∧ b ≠ w0.heap.size + 1) w1 (s.ent k) f v) (hn : Fresh (w0.heap.size + 1) v) :
    SepInv w0 s zr (fun i => if i = k * 6 + f then v else nv i) (k * 6 + (f + 1)) (w1.setCell ⟨w0.heap.size, k * 6 + f, none⟩ v) := by
  have hl := h.lt
  have hsame : SameOn (fun b => b ≠ w0.heap.size ∧ b ≠ w0.heap.size + 1) w1 (w1.setCell ⟨w0.heap.size, k * 6 + f, none⟩ v) := fun b _ hb => Below.heap_setCell _ _ _ _ hb.1
  refine ⟨(h.blk.later hb (by omega)).put _ _, ?_, fun i hi hi2 h6 => ?_, ?_, ?_⟩
  · exact ((h.node.later (SameOn.of_size hb)).put hk hf hv).later hsame
  · show Fresh _ (if i = k * 6 + f then v else nv i)
    by_cases e : i = k * 6 + f
    · rw [if_pos e]; exact hn
    · rw [if_neg e]; exact h.fresh i (by omega) hi2 h6
  · exact (h.below.trans (hb.mono (by omega))).setCell (Nat.le_refl _) _
  · rw [Below.heap_setCell _ _ _ _ (by simp), hb.block _ hl]
    exact h.res
theorem SepInv.stepI {w0 : World} {s : NodeL} {zr : Array Value} {nv : Nat → Value} {k f : Nat} {w w1 : World} {v : Value} (h : SepInv w0 s zr nv (k * 6 + f) w) (hk : k < 32) (h2 : 2 ≤ f) (hf : f < 6) (hc : CloneI w w1 v ((s.ent k).nums f)) (hl : ((s.ent k).nums f).length * 8 ≤ 140737488355328) :
    SepInv w0 s zr (fun i => if i = k * 6 + f then v else nv i) (k * 6 + (f + 1)) (w1.setCell ⟨w0.heap.size, k * 6 + f, none⟩ v) := by
  have := h.lt
  refine h.step hk hf hc.2.2 ?_ (hc.fresh this)
  unfold fieldOK
  rw [if_neg (by omega), if_neg (by omega)]
  exact hc.is hl _ (fun b hb => by constructor <;> omega)
theorem SepInv.stepO {w0 : World} {s : NodeL} {zr : Array Value} {nv : Nat → Value} {k : Nat} {w w1 : World} {v : Value} (h : SepInv w0 s zr nv (k * 6 + 1) w) (hk : k < 32) (hc : CloneO w w1 v (s.ent k).ops) (hl : (s.ent k).ops.length * 24 ≤ 140737488355328) :
    SepInv w0 s zr (fun i => if i = k * 6 + 1 then v else nv i) (k * 6 + 2) (w1.setCell ⟨w0.heap.size, k * 6 + 1, none⟩ v) := by
  have := h.lt
  refine h.step hk (by omega) hc.2.2 ?_ (hc.fresh this)
  exact hc.is hl _ (fun b hb => by constructor <;> omega)
/-- What lies in a cell, ready to be cloned. -/
theorem SepInv.getI {w0 : World} {s : NodeL} {zr : Array Value} {nv : Nat → Value} {m : Nat} {w : World} (h : SepInv w0 s zr nv m w) {k : Nat} (hk : k < 32) (f : Nat) (h2 : 2 ≤ f) (hf : f < 6) :
    ∃ a cap, w.cell? ⟨w0.heap.size, k * 6 + f, none⟩ = some (.slice a ((s.ent k).nums f).length cap) ∧ SlInts w a cap ((s.ent k).nums f) ∧ ((s.ent k).nums f).length * 8 ≤ 140737488355328 := by
  have hv := (h.node.es.ent k hk).get f hf
  unfold fieldOK at hv
  rw [if_neg (by omega), if_neg (by omega)] at hv
  obtain ⟨a, cap, e, hs⟩ := hv.sl
  refine ⟨a, cap, by rw [h.blk.cell (by omega), e], hs, ?_⟩
  obtain ⟨_, _, _, _, hl, _⟩ := hv
  exact hl
theorem SepInv.getO {w0 : World} {s : NodeL} {zr : Array Value} {nv : Nat → Value} {m : Nat} {w : World} (h : SepInv w0 s zr nv m w) {k : Nat} (hk : k < 32) :
    ∃ a cap, w.cell? ⟨w0.heap.size, k * 6 + 1, none⟩ = some (.slice a (s.ent k).ops.length cap) ∧ SlOps w a cap (s.ent k).ops ∧ (s.ent k).ops.length * 24 ≤ 140737488355328 := by
  have hv := (h.node.es.ent k hk).ops
  obtain ⟨a, cap, e, hs⟩ := hv.sl
  refine ⟨a, cap, by rw [h.blk.cell (by omega), e], hs, ?_⟩
  obtain ⟨_, _, _, _, hl, _⟩ := hv
  exact hl
/-- Behind a round. -/
theorem SepInv.next {w0 : World} {s : NodeL} {zr : Array Value} {nv : Nat → Value} {k : Nat} {w : World} (h : SepInv w0 s zr nv (k * 6 + 6) w) : SepInv w0 s zr nv ((k + 1) * 6 + 1) w :=
  ⟨h.blk, h.node, fun i hi hi2 h6 => h.fresh i (by omega) hi2 h6, h.below, h.res⟩

/-- The end: the order is a row of its own, beside all others. -/
structure SepFin (w0 : World) (s : NodeL) (zr : Array Value) (nv : Nat → Value) (w : World) : Prop where
  blk : BlkAt 201 w w0.heap.size nv
  node : NodeE (fun b => w0.heap.size + 1 < b ∧ (nv 192).ownBlock ≠ some b) w nv s
  order : w.ownsRow (w0.heap.size + 2) 3 1 (nv 192) s.order.length (intCells s.order)
  hot : ∀ i, i < 192 → i % 6 ≠ 0 → ∀ a cap, nv i = .slice a 0 cap → cap = 0
  len : s.order.length * 8 ≤ 140737488355328
  below : Below w0.heap.size w0 w
  res : w.heap[w0.heap.size + 1]? = some (.cells zr 41 (0, 0))
theorem IsI.fresh {ok : Nat → Prop} {r B : Nat} {w : World} {v : Value} {zs : List Int} (h : IsI ok w v zs) (hv : Fresh r v) (hB : w.heap.size ≤ B) : IsI (fun b => r < b ∧ b < B) w v zs := by
  obtain ⟨a, cap, rfl, h2, h3⟩ := h
  refine ⟨a, cap, rfl, ?_, h3⟩
  rcases h2 with h2 | ⟨b, off, rfl, hb, hc⟩
  · exact Or.inl h2
  · cases zs with
    | nil => exact Or.inl rfl
    | cons z l => exact Or.inr ⟨b, off, rfl, ⟨hv.1 b rfl, Nat.lt_of_lt_of_le (World.block_lt_of_cell? w _ (hc 0 (by simp))) hB⟩, hc⟩
theorem IsO.fresh {ok : Nat → Prop} {r B : Nat} {w : World} {v : Value} {zs : List OpL} (h : IsO ok w v zs) (hv : Fresh r v) (hB : w.heap.size ≤ B) : IsO (fun b => r < b ∧ b < B) w v zs := by
  obtain ⟨a, cap, rfl, h2, h3⟩ := h
  refine ⟨a, cap, rfl, ?_, h3⟩
  rcases h2 with h2 | ⟨b, off, rfl, hb, hc⟩
  · exact Or.inl h2
  · cases zs with
    | nil => exact Or.inl rfl
    | cons z l => exact Or.inr ⟨b, off, rfl, ⟨hv.1 b rfl, Nat.lt_of_lt_of_le (World.block_lt_of_cell? w _ (hc 0 (by simp)).1) hB⟩, hc⟩
theorem SepInv.fin {w0 : World} {s : NodeL} {zr : Array Value} {nv : Nat → Value} {w w1 : World} {v : Value} (h : SepInv w0 s zr nv (32 * 6 + 1) w) (hc : CloneI w w1 v s.order) (hl : s.order.length * 8 ≤ 140737488355328) :
    SepFin w0 s zr (fun i => if i = 192 then v else nv i) (w1.setCell ⟨w0.heap.size, 192, none⟩ v) := by
  have hlt := h.lt
  have hb := hc.2.2
  have hnew : ∀ b, v.ownBlock = some b → w.heap.size ≤ b := fun b e => (World.ownsRow.lt hc.1 b e).1
  have hE : NodeE (fun b => w0.heap.size + 1 < b ∧ b < w.heap.size) w nv s := by
    refine ⟨fun i hi => EntC.of fun f hf => ?_, h.node.es.vals⟩
    have h1 := (h.node.es.ent i hi).get f hf
    by_cases f0 : f = 0
    · subst f0; exact h1
    · have h2 := h.fresh (i * 6 + f) (by omega) (by omega) (by omega)
      unfold fieldOK at h1 ⊢
      rw [if_neg f0] at h1 ⊢
      by_cases f1 : f = 1
      · rw [if_pos f1] at h1 ⊢; exact h1.fresh h2 (Nat.le_refl _)
      · rw [if_neg f1] at h1 ⊢; exact h1.fresh h2 (Nat.le_refl _)
  have hE1 := hE.later (SameOn.of_size hb)
  have hE2 : NodeE (fun b => w0.heap.size + 1 < b ∧ b < w.heap.size) (w1.setCell ⟨w0.heap.size, 192, none⟩ v) nv s := hE1.later (fun b _ hb => Below.heap_setCell _ _ _ _ (by show b ≠ w0.heap.size; omega))
  refine ⟨(h.blk.later hb (by omega)).put _ _, ⟨fun i hi => ?_, fun k hk => ?_⟩, ?_, ?_, hl, ?_, ?_⟩
  · refine ((hE2.ent i hi).mono fun b _ hb => ⟨hb.1, fun e => by have := hnew b e; omega⟩).same fun j hj => ?_
    · show (if i * 6 + j = 192 then v else nv (i * 6 + j)) = _
      rw [if_neg (by omega)]
  · show (if 193 + k = 192 then v else nv (193 + k)) = _
    rw [if_neg (by omega)]
    exact hE2.vals k hk
  · show World.ownsRow _ _ _ _ v _ _
    have := own_mono hc.1 (show w0.heap.size + 2 ≤ w.heap.size by omega)
    exact own_put this (by omega)
  · intro i hi h6 a cap e
    have e' : nv i = .slice a 0 cap := by
      have : (if i = 192 then v else nv i) = nv i := if_neg (by omega)
      rw [← this]; exact e
    exact (h.fresh i (by omega) hi h6).2 a cap e'
  · exact (h.below.trans (hb.mono (by omega))).setCell (Nat.le_refl _) _
  · rw [Below.heap_setCell _ _ _ _ (by simp), hb.block _ hlt]
    exact h.res
theorem SepFin.one {w0 : World} {s : NodeL} {zr : Array Value} {nv : Nat → Value} {w : World} (h : SepFin w0 s zr nv w) : ∀ i, i < 201 → (nv i).oneCell' = true :=
  (show NodeC _ w nv s from ⟨h.node.mono (ok' := fun _ => True) (fun _ _ _ => trivial), (IsI.of_owns h.order h.len).mono (fun _ _ _ => trivial)⟩).one
theorem setRow_other (w : World) {g k : Nat} (cs : Array Value) (h : k ≠ g) : (w.setRow g cs).heap[k]? = w.heap[k]? := by
  simp [World.setRow, Array.getElem?_modify]
  intro e; omega
theorem own_same {w w' : World} {b : Nat} {e : TypeId} {size : Nat} {v : Value} {n : Nat} {xs : List Value} (h : w.ownsRow b e size v n xs) (hs : ∀ k, v.ownBlock = some k → w'.heap[k]? = w.heap[k]?) : w'.ownsRow b e size v n xs :=
  ⟨h.1, h.2.imp id fun ⟨g, cap, cur, h1, h2, h3, h4⟩ => ⟨g, cap, cur, h1, h2, by rw [hs g (by rw [h1]; rfl)]; exact h3, h4⟩⟩

/-- What separate leaves: a node whose lists are new, the order a row of its own beside all others. -/
structure Apart (B : Nat) (w : World) (nv : Nat → Value) (s : NodeL) : Prop where
  node : NodeE (fun b => B ≤ b ∧ (nv 192).ownBlock ≠ some b) w nv s
  order : w.ownsRow B 3 1 (nv 192) s.order.length (intCells s.order)
  hot : ∀ i, i < 192 → i % 6 ≠ 0 → ∀ a cap, nv i = .slice a 0 cap → cap = 0
  len : s.order.length * 8 ≤ 140737488355328

theorem SepFin.done {w0 : World} {s : NodeL} {zr : Array Value} {nv : Nat → Value} {w : World} (h : SepFin w0 s zr nv w) (fr : Array Value) : Apart w0.heap.size (w.setRow (w0.heap.size + 1) fr) nv s ∧ Below w0.heap.size w0 (w.setRow (w0.heap.size + 1) fr) := by
  refine ⟨⟨?_, ?_, h.hot, h.len⟩, setRow_below h.below (by omega) _⟩
  · exact (h.node.later (fun b _ hb => setRow_other _ _ (by omega))).mono (fun b _ hb => ⟨by omega, hb.2⟩)
  · exact own_mono (own_same h.order (fun k hk => setRow_other _ _ (by have := (World.ownsRow.lt h.order k hk).1; omega))) (by omega)

set_option maxRecDepth 100000 in
set_option maxHeartbeats 1000000 in
theorem separate_any (nv : Nat → Value) (s : NodeL) (w : World) (h : NodeC (· < w.heap.size) w nv s) :
    Calls Try.prog 44 #[.agg (rowF 201 nv)] w fun e w' => ∃ nv', e = .returned (.agg (rowF 201 nv')) ∧ Apart w.heap.size w' nv' s ∧ Below w.heap.size w w' := by
  obtain ⟨gr, hgr⟩ : ∃ gr, gr = rowF 201 nv := ⟨_, rfl⟩
  obtain ⟨zr, hzr⟩ : ∃ zr, zr = rowF 201 zv := ⟨_, rfl⟩
  have hz0 := Try.zeroNode
  rw [← hgr]
  rw [← hzr] at hz0
  have H0 : Hid (SepInv w s zr nv 1 ((w.alloc (.cells gr 41)).alloc (.cells zr 41))) := by
    have hb : Below w.heap.size w ((w.alloc (.cells gr 41)).alloc (.cells zr 41)) := ((Below.refl _ _).alloc (Nat.le_refl _) _).alloc (by rw [size_push]; omega) _
    obtain ⟨r1, r2⟩ := two_rows w (.cells gr 41) (.cells zr 41)
    refine ⟨⟨41, by rw [← hgr]; exact r1⟩, (h.later (SameOn.of_size hb)).mono (fun b _ (hb : b < w.heap.size) => by constructor <;> omega), fun i hi _ h6 => ?_, hb, r2⟩
    obtain rfl : i = 0 := by omega
    exact absurd rfl h6
  have HG : Hid (gr = rowF 201 nv) := hgr
  have HZ : Hid (zr = rowF 201 zv) := hzr
  clear hgr hzr h
  go_enter Try.func44, Try.ntmps44
  go_wp2_with (first
    | (refine wpList_alloc_as rfl 41 rfl zr hz0 ?_)
    | fail)
  go_loopw [5] (fun i wr => ∃ (k : Nat) (mv : Nat → Value), k ≤ 32 ∧ i = .int .i64 k ∧ Hid (SepInv w s zr mv (k * 6 + 1) wr)) (fun i _ => 32 - (intOf i).toNat)
  case atStart => exact ⟨0, nv, Nat.zero_le _, rfl, H0⟩
  case round =>
    obtain ⟨k, mv, hk, rfl, H⟩ := hrel
    clear H0 hz0
    by_cases hlt : k < 32
    · have n1 : (0 : Int) ≤ (k : Int) ∧ (k : Int) < 32 := by omega
      obtain ⟨a1, c1, q1, hs1, hl1⟩ := (H.out).getO hlt
      have z1 := H.out.blk.frozen (k * 6 + 1)
      go_wp2_with fail
      refine (cloneO_any a1 c1 (s.ent k).ops _ hs1 hl1).mono ?_
      rintro e w1 ⟨v1, rfl, hc1⟩
      obtain ⟨b1, d1, rfl, _⟩ := own_form hc1.1
      have H1 : Hid (SepInv w s zr _ (k * 6 + 2) (w1.setCell ⟨w.heap.size, k * 6 + 1, none⟩ (.slice b1 (s.ent k).ops.length d1))) := H.out.stepO hlt hc1 hl1
      have y1 : w1.cell? ⟨w.heap.size, k * 6 + 1, none⟩ = some (.slice a1 (s.ent k).ops.length c1) := by rw [hc1.2.2.cell (p := ⟨w.heap.size, k * 6 + 1, none⟩) (by have := H.out.lt; show w.heap.size < _; omega)]; exact q1
      have x1 : w1.frozen? ⟨w.heap.size, k * 6 + 1, none⟩ = false := by rw [hc1.2.2.frozen (p := ⟨w.heap.size, k * 6 + 1, none⟩) (by have := H.out.lt; show w.heap.size < _; omega)]; exact z1
      clear H q1 z1 hc1 hs1 hl1
      go_upto_region 6 with fail
      generalize w1.setCell ⟨w.heap.size, k * 6 + 1, none⟩ (.slice b1 (s.ent k).ops.length d1) = W1 at *
      have H := H1
      clear H1 y1 x1
      obtain ⟨a2, c2, q2, hs2, hl2⟩ := (H.out).getI hlt 2 (by omega) (by omega)
      have z2 := H.out.blk.frozen (k * 6 + 2)
      go_wp2_with fail
      refine (cloneI_any a2 c2 ((s.ent k).nums 2) _ hs2 hl2).mono ?_
      rintro e w2 ⟨v2, rfl, hc2⟩
      obtain ⟨b2, d2, rfl, _⟩ := own_form hc2.1
      have H2 : Hid (SepInv w s zr _ (k * 6 + (2 + 1)) (w2.setCell ⟨w.heap.size, k * 6 + 2, none⟩ (.slice b2 ((s.ent k).nums 2).length d2))) := H.out.stepI hlt (by omega) (by omega) hc2 hl2
      have y2 : w2.cell? ⟨w.heap.size, k * 6 + 2, none⟩ = some (.slice a2 ((s.ent k).nums 2).length c2) := by rw [hc2.2.2.cell (p := ⟨w.heap.size, k * 6 + 2, none⟩) (by have := H.out.lt; show w.heap.size < _; omega)]; exact q2
      have x2 : w2.frozen? ⟨w.heap.size, k * 6 + 2, none⟩ = false := by rw [hc2.2.2.frozen (p := ⟨w.heap.size, k * 6 + 2, none⟩) (by have := H.out.lt; show w.heap.size < _; omega)]; exact z2
      clear H q2 z2 hc2 hs2 hl2
      go_upto_region 7 with fail
      generalize w2.setCell ⟨w.heap.size, k * 6 + 2, none⟩ (.slice b2 ((s.ent k).nums 2).length d2) = W2 at *
      have H := H2
      clear H2 y2 x2
      obtain ⟨a3, c3, q3, hs3, hl3⟩ := (H.out).getI hlt 3 (by omega) (by omega)
      have z3 := H.out.blk.frozen (k * 6 + 3)
      go_wp2_with fail
      refine (cloneI_any a3 c3 ((s.ent k).nums 3) _ hs3 hl3).mono ?_
      rintro e w3 ⟨v3, rfl, hc3⟩
      obtain ⟨b3, d3, rfl, _⟩ := own_form hc3.1
      have H3 : Hid (SepInv w s zr _ (k * 6 + (3 + 1)) (w3.setCell ⟨w.heap.size, k * 6 + 3, none⟩ (.slice b3 ((s.ent k).nums 3).length d3))) := H.out.stepI hlt (by omega) (by omega) hc3 hl3
      have y3 : w3.cell? ⟨w.heap.size, k * 6 + 3, none⟩ = some (.slice a3 ((s.ent k).nums 3).length c3) := by rw [hc3.2.2.cell (p := ⟨w.heap.size, k * 6 + 3, none⟩) (by have := H.out.lt; show w.heap.size < _; omega)]; exact q3
      have x3 : w3.frozen? ⟨w.heap.size, k * 6 + 3, none⟩ = false := by rw [hc3.2.2.frozen (p := ⟨w.heap.size, k * 6 + 3, none⟩) (by have := H.out.lt; show w.heap.size < _; omega)]; exact z3
      clear H q3 z3 hc3 hs3 hl3
      go_upto_region 8 with fail
      generalize w3.setCell ⟨w.heap.size, k * 6 + 3, none⟩ (.slice b3 ((s.ent k).nums 3).length d3) = W3 at *
      have H := H3
      clear H3 y3 x3
      obtain ⟨a4, c4, q4, hs4, hl4⟩ := (H.out).getI hlt 4 (by omega) (by omega)
      have z4 := H.out.blk.frozen (k * 6 + 4)
      go_wp2_with fail
      refine (cloneI_any a4 c4 ((s.ent k).nums 4) _ hs4 hl4).mono ?_
      rintro e w4 ⟨v4, rfl, hc4⟩
      obtain ⟨b4, d4, rfl, _⟩ := own_form hc4.1
      have H4 : Hid (SepInv w s zr _ (k * 6 + (4 + 1)) (w4.setCell ⟨w.heap.size, k * 6 + 4, none⟩ (.slice b4 ((s.ent k).nums 4).length d4))) := H.out.stepI hlt (by omega) (by omega) hc4 hl4
      have y4 : w4.cell? ⟨w.heap.size, k * 6 + 4, none⟩ = some (.slice a4 ((s.ent k).nums 4).length c4) := by rw [hc4.2.2.cell (p := ⟨w.heap.size, k * 6 + 4, none⟩) (by have := H.out.lt; show w.heap.size < _; omega)]; exact q4
      have x4 : w4.frozen? ⟨w.heap.size, k * 6 + 4, none⟩ = false := by rw [hc4.2.2.frozen (p := ⟨w.heap.size, k * 6 + 4, none⟩) (by have := H.out.lt; show w.heap.size < _; omega)]; exact z4
      clear H q4 z4 hc4 hs4 hl4
      go_upto_region 9 with fail
      generalize w4.setCell ⟨w.heap.size, k * 6 + 4, none⟩ (.slice b4 ((s.ent k).nums 4).length d4) = W4 at *
      have H := H4
      clear H4 y4 x4
      obtain ⟨a5, c5, q5, hs5, hl5⟩ := (H.out).getI hlt 5 (by omega) (by omega)
      have z5 := H.out.blk.frozen (k * 6 + 5)
      go_wp2_with fail
      refine (cloneI_any a5 c5 ((s.ent k).nums 5) _ hs5 hl5).mono ?_
      rintro e w5 ⟨v5, rfl, hc5⟩
      obtain ⟨b5, d5, rfl, _⟩ := own_form hc5.1
      have H5 : Hid (SepInv w s zr _ (k * 6 + (5 + 1)) (w5.setCell ⟨w.heap.size, k * 6 + 5, none⟩ (.slice b5 ((s.ent k).nums 5).length d5))) := H.out.stepI hlt (by omega) (by omega) hc5 hl5
      have y5 : w5.cell? ⟨w.heap.size, k * 6 + 5, none⟩ = some (.slice a5 ((s.ent k).nums 5).length c5) := by rw [hc5.2.2.cell (p := ⟨w.heap.size, k * 6 + 5, none⟩) (by have := H.out.lt; show w.heap.size < _; omega)]; exact q5
      have x5 : w5.frozen? ⟨w.heap.size, k * 6 + 5, none⟩ = false := by rw [hc5.2.2.frozen (p := ⟨w.heap.size, k * 6 + 5, none⟩) (by have := H.out.lt; show w.heap.size < _; omega)]; exact z5
      clear H q5 z5 hc5 hs5 hl5
      go_wp2
      
      
      
      go_roundw
      case rel => exact ⟨k + 1, _, by omega, by go_num, H5.out.next⟩
      case measure => simp [intOf]; omega
    · obtain rfl : k = 32 := by omega
      obtain ⟨ao, co, eo, hso⟩ := H.out.node.order.sl
      have hlo : s.order.length * 8 ≤ 140737488355328 := by
        obtain ⟨_, _, _, _, hl, _⟩ := H.out.node.order
        exact hl
      have qo : wr.cell? ⟨w.heap.size, 192, none⟩ = some (.slice ao s.order.length co) := by rw [H.out.blk.cell (by omega), eo]
      have zo := H.out.blk.frozen 192
      clear eo
      go_wp2_with fail
      refine (cloneI_any ao co s.order _ hso hlo).mono ?_
      rintro e w1 ⟨v1, rfl, hc1⟩
      obtain ⟨b1, d1, rfl, _⟩ := own_form hc1.1
      have y1 : w1.cell? ⟨w.heap.size, 192, none⟩ = some (.slice ao s.order.length co) := by rw [hc1.2.2.cell (p := ⟨w.heap.size, 192, none⟩) (by have := H.out.lt; show w.heap.size < _; omega)]; exact qo
      have x1 : w1.frozen? ⟨w.heap.size, 192, none⟩ = false := by rw [hc1.2.2.frozen (p := ⟨w.heap.size, 192, none⟩) (by have := H.out.lt; show w.heap.size < _; omega)]; exact zo
      obtain ⟨fv, hfv⟩ : ∃ fv, fv = fun i => if i = 192 then Value.slice b1 s.order.length d1 else mv i := ⟨_, rfl⟩
      have HF : Hid (SepFin w s zr fv (w1.setCell ⟨w.heap.size, 192, none⟩ (.slice b1 s.order.length d1))) := by rw [hfv]; exact H.out.fin hc1 hlo
      clear H qo zo hso hfv hc1
      go_upto_region 12 with fail
      generalize w1.setCell ⟨w.heap.size, 192, none⟩ (.slice b1 s.order.length d1) = W1 at *
      obtain ⟨t, hblk⟩ := HF.out.blk
      have hres := HF.out.res
      obtain ⟨fr, hfr⟩ : ∃ fr, fr = rowF 201 fv := ⟨_, rfl⟩
      have hsize : (Try.prog.info? 41).map (·.size) = some fr.size := by rw [hfr, rowF_size]; exact Try.infoNode
      have hzs : zr.size = fr.size := by rw [hfr, HZ.out, rowF_size, rowF_size]
      have hone : fr.all (·.oneCell') = true := by rw [hfr]; exact rowF_all HF.out.one
      rw [← hfr] at hblk
      have HFR : Hid (fr = rowF 201 fv) := hfr
      have HW : Hid (Apart w.heap.size (W1.setRow (w.heap.size + 1) fr) fv s ∧ Below w.heap.size w (W1.setRow (w.heap.size + 1) fr)) := HF.out.done fr
      clear hfr HF y1 x1
      go_wp2_with (first
        | (refine wpList_load_row rfl 41 _ rfl w.heap.size rfl t fr (0, 0) _ hblk Try.underlying41 rfl hsize ?_)
        | (refine wpList_store_row rfl 41 _ _ rfl (w.heap.size + 1) fr rfl rfl 41 _ hres hsize hzs hone ?_))
      refine bodyPost_ret (v := .agg fr) (results_cell_row Try.results44 _ _ (w.heap.size + 1) 41 _ (0, 0) _ rfl (heap_setRow hres) Try.underlying41 rfl hsize) rfl ⟨fv, by rw [HFR.out], HW.out⟩

end Go.Proofs.Ytgdkjjmnoikhdab
