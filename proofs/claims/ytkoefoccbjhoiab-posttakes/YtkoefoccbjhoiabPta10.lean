/-
  What a Take answers, by its kind; a case whose lists are new.
  The contracts of package wire's appendWide and Encode.
  The contract of the statements' own 'frame': a frame whose lists are copies.
  The contracts of the document's own isTxn, has and SameNumbers.
  The contract of the document's own IsRising.
  Plain mathematics of our own: the reader at a place of a text, and what a text's length tells of a frame.
  The contracts of the document's own SameOps and SameFrame, of fromSix and of the closure of DecodeFrame.
  The contracts of the document's own SameNumbers and SameOps, held against nothing.
  The contract of the document's own IsOps.
-/
import Derived.Test.YtkoefoccbjhoiabPta9
import Derived.Test.YtkoefoccbjhoiabPta4
import Derived.Laws.IdiomStrings
import Derived.Laws.AppendOwnNone
import Derived.Deep.RegionLaw
import Derived.Deep.DrawnRows
import Derived.Deep.Cut
import Derived.Test.YtkoefoccbjhoiabPta1
import Derived.Test.YtkoefoccbjhoiabPta2
namespace Go.Proofs.Ytkoefoccbjhoiab
open Go.RowKit

/-- A case by value whose lists lie from lo on. -/
def CaseG (lo : Nat) (w : World) (gr : Array Value) (c : CaseL) : Prop := ∃ nv, gr = rowF 24 nv ∧ CaseC (fun b => lo ≤ b) w nv c
theorem CaseG.v {lo : Nat} {w : World} {gr : Array Value} {c : CaseL} (h : CaseG lo w gr c) : CaseV w gr c := by
  obtain ⟨nv, e, h⟩ := h
  exact ⟨nv, e, h.any⟩
theorem below_row {a w w' : World} {B : Nat} (h : Below B a w) (hg : w.grownBy w' (some B)) (hB : B ≤ w.heap.size) : Below B a w' :=
  ⟨hg.os.trans h.os, hg.tape.trans h.tape, hg.output.trans h.output, by have := h.size; have := hg.size; omega, fun k hk => by
    rw [hg.block k (by omega) (fun e => by have := Option.some.inj e; omega)]
    exact h.block k hk⟩
/-- Out of its box, into another one. -/
theorem PBox.out {B : Nat} {w : World} {nv : Nat → Value} {c : CaseL} (h : PBox (B + 3) B w nv c) (r : Array Value) : CaseG B (w.setRow (B + 2) r) (rowF 24 nv) c :=
  ⟨nv, rfl, (h.case.later (w' := w.setRow (B + 2) r) (fun k _ hk => setRow_other _ _ (by have : B + 3 ≤ k := hk; omega))).mono (fun k _ hk => by have : B + 3 ≤ k := hk; show B ≤ k; omega)⟩
theorem take_goes {c : CaseL} {id : Int} {f : FrameL} (h : refC c id f = 0) : ¬ (goodCB c = false ∨ c.begun = false ∨ f.id ≠ id ∨ hasL c.deps id = true) ∧ ¬ goodL f ≠ 0 ∧ ¬ (f.kind = 1 ∨ f.kind = 3) := by
  obtain ⟨h1, h2, h3, h4, h5⟩ := ref_ok h
  refine ⟨fun e => ?_, fun e => e h3, fun e => ?_⟩
  · rcases (bad_iff c id f).1 e with e | e
    · rw [h1] at e; cases e
    · exact e h2
  · rcases e with e | e
    · exact h4 e
    · exact h5 e
theorem take_told {c : CaseL} {id : Int} {f : FrameL} (h : refC c id f = 0) (hk : f.kind = 2) : takeC c id f = ((toldC c f).1, (toldC c f).2, 0) := by
  obtain ⟨g1, g2, g3⟩ := take_goes h
  have hid := (ref_ok h).2.1
  unfold takeC toldC
  rw [if_neg g1, if_neg g2, if_neg g3, if_pos hk]
  split
  · rfl
  · rw [hid]
theorem take_known {c : CaseL} {id : Int} {f : FrameL} (h : refC c id f = 0) (hk : f.kind = 4) : takeC c id f = ((if c.fixed then { c with known := upd c.known f.node.toNat true } else c), [], 0) := by
  obtain ⟨g1, g2, g3⟩ := take_goes h
  unfold takeC
  rw [if_neg g1, if_neg g2, if_neg g3, if_neg (by omega)]
  cases e : c.fixed
  · rfl
  · rw [if_neg (by decide), if_pos hk]; rfl
theorem take_done {c : CaseL} {id : Int} {f : FrameL} (h : refC c id f = 0) (hk : f.kind = 5) : takeC c id f = ((if c.fixed then c.dones (ofL f.node) (f.ats.zip f.vals) else c), [], 0) := by
  obtain ⟨g1, g2, g3⟩ := take_goes h
  unfold takeC
  rw [if_neg g1, if_neg g2, if_neg g3, if_neg (by omega)]
  cases e : c.fixed
  · rfl
  · rw [if_neg (by decide), if_neg (by omega)]; rfl

end Go.Proofs.Ytkoefoccbjhoiab

namespace Go.Proofs.Ytkoefoccbjhoiab
open Go.RowKit

theorem heap_new2 (w : World) (o p : Obj) : ((w.alloc o).alloc p).heap[w.heap.size + 1]? = some p := by
  have := heap_new (w.alloc o) p
  rwa [alloc_size] at this
end Go.Proofs.Ytkoefoccbjhoiab

namespace Go.Proofs.Ytkoefoccbjhoiab
open Go.RowKit
attribute [local go_sem ↓] Go.wp_at_zero Go.wp_at_succ

/-- 'append([]T(nil), xs...)' at a step of a region that draws. -/
theorem step_copy {P : Program} {w : World} {ops : Array Oper} {o : Oper} {a : Act} {K : Act → World → Prop} {Q : Exit → Act → World → Prop} {E : Prop} (hgd : o.guard = none) (s x : Operand) (t : TypeId)
    (ho : o.op = .call { callee := .builtin .append, args := #[s, x], argTypes := #[t, t] })
    (e : TypeId) (i : TypeInfo) (z : Value) (size bytes : Nat) (ht : P.underlying t = some (.slice e)) (hi : P.info? e = some i) (hz : i.zero = some z) (hsize : i.size = size) (hby : i.bytes = bytes) (hzs : z.cells.size = size) (hsz : 0 < size)
    (hs : a.eval s = .slice none 0 0) (ad : Option Addr) (n cap : Nat) (xs : List Value) (hx : a.eval x = .slice ad n cap) (hl : xs.length = n * size) (hnil : ad = none → n = 0 ∧ cap = 0)
    (hcell : ∀ p, ad = some p → ∀ j u, xs[j]? = some u → w.cell? (p.add j) = some u) (h1 : ∀ u ∈ xs, u.oneCell' = true) (hm : n ≤ maxLen) (hbytes : n * bytes ≤ 140737488355328)
    (h : ∀ ad' cap' w', w'.ownsRow w.heap.size e size (.slice ad' n cap') n xs → w.grownBy w' none → K (a.put o.dst (.slice ad' n cap')) w') : if Region.wanted o (yielded ops a.tmps) = true then Oper.wp P o a w K Q else E := by
  have hw : Region.wanted o (yielded ops a.tmps) = true := by simp [Region.wanted, hgd]
  rw [if_pos hw]
  cases ad with
  | none =>
    obtain ⟨rfl, rfl⟩ := hnil rfl
    have hx0 : xs = [] := List.eq_nil_of_length_eq_zero (by rw [hl]; simp)
    subst hx0
    have hrun := run_append_owned_none (P := P) (w := w) w.heap.size t o.type e i size ht hi (.slice none 0 0) 0 [] (World.ownsRow_nil _ _ _ _)
    unfold Oper.wp
    simp [execOp, ho, resolve, invoke, builtin, hs, hx, hrun, Result.andThen]
    exact h _ _ _ (World.ownsRow_nil _ _ _ _) ⟨rfl, rfl, rfl, Nat.le_refl _, fun _ _ _ => rfl⟩
  | some p =>
    refine wp_append_own w s x t ho w.heap.size e i z size bytes ht hi hz hsize hby hzs hsz (.slice none 0 0) 0 [] hs (World.ownsRow_nil _ _ _ _) p n cap xs hx hl (hcell p rfl) h1 (by omega) (by simpa using hbytes) (Nat.le_refl _) ?_
    intro v' w' h2 h3 _
    rw [Nat.zero_add, List.nil_append] at h2
    obtain ⟨ad', cap', rfl, _⟩ := own_form h2
    exact h ad' cap' w' h2 h3

theorem ints_cells {w : World} {a : Option Addr} {cap : Nat} {zs : List Int} (h : SlInts w a cap zs) : ∀ p, a = some p → ∀ j u, (intCells zs)[j]? = some u → w.cell? (p.add j) = some u := by
  intro p hp j u hu
  rcases h.1 with rfl | ⟨b, off, hb, _, hc⟩
  · simp [intCells] at hu
  · rw [hp] at hb
    simp at hb
    subst hb
    have hj : j < zs.length := by
      have := (List.getElem?_eq_some_iff.1 hu).1
      simpa [intCells] using this
    rw [add_none, hc j hj]
    simp [intCells, hj] at hu
    simp [List.getD, hj, hu]
theorem ops_cells {w : World} {a : Option Addr} {cap : Nat} {zs : List OpL} (h : SlOps w a cap zs) : ∀ p, a = some p → ∀ j u, (opsCells zs)[j]? = some u → w.cell? (p.add j) = some u := by
  intro p hp j u hu
  rcases h.1 with rfl | ⟨b, off, hb, _, hc⟩
  · simp [opsCells] at hu
  · rw [hp] at hb
    simp at hb
    subst hb
    have hj : j < zs.length * 3 := by
      have := (List.getElem?_eq_some_iff.1 hu).1
      rwa [opsCells_len] at this
    have hq : j / 3 < zs.length := by omega
    obtain ⟨c0, c1, c2⟩ := hc (j / 3) hq
    obtain ⟨g0, g1, g2⟩ := opsCells_get zs (j / 3) hq
    rw [add_none]
    have hr : j = j / 3 * 3 ∨ j = j / 3 * 3 + 1 ∨ j = j / 3 * 3 + 2 := by omega
    rcases hr with e | e | e
    · rw [e] at hu ⊢
      rw [← hu, g0]
      exact c0
    · rw [e] at hu ⊢
      rw [← hu, g1]
      exact c1
    · rw [e] at hu ⊢
      rw [← hu, g2]
      exact c2
theorem ints_one (zs : List Int) : ∀ u ∈ intCells zs, u.oneCell' = true := by
  intro u hu
  obtain ⟨n, _, rfl⟩ := List.mem_map.1 hu
  rfl
theorem ops_one (zs : List OpL) : ∀ u ∈ opsCells zs, u.oneCell' = true := by
  intro u hu
  obtain ⟨o, _, h⟩ := List.mem_flatMap.1 hu
  exact one_op o u h
theorem intCells_len (zs : List Int) : (intCells zs).length = zs.length * 1 := by simp [intCells]

/-- The state of the copying: the frame's box at b, the result's at b + 1, the copies' rows behind them. -/
structure Cp (w : World) (kind node id : Int) (wr : World) (v3 v4 v5 v6 : Value) : Prop where
  f : FAt wr w.heap.size kind node id v3 v4 v5 v6
  z : FAt wr (w.heap.size + 1) 0 0 0 (.slice none 0 0) (.slice none 0 0) (.slice none 0 0) (.slice none 0 0)
  b : Below w.heap.size w wr
  s : w.heap.size + 2 ≤ wr.heap.size
theorem Cp.grown {w wr w1 : World} {kind node id : Int} {v3 v4 v5 v6 : Value} (h : Cp w kind node id wr v3 v4 v5 v6) (hg : wr.grownBy w1 none) : Cp w kind node id w1 v3 v4 v5 v6 :=
  ⟨h.f.block (hg.block _ h.f.lt (by simp)), h.z.block (hg.block _ h.z.lt (by simp)), h.b.grown hg h.b.size (by simp), by have := h.s; have := hg.size; omega⟩
theorem Cp.drew {w wr : World} {kind node id : Int} {v3 v4 v5 v6 : Value} (h : Cp w kind node id wr v3 v4 v5 v6) : Cp w kind node id wr.drew v3 v4 v5 v6 := ⟨h.f, h.z, h.b.drew, h.s⟩
theorem Cp.put3 {w wr : World} {kind node id : Int} {v3 v4 v5 v6 : Value} (h : Cp w kind node id wr v3 v4 v5 v6) (v : Value) : Cp w kind node id (wr.setCell ⟨w.heap.size, 3, none⟩ v) v v4 v5 v6 :=
  ⟨h.f.put3 v, h.z.block (Below.heap_setCell _ _ _ _ (by simp)), h.b.setCell (by simp) _, by have := h.s; simpa [World.setCell] using this⟩
theorem Cp.put4 {w wr : World} {kind node id : Int} {v3 v4 v5 v6 : Value} (h : Cp w kind node id wr v3 v4 v5 v6) (v : Value) : Cp w kind node id (wr.setCell ⟨w.heap.size, 4, none⟩ v) v3 v v5 v6 :=
  ⟨h.f.put4 v, h.z.block (Below.heap_setCell _ _ _ _ (by simp)), h.b.setCell (by simp) _, by have := h.s; simpa [World.setCell] using this⟩
theorem Cp.put5 {w wr : World} {kind node id : Int} {v3 v4 v5 v6 : Value} (h : Cp w kind node id wr v3 v4 v5 v6) (v : Value) : Cp w kind node id (wr.setCell ⟨w.heap.size, 5, none⟩ v) v3 v4 v v6 :=
  ⟨h.f.put5 v, h.z.block (Below.heap_setCell _ _ _ _ (by simp)), h.b.setCell (by simp) _, by have := h.s; simpa [World.setCell] using this⟩
theorem Cp.put6 {w wr : World} {kind node id : Int} {v3 v4 v5 v6 : Value} (h : Cp w kind node id wr v3 v4 v5 v6) (v : Value) : Cp w kind node id (wr.setCell ⟨w.heap.size, 6, none⟩ v) v3 v4 v5 v :=
  ⟨h.f.put6 v, h.z.block (Below.heap_setCell _ _ _ _ (by simp)), h.b.setCell (by simp) _, by have := h.s; simpa [World.setCell] using this⟩
theorem put7_low {w w1 : World} {b B : Nat} {x0 x1 x2 x3 x4 x5 x6 : Value} (h : Below B w w1) (hb : B ≤ b) : Below B w (put7 w1 b x0 x1 x2 x3 x4 x5 x6) :=
  ((((((h.setCell hb _).setCell hb _).setCell hb _).setCell hb _).setCell hb _).setCell hb _).setCell hb _
theorem own_none {w w1 : World} {b : Nat} {e : TypeId} {size : Nat} {v : Value} {n : Nat} {xs : List Value} (h : w.ownsRow b e size v n xs) (hg : w.grownBy w1 none) : w1.ownsRow b e size v n xs :=
  h.kept hg (by cases hv : v.ownBlock <;> simp)

set_option maxRecDepth 100000 in
set_option maxHeartbeats 2000000 in
theorem lawFrame_new (v : Value) (f : FrameL) (w : World) (hv : FrameV w v f) (r3 : f.ops.length * 24 ≤ 140737488355328) (r4 : f.deps.length * 8 ≤ 140737488355328) (r5 : f.ats.length * 8 ≤ 140737488355328) (r6 : f.vals.length * 8 ≤ 140737488355328) :
    Calls Try.prog 22 #[v] w fun e w' => ∃ v', e = .returned v' ∧ FrameV w' v' f ∧ FarV w.heap.size v' ∧ Below w.heap.size w w' := by
  obtain ⟨io, hio, oz0, oz1, oz2⟩ := info_parts Try.infoOp
  obtain ⟨i0, hi0, iz0, iz1, iz2⟩ := info_parts Try.infoInt
  obtain ⟨a3, c3, a4, c4, a5, c5, a6, c6, rfl, h3, h4, h5, h6⟩ := hv
  obtain ⟨kind, node, id, ops, deps, ats, vals⟩ := f
  simp only at h3 h4 h5 h6 r3 r4 r5 r6
  obtain ⟨W, hW⟩ : ∃ W, W = (w.alloc (.cells #[.int .i64 kind, .int .i64 node, .int .i64 id, .slice a3 ops.length c3, .slice a4 deps.length c4, .slice a5 ats.length c5, .slice a6 vals.length c6] 43)).alloc (.cells #[.int .i64 0, .int .i64 0, .int .i64 0, .slice none 0 0, .slice none 0 0, .slice none 0 0, .slice none 0 0] 43) := ⟨_, rfl⟩
  have C0 : Cp w kind node id W (.slice a3 ops.length c3) (.slice a4 deps.length c4) (.slice a5 ats.length c5) (.slice a6 vals.length c6) := by
    rw [hW]
    exact ⟨⟨43, by rw [Below.heap_alloc _ _ _ (by rw [alloc_size]; omega), heap_new]⟩, ⟨43, heap_new2 _ _ _⟩, ((Below.refl _ w).alloc (Nat.le_refl _) _).alloc (by rw [alloc_size]; omega) _, by rw [alloc_size, alloc_size]; omega⟩
  go_enter Try.func22, Try.ntmps22
  go_upto_region 1 with fail
  rw [← hW]
  clear hW
  have q3 := C0.f.cell.2.2.2.1
  have q4 := C0.f.cell.2.2.2.2.1
  go_cut [] from 3 (fun wc => ∃ v3 v4, Cp w kind node id wc v3 v4 (.slice a5 ats.length c5) (.slice a6 vals.length c6) ∧ wc.ownsRow (w.heap.size + 2) 108 3 v3 ops.length (opsCells ops) ∧ wc.ownsRow (w.heap.size + 2) 3 1 v4 deps.length (intCells deps))
  case first =>
    go_region_law
      ((first
        | (refine step_copy (by rfl) _ _ 35 (by rfl) 108 io _ 3 24 Try.underlying35 hio oz0 oz1 oz2 rfl (by decide) (by rfl) a3 ops.length c3 (opsCells ops) (by rfl) (opsCells_len ops) h3.2.2.2 (ops_cells (w := W.drew) (h3.later C0.drew.b)) (ops_one ops) h3.2.1 r3 ?_
           intro b3 d3 x1 own1 g1
           have C1 := C0.drew.grown g1
           have own1' := own_mono own1 C0.s
           have q4' := C1.f.cell.2.2.2.2.1
           have z1 := C1.f.frozen 3
           have z2 := C1.f.frozen 4
           clear g1 own1)
        | (refine step_copy (by rfl) _ _ 23 (by rfl) 3 i0 _ 1 8 Try.underlying23 hi0 iz0 iz1 iz2 rfl (by decide) (by rfl) a4 deps.length c4 (intCells deps) (by rfl) (intCells_len deps) h4.2.2.2 (ints_cells (h4.later C1.b)) (ints_one deps) h4.2.1 r4 ?_
           intro b4 d4 x2 own2 g2
           have C2 := C1.grown g2
           have own2' := own_mono own2 C1.s
           have own3' := own_none own1' g2
           have z3 := C2.f.frozen 3
           have z4 := C2.f.frozen 4
           have y3 := C2.f.cell.2.2.2.1
           have y4 := C2.f.cell.2.2.2.2.1
           clear g2 own2)
        | fail))
    all_goals
      go_wp2
      go_meet
      case rel => exact ⟨_, _, (C2.put3 _).put4 _, own_put (own_put own3' (by omega)) (by omega), own_put (own_put own2' (by omega)) (by omega)⟩
  case rest =>
    obtain ⟨v3, v4, C, own3, own4⟩ := hcut
    clear C0 q3 q4
    have q5 := C.f.cell.2.2.2.2.2.1
    have q6 := C.f.cell.2.2.2.2.2.2
    go_wp2_with fail
    go_region_law
      ((first
        | (refine step_copy (by rfl) _ _ 23 (by rfl) 3 i0 _ 1 8 Try.underlying23 hi0 iz0 iz1 iz2 rfl (by decide) (by rfl) a5 ats.length c5 (intCells ats) (by rfl) (intCells_len ats) h5.2.2.2 (ints_cells (w := wc.drew) (h5.later C.drew.b)) (ints_one ats) h5.2.1 r5 ?_
           intro b5 d5 x1 own1 g1
           have C1 := C.drew.grown g1
           have own1' := own_mono own1 C.s
           have own3' := own_none own3.drew g1
           have own4' := own_none own4.drew g1
           have q6' := C1.f.cell.2.2.2.2.2.2
           have z1 := C1.f.frozen 5
           have z2 := C1.f.frozen 6
           clear g1 own1)
        | (refine step_copy (by rfl) _ _ 23 (by rfl) 3 i0 _ 1 8 Try.underlying23 hi0 iz0 iz1 iz2 rfl (by decide) (by rfl) a6 vals.length c6 (intCells vals) (by rfl) (intCells_len vals) h6.2.2.2 (ints_cells (h6.later C1.b)) (ints_one vals) h6.2.1 r6 ?_
           intro b6 d6 x2 own2 g2
           have C2 := C1.grown g2
           have own6 := own_mono own2 C1.s
           have own5 := own_none own1' g2
           have own3'' := own_none own3' g2
           have own4'' := own_none own4' g2
           have z3 := C2.f.frozen 5
           have z4 := C2.f.frozen 6
           have y3 := C2.f.cell.2.2.2.2.2.1
           have y4 := C2.f.cell.2.2.2.2.2.2
           clear g2 own2)
        | fail))
    all_goals
      have C3 := (C2.put5 (.slice b5 ats.length d5)).put6 (.slice b6 vals.length d6)
      have o3 := own_put (c := w.heap.size) (o := 6) (u := .slice b6 vals.length d6) (own_put (c := w.heap.size) (o := 5) (u := .slice b5 ats.length d5) own3'' (by omega)) (by omega)
      have o4 := own_put (c := w.heap.size) (o := 6) (u := .slice b6 vals.length d6) (own_put (c := w.heap.size) (o := 5) (u := .slice b5 ats.length d5) own4'' (by omega)) (by omega)
      have o5 := own_put (c := w.heap.size) (o := 6) (u := .slice b6 vals.length d6) (own_put (c := w.heap.size) (o := 5) (u := .slice b5 ats.length d5) own5 (by omega)) (by omega)
      have o6 := own_put (c := w.heap.size) (o := 6) (u := .slice b6 vals.length d6) (own_put (c := w.heap.size) (o := 5) (u := .slice b5 ats.length d5) own6 (by omega)) (by omega)
      clear C C1 C2 own3 own4 own3' own4' own3'' own4'' own1' own5 own6 q5 q6 q6' z1 z2 z3 z4 y3 y4
      generalize (x2.setCell ⟨w.heap.size, 5, none⟩ (.slice b5 ats.length d5)).setCell ⟨w.heap.size, 6, none⟩ (.slice b6 vals.length d6) = x3 at *
      obtain ⟨b3, d3, e3, _⟩ := own_form o3
      obtain ⟨b4, d4, e4, _⟩ := own_form o4
      subst e3 e4
      obtain ⟨q0, q1, q2, q3, q4, q5, q6⟩ := C3.f.cell
      obtain ⟨g0, g1, g2, g3, g4, g5, g6⟩ := C3.z.cell
      have y0 := C3.z.frozen 0
      have y1 := C3.z.frozen 1
      have y2 := C3.z.frozen 2
      have y3 := C3.z.frozen 3
      have y4 := C3.z.frozen 4
      have y5 := C3.z.frozen 5
      have y6 := C3.z.frozen 6
      have HV : Hid (∀ x0 x1 x2 x3' x4 x5 x6, FrameV (put7 x3 (w.heap.size + 1) x0 x1 x2 x3' x4 x5 x6) (.agg #[.int .i64 kind, .int .i64 node, .int .i64 id, .slice b3 ops.length d3, .slice b4 deps.length d4, .slice b5 ats.length d5, .slice b6 vals.length d6]) ⟨kind, node, id, ops, deps, ats, vals⟩) :=
        fun x0 x1 x2 x3' x4 x5 x6 => ⟨b3, d3, b4, d4, b5, d5, b6, d6, rfl, SlOps.of_owns (put7_own o3 (by omega)), SlInts.of_owns (put7_own o4 (by omega)), SlInts.of_owns (put7_own o5 (by omega)), SlInts.of_owns (put7_own o6 (by omega))⟩
      have HFar : Hid (FarV w.heap.size (.agg #[.int .i64 kind, .int .i64 node, .int .i64 id, .slice b3 ops.length d3, .slice b4 deps.length d4, .slice b5 ats.length d5, .slice b6 vals.length d6])) := by
        intro cs hcs i x n cc hi
        cases hcs
        match i, hi with
        | 0, hi => simp at hi
        | 1, hi => simp at hi
        | 2, hi => simp at hi
        | 3, hi => simp at hi; exact far_of o3 (by omega) hi.1
        | 4, hi => simp at hi; exact far_of o4 (by omega) hi.1
        | 5, hi => simp at hi; exact far_of o5 (by omega) hi.1
        | 6, hi => simp at hi; exact far_of o6 (by omega) hi.1
        | n + 7, hi => simp at hi
      have hB3 := C3.b
      clear o3 o4 o5 o6 C3
      go_wp2
      refine bodyPost_ret (v := .agg #[.int .i64 kind, .int .i64 node, .int .i64 id, .slice b3 ops.length d3, .slice b4 deps.length d4, .slice b5 ats.length d5, .slice b6 vals.length d6]) (by simp [results, Try.results22, go_sem, *]) rfl ⟨_, rfl, HV.out _ _ _ _ _ _ _, HFar.out, ?_⟩
      exact put7_low hB3 (by omega)


end Go.Proofs.Ytkoefoccbjhoiab

namespace Go.Proofs.Ytkoefoccbjhoiab
open Go.RowKit

def txnB (n : Int) : Bool := decide (0 ≤ n ∧ n < 32)

set_option maxRecDepth 100000 in
set_option maxHeartbeats 400000 in
theorem isTxn_any (n : Int) (w : World) :
    Calls Try.prog 81 #[.int .i64 n] w fun e w' => e = .returned (.bool (txnB n)) ∧ w' = w := by
  by_cases h1 : 0 ≤ n
  · by_cases h2 : n < 32
    · have E : Hid (txnB n = true) := decide_eq_true ⟨h1, h2⟩
      go_enter Try.func81, Try.ntmps81
      go_wp2
      go_ret
      exact ⟨ret_bool (by rw [E.out]), rfl⟩
    · have E : Hid (txnB n = false) := decide_eq_false (fun h => h2 h.2)
      go_enter Try.func81, Try.ntmps81
      go_wp2
      go_ret
      exact ⟨ret_bool (by rw [E.out]), rfl⟩
  · have E : Hid (txnB n = false) := decide_eq_false (fun h => h1 h.1)
    go_enter Try.func81, Try.ntmps81
    go_wp2
    go_ret
    exact ⟨ret_bool (by rw [E.out]), rfl⟩

set_option maxRecDepth 100000 in
set_option maxHeartbeats 400000 in
theorem ref_has (a : Option Addr) (cap : Nat) (zs : List Int) (n : Int) (w : World) (hl : zs.length ≤ maxLen) (hz : IntsAt w.heap.size w a zs) :
    Calls Try.prog 80 #[.slice a zs.length cap, .int .i64 n] w fun e w' => e = .returned (.bool (hasL zs n)) ∧ w' = w := by
  unfold maxLen at hl
  rcases hz with rfl | ⟨b, off, rfl, hb, hc⟩
  · go_enter Try.func80, Try.ntmps80
    go_wp2
    refine wp_loop_rounds 1 ?_; rw [rounds_succ]
    go_wp2
    go_ret
    exact ⟨rfl, rfl⟩
  · go_enter Try.func80, Try.ntmps80
    go_wp2
    go_loop [9] (fun i => ∃ k : Nat, k ≤ zs.length ∧ i = .int .i64 k ∧ (zs.take k).any (eqB n) = false) (fun i => zs.length - (intOf i).toNat)
    case atStart => exact ⟨0, Nat.zero_le _, rfl, rfl⟩
    case round =>
      obtain ⟨k, hk, rfl, hno⟩ := hrel
      by_cases hlt : k < zs.length
      · obtain ⟨q, Hq, e0⟩ := IntsAt.at hc hb (Below.refl _ _) hlt
        have hm : Hid (eqB n q = (q == n)) := rfl
        clear hc
        cases t1 : q == n
        · go_wp2
          go_round
          case rel => exact ⟨k + 1, by omega, by go_num, any_step hlt Hq.out hno (by rw [hm.out, t1])⟩
          case measure => simp [intOf]; omega
        · go_wp2
          go_ret
          exact ⟨ret_bool (any_hit hlt Hq.out (by rw [hm.out, t1])).symm, rfl⟩
      · go_wp2
        go_ret
        exact ⟨ret_bool (any_end hlt hno).symm, rfl⟩


theorem has_contains (zs : List Int) (n : Int) : hasL zs n = zs.contains n := by
  rw [Bool.eq_iff_iff]
  unfold hasL eqB
  simp

set_option maxRecDepth 100000 in
set_option maxHeartbeats 400000 in
theorem sameNumbers_any (a : Option Addr) (cap : Nat) (zs : List Int) (a' : Option Addr) (cap' : Nat) (w : World) (hl : zs.length ≤ maxLen) (hz : IntsAt w.heap.size w a zs) (hy : IntsAt w.heap.size w a' zs) :
    Calls Try.prog 35 #[.slice a zs.length cap, .slice a' zs.length cap'] w fun e w' => e = .returned (.bool true) ∧ Below w.heap.size w w' := by
  unfold maxLen at hl
  have hne : ((zs.length : Int) != (zs.length : Int)) = false := by simp
  rcases hz with rfl | ⟨b, off, rfl, hb, hc⟩
  · go_enter Try.func35, Try.ntmps35
    go_wp2
    refine wp_loop_rounds 1 ?_; rw [rounds_succ]
    go_wp2
    go_ret
    exact ⟨rfl, Below.refl _ _⟩
  rcases hy with rfl | ⟨b', off', rfl, hb', hc'⟩
  · go_enter Try.func35, Try.ntmps35
    go_wp2
    refine wp_loop_rounds 1 ?_; rw [rounds_succ]
    go_wp2
    go_ret
    exact ⟨rfl, Below.refl _ _⟩
  go_enter Try.func35, Try.ntmps35
  go_wp2
  go_loopw [13] (fun i wr => ∃ k : Nat, k ≤ zs.length ∧ i = .int .i64 k ∧ Below w.heap.size w wr) (fun i _ => zs.length - (intOf i).toNat)
  case atStart => exact ⟨0, Nat.zero_le _, rfl, Below.refl _ _⟩
  case round =>
    obtain ⟨k, hk, rfl, hB⟩ := hrel
    by_cases hlt : k < zs.length
    · obtain ⟨q, Hq, e0⟩ := IntsAt.at hc hb hB hlt
      have f0 : wr.cell? ⟨b', off' + k, none⟩ = some (.int .i64 q) := by rw [hB.cell (p := ⟨b', off' + k, none⟩) hb', ← Hq.out]; exact hc' k hlt
      have hi : (k : Int) < (zs.length : Int) := by omega
      clear hc hc'
      go_wp2
      go_quiet (fail)
      go_wp2
      go_roundw
      case rel => exact ⟨k + 1, by omega, by go_num, below_drewN hB _⟩
      case measure => simp [intOf]; omega
    · go_wp2
      go_ret
      exact ⟨rfl, hB⟩

end Go.Proofs.Ytkoefoccbjhoiab

namespace Go.Proofs.Ytkoefoccbjhoiab
open Go.RowKit

set_option maxRecDepth 100000 in
set_option maxHeartbeats 400000 in
theorem isRising_any (a : Option Addr) (cap : Nat) (zs : List Int) (w : World) (hl : zs.length ≤ maxLen) (hz : IntsAt w.heap.size w a zs) :
    Calls Try.prog 79 #[.slice a zs.length cap] w fun e w' => e = .returned (.bool (risingFrom (-1) zs)) ∧ w' = w := by
  unfold maxLen at hl
  rcases hz with rfl | ⟨b, off, rfl, hb, hc⟩
  · go_enter Try.func79, Try.ntmps79
    go_wp2
    refine wp_loop_rounds 1 ?_; rw [rounds_succ]
    go_wp2
    go_ret
    exact ⟨rfl, rfl⟩
  · go_enter Try.func79, Try.ntmps79
    go_wp2
    go_loop [3, 8] (fun l i => ∃ (k : Nat) (q : Int), k ≤ zs.length ∧ i = .int .i64 k ∧ l = .int .i64 q ∧ -1 ≤ q ∧ Hid (risingFrom (-1) zs = risingFrom q (zs.drop k))) (fun _ i => zs.length - (intOf i).toNat)
    case atStart => exact ⟨0, -1, Nat.zero_le _, rfl, rfl, by omega, rfl⟩
    case round =>
      obtain ⟨k, l, hk, rfl, rfl, hl0, hno⟩ := hrel
      by_cases hlt : k < zs.length
      · obtain ⟨q, Hq, e0⟩ := IntsAt.at hc hb (Below.refl _ _) hlt
        clear hc
        by_cases t1 : q ≤ l
        · go_wp2
          go_ret
          exact ⟨ret_bool (rising_no hlt Hq.out hno.out (Or.inl t1)).symm, rfl⟩
        · go_wp2_with fail
          refine (isTxn_any _ _).mono ?_
          rintro e wx ⟨rfl, hw⟩
          subst hw
          by_cases t2 : 32 ≤ q
          · have E : txnB q = false := decide_eq_false (by omega)
            rw [E]
            go_wp2
            go_ret
            exact ⟨ret_bool (rising_no hlt Hq.out hno.out (Or.inr t2)).symm, rfl⟩
          · have E : txnB q = true := decide_eq_true ⟨by omega, by omega⟩
            rw [E]
            clear E
            go_wp2
            go_round
            case rel => exact ⟨k + 1, q, by omega, by go_num, rfl, by omega, rising_yes hlt Hq.out hno.out (by omega) (by omega)⟩
            case measure => simp [intOf]; omega
      · go_wp2
        go_ret
        exact ⟨ret_bool (rising_end hlt hno.out).symm, rfl⟩


end Go.Proofs.Ytkoefoccbjhoiab

namespace Go.Proofs.Ytkoefoccbjhoiab
open Go.RowKit

def pos (l : List UInt8) (p : Nat) : Rd := ⟨l.drop p, false⟩
end Go.Proofs.Ytkoefoccbjhoiab

namespace Go.Proofs.Ytkoefoccbjhoiab
open Go.RowKit

set_option maxRecDepth 100000 in
set_option maxHeartbeats 400000 in
theorem ref_sameOps_any (a : Option Addr) (cap : Nat) (zs : List OpL) (a' : Option Addr) (cap' : Nat) (w : World) (hl : zs.length ≤ maxLen) (hz : OpsAt w a zs) (hy : OpsAt w a' zs) :
    Calls Try.prog 82 #[.slice a zs.length cap, .slice a' zs.length cap'] w fun e w' => e = .returned (.bool true) ∧ Below w.heap.size w w' := by
  unfold maxLen at hl
  have hne : ((zs.length : Int) != (zs.length : Int)) = false := by simp
  rcases hz with rfl | ⟨b, off, rfl, hb, hc⟩
  · go_enter Try.func82, Try.ntmps82
    go_wp2
    refine wp_loop_rounds 1 ?_; rw [rounds_succ]
    go_wp2
    go_ret
    exact ⟨rfl, Below.refl _ _⟩
  rcases hy with rfl | ⟨b', off', rfl, hb', hc'⟩
  · go_enter Try.func82, Try.ntmps82
    go_wp2
    refine wp_loop_rounds 1 ?_; rw [rounds_succ]
    go_wp2
    go_ret
    exact ⟨rfl, Below.refl _ _⟩
  go_enter Try.func82, Try.ntmps82
  go_wp2
  go_loopw [13] (fun i wr => ∃ k : Nat, k ≤ zs.length ∧ i = .int .i64 k ∧ Below w.heap.size w wr) (fun i _ => zs.length - (intOf i).toNat)
  case atStart => exact ⟨0, Nat.zero_le _, rfl, Below.refl _ _⟩
  case round =>
    obtain ⟨k, hk, rfl, hB⟩ := hrel
    by_cases hlt : k < zs.length
    · obtain ⟨q0, q1, q2, Hq, e0, e1, e2⟩ := OpsAt.at hc hb hB hlt
      obtain ⟨p0, p1, p2, Hp, f0, f1, f2⟩ := OpsAt.at hc' hb' hB hlt
      have hh : (q0, q1, q2) = (p0, p1, p2) := Hq.out.symm.trans Hp.out
      simp at hh
      obtain ⟨rfl, rfl, rfl⟩ := hh
      have hi : (k : Int) < (zs.length : Int) := by omega
      clear hc hc'
      go_wp2
      go_quiet (fail)
      go_wp2
      go_roundw
      case rel => exact ⟨k + 1, by omega, by go_num, below_drewN hB _⟩
      case measure => simp [intOf]; omega
    · go_wp2
      go_ret
      exact ⟨rfl, hB⟩

set_option maxRecDepth 100000 in
set_option maxHeartbeats 1000000 in
theorem ref_sameFrame_any (v v' : Value) (f : FrameL) (w : World) (hv : FrameV w v f) (hv' : FrameV w v' f) :
    Calls Try.prog 29 #[v, v'] w fun e w' => e = .returned (.bool true) ∧ Below w.heap.size w w' := by
  obtain ⟨a3, c3, a4, c4, a5, c5, a6, c6, rfl, h3, h4, h5, h6⟩ := hv
  obtain ⟨b3, d3, b4, d4, b5, d5, b6, d6, rfl, k3, k4, k5, k6⟩ := hv'
  obtain ⟨kind, node, id, ops, deps, ats, vals⟩ := f
  simp only at *
  have tk : (kind == kind) = true := by simp
  have tn : (node == node) = true := by simp
  have ti : (id == id) = true := by simp
  go_enter Try.func29, Try.ntmps29
  go_wp2_with fail
  obtain ⟨W, hW⟩ : ∃ W, W = (w.alloc (.cells #[.int .i64 kind, .int .i64 node, .int .i64 id, .slice a3 ops.length c3, .slice a4 deps.length c4, .slice a5 ats.length c5, .slice a6 vals.length c6] 43)).alloc (.cells #[.int .i64 kind, .int .i64 node, .int .i64 id, .slice b3 ops.length d3, .slice b4 deps.length d4, .slice b5 ats.length d5, .slice b6 vals.length d6] 43) := ⟨_, rfl⟩
  have hf1 : FAt W w.heap.size kind node id (.slice a3 ops.length c3) (.slice a4 deps.length c4) (.slice a5 ats.length c5) (.slice a6 vals.length c6) := by rw [hW]; exact ⟨43, by rw [Below.heap_alloc _ _ _ (by rw [alloc_size]; omega), heap_new]⟩
  have hg1 : FAt W (w.heap.size + 1) kind node id (.slice b3 ops.length d3) (.slice b4 deps.length d4) (.slice b5 ats.length d5) (.slice b6 vals.length d6) := by rw [hW]; exact ⟨43, heap_new2 _ _ _⟩
  have hb1 : Below w.heap.size w W := by rw [hW]; exact ((Below.refl _ w).alloc (Nat.le_refl _) _).alloc (by rw [alloc_size]; omega) _
  rw [← hW]
  clear hW
  refine (ref_sameOps_any a3 c3 ops b3 d3 _ h3.2.1 (h3.later hb1).1 (k3.later hb1).1).mono ?_
  rintro e w1 ⟨rfl, hc⟩
  have hb2 := hb1.trans (hc.mono hb1.size)
  have hf2 := hf1.block (hc.block _ hf1.lt)
  have hg2 := hg1.block (hc.block _ hg1.lt)
  clear hc hf1 hg1 hb1
  have x4 := hf2.cell.2.2.2.2.1
  have y4 := hg2.cell.2.2.2.2.1
  go_wp2_with fail
  refine (sameNumbers_any a4 c4 deps b4 d4 _ h4.2.1 (h4.later hb2).1 (k4.later hb2).1).mono ?_
  rintro e w2 ⟨rfl, hc⟩
  have hb3 := hb2.trans (hc.mono hb2.size)
  have hf3 := hf2.block (hc.block _ hf2.lt)
  have hg3 := hg2.block (hc.block _ hg2.lt)
  clear hc hf2 hg2 hb2 x4 y4
  have x5 := hf3.cell.2.2.2.2.2.1
  have y5 := hg3.cell.2.2.2.2.2.1
  go_wp2_with fail
  refine (sameNumbers_any a5 c5 ats b5 d5 _ h5.2.1 (h5.later hb3).1 (k5.later hb3).1).mono ?_
  rintro e w3 ⟨rfl, hc⟩
  have hb4 := hb3.trans (hc.mono hb3.size)
  have hf4 := hf3.block (hc.block _ hf3.lt)
  have hg4 := hg3.block (hc.block _ hg3.lt)
  clear hc hf3 hg3 hb3 x5 y5
  have x6 := hf4.cell.2.2.2.2.2.2
  have y6 := hg4.cell.2.2.2.2.2.2
  go_wp2_with fail
  refine (sameNumbers_any a6 c6 vals b6 d6 _ h6.2.1 (h6.later hb4).1 (k6.later hb4).1).mono ?_
  rintro e w4 ⟨rfl, hc⟩
  have hb5 := hb4.trans (hc.mono hb4.size)
  clear hc hf4 hg4 hb4 x6 y6
  go_wp2
  go_ret
  exact ⟨rfl, hb5⟩

end Go.Proofs.Ytkoefoccbjhoiab

namespace Go.Proofs.Ytkoefoccbjhoiab
open Go.RowKit

end Go.Proofs.Ytkoefoccbjhoiab

namespace Go.Proofs.Ytkoefoccbjhoiab
open Go.RowKit

theorem isops_bad {zs : List OpL} {k : Nat} {q0 q1 q2 : Int} (hk : k < zs.length) (hq : zs.getD k (0, 0, 0) = (q0, q1, q2)) (h : goodB (q0, q1, q2) = false) : goodOpsL zs = false := by
  unfold goodOpsL
  rw [range_miss hk (goodAt_no1 hq h), Bool.and_false]
theorem isops_twice {zs : List OpL} {k j : Nat} {q0 q1 q2 p0 p1 p2 : Int} (hk : k < zs.length) (hq : zs.getD k (0, 0, 0) = (q0, q1, q2)) (hj : j < k) (hp : zs.getD j (0, 0, 0) = (p0, p1, p2)) (h : (p1 == q1) = true) : goodOpsL zs = false := by
  have : goodAt zs k = false := by
    unfold goodAt
    rw [hq]
    have : (zs.take k).any (keyB q1) = true := by
      refine List.any_eq_true.2 ⟨(p0, p1, p2), ?_, h⟩
      have hg : zs[j]'(by omega) = (p0, p1, p2) := by rw [← hp]; simp [List.getD, show j < zs.length by omega]
      rw [← hg]
      exact List.mem_take_iff_getElem.2 ⟨j, by omega, rfl⟩
    simp [this]
  unfold goodOpsL
  rw [range_miss hk this, Bool.and_false]

theorem goodB_no {q0 q1 q2 : Int} (h : goodB (q0, q1, q2) = false) (c1 : ¬ q0 < 1) (c2 : ¬ 3 < q0) (c3 : ¬ q1 < 0) (c4 : ¬ 7 < q1) (c5 : ¬ 1099511627776 < q2) (c6 : ¬ q2 < -1099511627776) : (q0 == 1) = true ∧ (q2 != 0) = true := by
  have D := of_decide_eq_false h
  simp only at D
  have e : q0 = 1 := by omega
  have e2 : q2 ≠ 0 := by omega
  simp [e, e2]
theorem goodB_yes {q0 q1 q2 : Int} (h : goodB (q0, q1, q2) = true) : ¬ q0 < 1 ∧ ¬ 3 < q0 ∧ ¬ q1 < 0 ∧ ¬ 7 < q1 ∧ ¬ 1099511627776 < q2 ∧ ¬ q2 < -1099511627776 ∧ ((q0 == 1) = true ∧ (q2 != 0) = false ∨ (q0 == 1) = false) := by
  have D := of_decide_eq_true h
  simp only at D
  refine ⟨by omega, by omega, by omega, by omega, by omega, by omega, ?_⟩
  by_cases e : q0 = 1
  · have e2 : q2 = 0 := by omega
    left; simp [e, e2]
  · right; simpa using e
theorem isops_end {zs : List OpL} {k : Nat} (hk : ¬ k < zs.length) (hk' : k ≤ zs.length) (h : (List.range k).all (goodAt zs) = true) : goodOpsL zs = decide (1 ≤ zs.length ∧ zs.length ≤ 4) := by
  have : k = zs.length := by omega
  subst this
  unfold goodOpsL
  rw [h, Bool.and_true]
theorem isops_next {zs : List OpL} {k j : Nat} {q0 q1 q2 : Int} (hq : zs.getD k (0, 0, 0) = (q0, q1, q2)) (h : goodB (q0, q1, q2) = true) (hj : ¬ j < k) (hj' : j ≤ k) (hn : (zs.take j).any (keyB q1) = false) (hall : (List.range k).all (goodAt zs) = true) : (List.range (k + 1)).all (goodAt zs) = true := by
  have : j = k := by omega
  subst this
  refine range_step hall ?_
  unfold goodAt
  rw [hq]
  simp only [h, hn, Bool.not_false, Bool.and_true]

set_option maxRecDepth 100000 in
set_option maxHeartbeats 1000000 in
theorem isOps_any (a : Option Addr) (cap : Nat) (zs : List OpL) (w : World) (hl : zs.length ≤ maxLen) (hz : OpsAt w a zs) (hcap : zs.length ≤ cap) :
    Calls Try.prog 78 #[.slice a zs.length cap] w fun e w' => e = .returned (.bool (goodOpsL zs)) ∧ Below w.heap.size w w' := by
  unfold maxLen at hl
  rcases hz with rfl | ⟨b, off, rfl, hb, hc⟩
  · go_enter Try.func78, Try.ntmps78
    go_wp2
    refine wp_loop_rounds 1 ?_; rw [rounds_succ]
    go_wp2
    go_ret
    exact ⟨rfl, Below.refl _ _⟩
  go_enter Try.func78, Try.ntmps78
  go_wp2
  go_loopw [9] (fun i wr => ∃ k : Nat, k ≤ zs.length ∧ i = .int .i64 k ∧ Hid ((List.range k).all (goodAt zs) = true) ∧ Below w.heap.size w wr) (fun i _ => zs.length - (intOf i).toNat)
  case atStart => exact ⟨0, Nat.zero_le _, rfl, rfl, Below.refl _ _⟩
  case round =>
    obtain ⟨wo, hwo⟩ : ∃ wo, wo = wr := ⟨_, rfl⟩
    subst hwo
    obtain ⟨k, hk, rfl, hall, hBw⟩ := hrel
    have hsz := hBw.size
    by_cases hlt : k < zs.length
    · obtain ⟨q0, q1, q2, Hq, e0, e1, e2⟩ := OpsAt.at hc hb hBw hlt
      cases tg : goodB (q0, q1, q2)
      · have N : Hid (goodOpsL zs = false) := isops_bad hlt Hq.out tg
        clear hc
        by_cases c1 : q0 < 1
        · go_wp2
          go_ret
          exact ⟨ret_bool N.out.symm, hBw.alloc hsz _⟩
        by_cases c2 : 3 < q0
        · go_wp2
          go_ret
          exact ⟨ret_bool N.out.symm, hBw.alloc hsz _⟩
        by_cases c3 : q1 < 0
        · go_wp2
          go_ret
          exact ⟨ret_bool N.out.symm, hBw.alloc hsz _⟩
        by_cases c4 : 7 < q1
        · go_wp2
          go_ret
          exact ⟨ret_bool N.out.symm, hBw.alloc hsz _⟩
        by_cases c5 : 1099511627776 < q2
        · go_wp2
          go_ret
          exact ⟨ret_bool N.out.symm, hBw.alloc hsz _⟩
        by_cases c6 : q2 < -1099511627776
        · go_wp2
          go_ret
          exact ⟨ret_bool N.out.symm, hBw.alloc hsz _⟩
        obtain ⟨c7, c8⟩ := goodB_no tg c1 c2 c3 c4 c5 c6
        go_wp2
        go_ret
        exact ⟨ret_bool N.out.symm, hBw.alloc hsz _⟩
      · obtain ⟨c1, c2, c3, c4, c5, c6, c7⟩ := goodB_yes tg
        have hw : Below w.heap.size w (wo.alloc (.cells #[.int .i64 q0, .int .i64 q1, .int .i64 q2] 108)) := hBw.alloc hsz _
        have TG : Hid (goodB (q0, q1, q2) = true) := tg
        have HC : Hid (∀ i, i < zs.length → w.cell? ⟨b, off + i * 3, none⟩ = some (.int .i64 (zs.getD i (0, 0, 0)).1) ∧ w.cell? ⟨b, off + i * 3 + 1, none⟩ = some (.int .i64 (zs.getD i (0, 0, 0)).2.1) ∧ w.cell? ⟨b, off + i * 3 + 2, none⟩ = some (.int .i64 (zs.getD i (0, 0, 0)).2.2)) := hc
        clear tg hc
        rcases c7 with ⟨c7, c8⟩ | c7
        all_goals
          go_wp2
          go_loopw [56] (fun i wr => ∃ j : Nat, j ≤ k ∧ i = .int .i64 j ∧ Hid ((zs.take j).any (keyB q1) = false) ∧ Below (wo.heap.size + 1) (wo.alloc (.cells #[.int .i64 q0, .int .i64 q1, .int .i64 q2] 108)) wr) (fun i _ => k - (intOf i).toNat)
          case atStart => exact ⟨0, Nat.zero_le _, rfl, rfl, Below.refl _ _⟩
          case round =>
            obtain ⟨j, hj, rfl, hno, hBx⟩ := hrel
            have hBv : Below w.heap.size w wr := hw.trans (hBx.mono (by omega))
            have hsx := hBv.size
            have hsy : wo.heap.size < wr.heap.size := by have := hBx.size; simp at this; omega
            by_cases hjt : j < k
            · obtain ⟨p0, p1, p2, Hp, f0, f1, f2⟩ := OpsAt.at HC.out hb hBv (Nat.lt_trans hjt hlt)
              have g1 := hBx.cell (p := ⟨wo.heap.size, 1, none⟩) (by simp)
              simp at g1
              clear e0 e1 e2
              cases t1 : p1 == q1
              · go_wp2
                go_roundw
                case rel => exact ⟨j + 1, by omega, by go_num, any_step (Nat.lt_trans hjt hlt) Hp.out hno.out t1, hBx.alloc (by omega) _⟩
                case measure => simp [intOf]; omega
              · have N : Hid (goodOpsL zs = false) := isops_twice hlt Hq.out hjt Hp.out t1
                go_wp2
                go_ret
                exact ⟨ret_bool N.out.symm, hBv.alloc hsx _⟩
            · have Y : Hid ((List.range (k + 1)).all (goodAt zs) = true) := isops_next Hq.out TG.out hjt hj hno.out hall.out
              go_wp2
              go_roundw
              case rel => exact ⟨k + 1, by omega, by go_num, Y, hBv⟩
              case measure => simp [intOf]; omega
    · have N : Hid (goodOpsL zs = decide (1 ≤ zs.length ∧ zs.length ≤ 4)) := isops_end hlt hk hall.out
      by_cases z1 : 0 < zs.length
      · by_cases z2 : zs.length < 5
        · go_wp2
          go_ret
          exact ⟨ret_bool (by rw [N.out, Bool.eq_iff_iff]; simp; omega), hBw⟩
        · go_wp2
          go_ret
          exact ⟨ret_bool (by rw [N.out, Bool.eq_iff_iff]; simp; omega), hBw⟩
      · go_wp2
        go_ret
        exact ⟨ret_bool (by rw [N.out, Bool.eq_iff_iff]; simp; omega), hBw⟩

end Go.Proofs.Ytkoefoccbjhoiab
