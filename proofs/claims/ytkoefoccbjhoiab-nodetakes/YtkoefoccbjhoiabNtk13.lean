/-
  The contract of the statements' own 'frame': a frame whose lists are copies.
  The contract of the document's own CopyNode: a node whose lists are copies.
-/
import Derived.Test.YtkoefoccbjhoiabNtk12
import Derived.Laws.AppendOwnNone
import Derived.Deep.RegionLaw
import Derived.Deep.DrawnRows
import Derived.Deep.Cut
import Derived.Test.YtkoefoccbjhoiabNtk6
import Derived.Test.YtkoefoccbjhoiabNtk9
namespace Go.Proofs.Ytkoefoccbjhoiab
open Go.RowKit
attribute [local go_sem ↓] Go.wp_at_zero Go.wp_at_succ

/-- 'append([]T(nil), xs...)' at a step of a region that draws. -/
theorem step_copy {P : Program} {w : World} {ops : Array Oper} {o : Oper} {a : Act} {K : Act → World → Prop} {Q : Exit → Act → World → Prop} {E : Prop} (hgd : o.guard = none) (s x : Operand) (t : TypeId)
    (ho : o.op = .call { callee := .builtin .append, args := #[s, x], argTypes := #[t, t] })
    (e : TypeId) (i : TypeInfo) (z : Value) (size bytes : Nat) (ht : P.underlying t = some (.slice e)) (hi : P.info? e = some i) (hz : i.zero = some z) (hsize : i.size = size) (hby : i.bytes = bytes) (hzs : z.cells.size = size) (hsz : 0 < size)
    (hs : a.eval s = .slice none 0 0) (ad : Option Addr) (n cap : Nat) (xs : List Value) (hx : a.eval x = .slice ad n cap) (hl : xs.length = n * size) (hnil : ad = none → n = 0 ∧ cap = 0)
    (hcell : ∀ p, ad = some p → ∀ j u, xs[j]? = some u → w.cell? (p.add j) = some u) (h1 : ∀ u ∈ xs, u.oneCell' = true) (hm : n ≤ maxLen) (hbytes : n * bytes ≤ 140737488355328)
    (h : ∀ ad' cap' w', w'.ownsRow w.heap.size e size (.slice ad' n cap') n xs → w.grownBy w' none → K (a.put o.dst (.slice ad' n cap')) w') : if Region.wanted o (yielded ops a.tmps) = true then Oper.wp P o a w K Q else E := by
  have hw : Region.wanted o (yielded ops a.tmps) = true := by simp [Region.wanted, hgd]
  rw [if_pos hw]
  cases ad with
  | none =>
    obtain ⟨rfl, rfl⟩ := hnil rfl
    have hx0 : xs = [] := List.eq_nil_of_length_eq_zero (by rw [hl]; simp)
    subst hx0
    have hrun := run_append_owned_none (P := P) (w := w) w.heap.size t o.type e i size ht hi (.slice none 0 0) 0 [] (World.ownsRow_nil _ _ _ _)
    unfold Oper.wp
    simp [execOp, ho, resolve, invoke, builtin, hs, hx, hrun, Result.andThen]
    exact h _ _ _ (World.ownsRow_nil _ _ _ _) ⟨rfl, rfl, rfl, Nat.le_refl _, fun _ _ _ => rfl⟩
  | some p =>
    refine wp_append_own w s x t ho w.heap.size e i z size bytes ht hi hz hsize hby hzs hsz (.slice none 0 0) 0 [] hs (World.ownsRow_nil _ _ _ _) p n cap xs hx hl (hcell p rfl) h1 (by omega) (by simpa using hbytes) (Nat.le_refl _) ?_
    intro v' w' h2 h3 _
    rw [Nat.zero_add, List.nil_append] at h2
    obtain ⟨ad', cap', rfl, _⟩ := own_form h2
    exact h ad' cap' w' h2 h3

theorem ints_cells {w : World} {a : Option Addr} {cap : Nat} {zs : List Int} (h : SlInts w a cap zs) : ∀ p, a = some p → ∀ j u, (intCells zs)[j]? = some u → w.cell? (p.add j) = some u := by
  intro p hp j u hu
  rcases h.1 with rfl | ⟨b, off, hb, _, hc⟩
  · simp [intCells] at hu
  · rw [hp] at hb
    simp at hb
    subst hb
    have hj : j < zs.length := by
      have := (List.getElem?_eq_some_iff.1 hu).1
      simpa [intCells] using this
    rw [add_none, hc j hj]
    simp [intCells, hj] at hu
    simp [List.getD, hj, hu]
theorem ops_cells {w : World} {a : Option Addr} {cap : Nat} {zs : List OpL} (h : SlOps w a cap zs) : ∀ p, a = some p → ∀ j u, (opsCells zs)[j]? = some u → w.cell? (p.add j) = some u := by
  intro p hp j u hu
  rcases h.1 with rfl | ⟨b, off, hb, _, hc⟩
  · simp [opsCells] at hu
  · rw [hp] at hb
    simp at hb
    subst hb
    have hj : j < zs.length * 3 := by
      have := (List.getElem?_eq_some_iff.1 hu).1
      rwa [opsCells_len] at this
    have hq : j / 3 < zs.length := by omega
    obtain ⟨c0, c1, c2⟩ := hc (j / 3) hq
    obtain ⟨g0, g1, g2⟩ := opsCells_get zs (j / 3) hq
    rw [add_none]
    have hr : j = j / 3 * 3 ∨ j = j / 3 * 3 + 1 ∨ j = j / 3 * 3 + 2 := by omega
    rcases hr with e | e | e
    · rw [e] at hu ⊢
      rw [← hu, g0]
      exact c0
    · rw [e] at hu ⊢
      rw [← hu, g1]
      exact c1
    · rw [e] at hu ⊢
      rw [← hu, g2]
      exact c2
theorem ints_one (zs : List Int) : ∀ u ∈ intCells zs, u.oneCell' = true := by
  intro u hu
  obtain ⟨n, _, rfl⟩ := List.mem_map.1 hu
  rfl
theorem ops_one (zs : List OpL) : ∀ u ∈ opsCells zs, u.oneCell' = true := by
  intro u hu
  obtain ⟨o, _, h⟩ := List.mem_flatMap.1 hu
  exact one_op o u h
theorem intCells_len (zs : List Int) : (intCells zs).length = zs.length * 1 := by simp [intCells]

/-- The state of the copying: the frame's box at b, the result's at b + 1, the copies' rows behind them. -/
structure Cp (w : World) (kind node id : Int) (wr : World) (v3 v4 v5 v6 : Value) : Prop where
  f : FAt wr w.heap.size kind node id v3 v4 v5 v6
  z : FAt wr (w.heap.size + 1) 0 0 0 (.slice none 0 0) (.slice none 0 0) (.slice none 0 0) (.slice none 0 0)
  b : Below w.heap.size w wr
  s : w.heap.size + 2 ≤ wr.heap.size
theorem Cp.grown {w wr w1 : World} {kind node id : Int} {v3 v4 v5 v6 : Value} (h : Cp w kind node id wr v3 v4 v5 v6) (hg : wr.grownBy w1 none) : Cp w kind node id w1 v3 v4 v5 v6 :=
  ⟨h.f.block (hg.block _ h.f.lt (by simp)), h.z.block (hg.block _ h.z.lt (by simp)), h.b.grown hg h.b.size (by simp), by have := h.s; have := hg.size; omega⟩
theorem Cp.drew {w wr : World} {kind node id : Int} {v3 v4 v5 v6 : Value} (h : Cp w kind node id wr v3 v4 v5 v6) : Cp w kind node id wr.drew v3 v4 v5 v6 := ⟨h.f, h.z, h.b.drew, h.s⟩
theorem Cp.put3 {w wr : World} {kind node id : Int} {v3 v4 v5 v6 : Value} (h : Cp w kind node id wr v3 v4 v5 v6) (v : Value) : Cp w kind node id (wr.setCell ⟨w.heap.size, 3, none⟩ v) v v4 v5 v6 :=
  ⟨h.f.put3 v, h.z.block (Below.heap_setCell _ _ _ _ (by simp)), h.b.setCell (by simp) _, by have := h.s; simpa [World.setCell] using this⟩
theorem Cp.put4 {w wr : World} {kind node id : Int} {v3 v4 v5 v6 : Value} (h : Cp w kind node id wr v3 v4 v5 v6) (v : Value) : Cp w kind node id (wr.setCell ⟨w.heap.size, 4, none⟩ v) v3 v v5 v6 :=
  ⟨h.f.put4 v, h.z.block (Below.heap_setCell _ _ _ _ (by simp)), h.b.setCell (by simp) _, by have := h.s; simpa [World.setCell] using this⟩
theorem Cp.put5 {w wr : World} {kind node id : Int} {v3 v4 v5 v6 : Value} (h : Cp w kind node id wr v3 v4 v5 v6) (v : Value) : Cp w kind node id (wr.setCell ⟨w.heap.size, 5, none⟩ v) v3 v4 v v6 :=
  ⟨h.f.put5 v, h.z.block (Below.heap_setCell _ _ _ _ (by simp)), h.b.setCell (by simp) _, by have := h.s; simpa [World.setCell] using this⟩
theorem Cp.put6 {w wr : World} {kind node id : Int} {v3 v4 v5 v6 : Value} (h : Cp w kind node id wr v3 v4 v5 v6) (v : Value) : Cp w kind node id (wr.setCell ⟨w.heap.size, 6, none⟩ v) v3 v4 v5 v :=
  ⟨h.f.put6 v, h.z.block (Below.heap_setCell _ _ _ _ (by simp)), h.b.setCell (by simp) _, by have := h.s; simpa [World.setCell] using this⟩
theorem put7_low {w w1 : World} {b B : Nat} {x0 x1 x2 x3 x4 x5 x6 : Value} (h : Below B w w1) (hb : B ≤ b) : Below B w (put7 w1 b x0 x1 x2 x3 x4 x5 x6) :=
  ((((((h.setCell hb _).setCell hb _).setCell hb _).setCell hb _).setCell hb _).setCell hb _).setCell hb _
theorem own_none {w w1 : World} {b : Nat} {e : TypeId} {size : Nat} {v : Value} {n : Nat} {xs : List Value} (h : w.ownsRow b e size v n xs) (hg : w.grownBy w1 none) : w1.ownsRow b e size v n xs :=
  h.kept hg (by cases hv : v.ownBlock <;> simp)

set_option maxRecDepth 100000 in
set_option maxHeartbeats 2000000 in
theorem lawFrame_new (v : Value) (f : FrameL) (w : World) (hv : FrameV w v f) (r3 : f.ops.length * 24 ≤ 140737488355328) (r4 : f.deps.length * 8 ≤ 140737488355328) (r5 : f.ats.length * 8 ≤ 140737488355328) (r6 : f.vals.length * 8 ≤ 140737488355328) :
    Calls Try.prog 22 #[v] w fun e w' => ∃ v', e = .returned v' ∧ FrameV w' v' f ∧ FarV w.heap.size v' ∧ Below w.heap.size w w' := by
  obtain ⟨io, hio, oz0, oz1, oz2⟩ := info_parts Try.infoOp
  obtain ⟨i0, hi0, iz0, iz1, iz2⟩ := info_parts Try.infoInt
  obtain ⟨a3, c3, a4, c4, a5, c5, a6, c6, rfl, h3, h4, h5, h6⟩ := hv
  obtain ⟨kind, node, id, ops, deps, ats, vals⟩ := f
  simp only at h3 h4 h5 h6 r3 r4 r5 r6
  obtain ⟨W, hW⟩ : ∃ W, W = (w.alloc (.cells #[.int .i64 kind, .int .i64 node, .int .i64 id, .slice a3 ops.length c3, .slice a4 deps.length c4, .slice a5 ats.length c5, .slice a6 vals.length c6] 43)).alloc (.cells #[.int .i64 0, .int .i64 0, .int .i64 0, .slice none 0 0, .slice none 0 0, .slice none 0 0, .slice none 0 0] 43) := ⟨_, rfl⟩
  have C0 : Cp w kind node id W (.slice a3 ops.length c3) (.slice a4 deps.length c4) (.slice a5 ats.length c5) (.slice a6 vals.length c6) := by
    rw [hW]
    exact ⟨⟨43, by rw [Below.heap_alloc _ _ _ (by rw [alloc_size]; omega), heap_new]⟩, ⟨43, heap_new2 _ _ _⟩, ((Below.refl _ w).alloc (Nat.le_refl _) _).alloc (by rw [alloc_size]; omega) _, by rw [alloc_size, alloc_size]; omega⟩
  go_enter Try.func22, Try.ntmps22
  go_upto_region 1 with fail
  rw [← hW]
  clear hW
  have q3 := C0.f.cell.2.2.2.1
  have q4 := C0.f.cell.2.2.2.2.1
  go_cut [] from 3 (fun wc => ∃ v3 v4, Cp w kind node id wc v3 v4 (.slice a5 ats.length c5) (.slice a6 vals.length c6) ∧ wc.ownsRow (w.heap.size + 2) 108 3 v3 ops.length (opsCells ops) ∧ wc.ownsRow (w.heap.size + 2) 3 1 v4 deps.length (intCells deps))
  case first =>
    go_region_law
      ((first
        | (refine step_copy (by rfl) _ _ 35 (by rfl) 108 io _ 3 24 Try.underlying35 hio oz0 oz1 oz2 rfl (by decide) (by rfl) a3 ops.length c3 (opsCells ops) (by rfl) (opsCells_len ops) h3.2.2.2 (ops_cells (w := W.drew) (h3.later C0.drew.b)) (ops_one ops) h3.2.1 r3 ?_
           intro b3 d3 x1 own1 g1
           have C1 := C0.drew.grown g1
           have own1' := own_mono own1 C0.s
           have q4' := C1.f.cell.2.2.2.2.1
           have z1 := C1.f.frozen 3
           have z2 := C1.f.frozen 4
           clear g1 own1)
        | (refine step_copy (by rfl) _ _ 23 (by rfl) 3 i0 _ 1 8 Try.underlying23 hi0 iz0 iz1 iz2 rfl (by decide) (by rfl) a4 deps.length c4 (intCells deps) (by rfl) (intCells_len deps) h4.2.2.2 (ints_cells (h4.later C1.b)) (ints_one deps) h4.2.1 r4 ?_
           intro b4 d4 x2 own2 g2
           have C2 := C1.grown g2
           have own2' := own_mono own2 C1.s
           have own3' := own_none own1' g2
           have z3 := C2.f.frozen 3
           have z4 := C2.f.frozen 4
           have y3 := C2.f.cell.2.2.2.1
           have y4 := C2.f.cell.2.2.2.2.1
           clear g2 own2)
        | fail))
    all_goals
      go_wp2
      go_meet
      case rel => exact ⟨_, _, (C2.put3 _).put4 _, own_put (own_put own3' (by omega)) (by omega), own_put (own_put own2' (by omega)) (by omega)⟩
  case rest =>
    obtain ⟨v3, v4, C, own3, own4⟩ := hcut
    clear C0 q3 q4
    have q5 := C.f.cell.2.2.2.2.2.1
    have q6 := C.f.cell.2.2.2.2.2.2
    go_wp2_with fail
    go_region_law
      ((first
        | (refine step_copy (by rfl) _ _ 23 (by rfl) 3 i0 _ 1 8 Try.underlying23 hi0 iz0 iz1 iz2 rfl (by decide) (by rfl) a5 ats.length c5 (intCells ats) (by rfl) (intCells_len ats) h5.2.2.2 (ints_cells (w := wc.drew) (h5.later C.drew.b)) (ints_one ats) h5.2.1 r5 ?_
           intro b5 d5 x1 own1 g1
           have C1 := C.drew.grown g1
           have own1' := own_mono own1 C.s
           have own3' := own_none own3.drew g1
           have own4' := own_none own4.drew g1
           have q6' := C1.f.cell.2.2.2.2.2.2
           have z1 := C1.f.frozen 5
           have z2 := C1.f.frozen 6
           clear g1 own1)
        | (refine step_copy (by rfl) _ _ 23 (by rfl) 3 i0 _ 1 8 Try.underlying23 hi0 iz0 iz1 iz2 rfl (by decide) (by rfl) a6 vals.length c6 (intCells vals) (by rfl) (intCells_len vals) h6.2.2.2 (ints_cells (h6.later C1.b)) (ints_one vals) h6.2.1 r6 ?_
           intro b6 d6 x2 own2 g2
           have C2 := C1.grown g2
           have own6 := own_mono own2 C1.s
           have own5 := own_none own1' g2
           have own3'' := own_none own3' g2
           have own4'' := own_none own4' g2
           have z3 := C2.f.frozen 5
           have z4 := C2.f.frozen 6
           have y3 := C2.f.cell.2.2.2.2.2.1
           have y4 := C2.f.cell.2.2.2.2.2.2
           clear g2 own2)
        | fail))
    all_goals
      have C3 := (C2.put5 (.slice b5 ats.length d5)).put6 (.slice b6 vals.length d6)
      have o3 := own_put (c := w.heap.size) (o := 6) (u := .slice b6 vals.length d6) (own_put (c := w.heap.size) (o := 5) (u := .slice b5 ats.length d5) own3'' (by omega)) (by omega)
      have o4 := own_put (c := w.heap.size) (o := 6) (u := .slice b6 vals.length d6) (own_put (c := w.heap.size) (o := 5) (u := .slice b5 ats.length d5) own4'' (by omega)) (by omega)
      have o5 := own_put (c := w.heap.size) (o := 6) (u := .slice b6 vals.length d6) (own_put (c := w.heap.size) (o := 5) (u := .slice b5 ats.length d5) own5 (by omega)) (by omega)
      have o6 := own_put (c := w.heap.size) (o := 6) (u := .slice b6 vals.length d6) (own_put (c := w.heap.size) (o := 5) (u := .slice b5 ats.length d5) own6 (by omega)) (by omega)
      clear C C1 C2 own3 own4 own3' own4' own3'' own4'' own1' own5 own6 q5 q6 q6' z1 z2 z3 z4 y3 y4
      generalize (x2.setCell ⟨w.heap.size, 5, none⟩ (.slice b5 ats.length d5)).setCell ⟨w.heap.size, 6, none⟩ (.slice b6 vals.length d6) = x3 at *
      obtain ⟨b3, d3, e3, _⟩ := own_form o3
      obtain ⟨b4, d4, e4, _⟩ := own_form o4
      subst e3 e4
      obtain ⟨q0, q1, q2, q3, q4, q5, q6⟩ := C3.f.cell
      obtain ⟨g0, g1, g2, g3, g4, g5, g6⟩ := C3.z.cell
      have y0 := C3.z.frozen 0
      have y1 := C3.z.frozen 1
      have y2 := C3.z.frozen 2
      have y3 := C3.z.frozen 3
      have y4 := C3.z.frozen 4
      have y5 := C3.z.frozen 5
      have y6 := C3.z.frozen 6
      have HV : Hid (∀ x0 x1 x2 x3' x4 x5 x6, FrameV (put7 x3 (w.heap.size + 1) x0 x1 x2 x3' x4 x5 x6) (.agg #[.int .i64 kind, .int .i64 node, .int .i64 id, .slice b3 ops.length d3, .slice b4 deps.length d4, .slice b5 ats.length d5, .slice b6 vals.length d6]) ⟨kind, node, id, ops, deps, ats, vals⟩) :=
        fun x0 x1 x2 x3' x4 x5 x6 => ⟨b3, d3, b4, d4, b5, d5, b6, d6, rfl, SlOps.of_owns (put7_own o3 (by omega)), SlInts.of_owns (put7_own o4 (by omega)), SlInts.of_owns (put7_own o5 (by omega)), SlInts.of_owns (put7_own o6 (by omega))⟩
      have HFar : Hid (FarV w.heap.size (.agg #[.int .i64 kind, .int .i64 node, .int .i64 id, .slice b3 ops.length d3, .slice b4 deps.length d4, .slice b5 ats.length d5, .slice b6 vals.length d6])) := by
        intro cs hcs i x n cc hi
        cases hcs
        match i, hi with
        | 0, hi => simp at hi
        | 1, hi => simp at hi
        | 2, hi => simp at hi
        | 3, hi => simp at hi; exact far_of o3 (by omega) hi.1
        | 4, hi => simp at hi; exact far_of o4 (by omega) hi.1
        | 5, hi => simp at hi; exact far_of o5 (by omega) hi.1
        | 6, hi => simp at hi; exact far_of o6 (by omega) hi.1
        | n + 7, hi => simp at hi
      have hB3 := C3.b
      clear o3 o4 o5 o6 C3
      go_wp2
      refine bodyPost_ret (v := .agg #[.int .i64 kind, .int .i64 node, .int .i64 id, .slice b3 ops.length d3, .slice b4 deps.length d4, .slice b5 ats.length d5, .slice b6 vals.length d6]) (by simp [results, Try.results22, go_sem, *]) rfl ⟨_, rfl, HV.out _ _ _ _ _ _ _, HFar.out, ?_⟩
      exact put7_low hB3 (by omega)


end Go.Proofs.Ytkoefoccbjhoiab

namespace Go.Proofs.Ytkoefoccbjhoiab
open Go.RowKit

/-- 'append([]T(nil), xs...)' at a step of a walk. -/
theorem wpList_copy {P : Program} {w : World} {ops : Array Oper} {rest : List Oper} {o : Oper} {a : Act} {Q : Exit → Act → World → Prop} (hgd : o.guard = none) (s x : Operand) (t : TypeId)
    (ho : o.op = .call { callee := .builtin .append, args := #[s, x], argTypes := #[t, t] })
    (e : TypeId) (i : TypeInfo) (z : Value) (size bytes : Nat) (ht : P.underlying t = some (.slice e)) (hi : P.info? e = some i) (hz : i.zero = some z) (hsize : i.size = size) (hby : i.bytes = bytes) (hzs : z.cells.size = size) (hsz : 0 < size)
    (hs : a.eval s = .slice none 0 0) (ad : Option Addr) (n cap : Nat) (xs : List Value) (hx : a.eval x = .slice ad n cap) (hl : xs.length = n * size) (hnil : ad = none → n = 0 ∧ cap = 0)
    (hcell : ∀ p, ad = some p → ∀ j u, xs[j]? = some u → w.cell? (p.add j) = some u) (h1 : ∀ u ∈ xs, u.oneCell' = true) (hm : n ≤ maxLen) (hbytes : n * bytes ≤ 140737488355328)
    (h : ∀ ad' cap' w', w'.ownsRow w.heap.size e size (.slice ad' n cap') n xs → w.grownBy w' none → wpList P ops Q rest (a.put o.dst (.slice ad' n cap')) w') : wpList P ops Q (o :: rest) a w := by
  refine wpList_plain hgd fun K hK => ?_
  have hw : Region.wanted o (yielded ops a.tmps) = true := by simp [Region.wanted, hgd]
  have := step_copy (P := P) (ops := ops) (K := K) (Q := Q) (E := True) hgd s x t ho e i z size bytes ht hi hz hsize hby hzs hsz hs ad n cap xs hx hl hnil hcell h1 hm hbytes (fun ad' cap' w' h1 h2 => hK _ _ (h ad' cap' w' h1 h2))
  rwa [if_pos hw] at this

theorem IsI.with {ok : Nat → Prop} {w : World} {v : Value} {zs : List Int} (h : IsI ok w v zs) {p : Nat → Prop} (hp : ∀ b, v.ownBlock = some b → p b) : IsI (fun b => ok b ∧ p b) w v zs := by
  obtain ⟨a, cap, rfl, h2, h3⟩ := h
  refine ⟨a, cap, rfl, ?_, h3⟩
  rcases h2 with h2 | ⟨b, off, rfl, hb, hc⟩
  · exact Or.inl h2
  · exact Or.inr ⟨b, off, rfl, ⟨hb, hp b rfl⟩, hc⟩
theorem IsO.with {ok : Nat → Prop} {w : World} {v : Value} {zs : List OpL} (h : IsO ok w v zs) {p : Nat → Prop} (hp : ∀ b, v.ownBlock = some b → p b) : IsO (fun b => ok b ∧ p b) w v zs := by
  obtain ⟨a, cap, rfl, h2, h3⟩ := h
  refine ⟨a, cap, rfl, ?_, h3⟩
  rcases h2 with h2 | ⟨b, off, rfl, hb, hc⟩
  · exact Or.inl h2
  · exact Or.inr ⟨b, off, rfl, ⟨hb, hp b rfl⟩, hc⟩
/-- One field of one entry is laid anew; what it says is the same. -/
theorem NodeE.put {ok : Nat → Prop} {w : World} {nv : Nat → Value} {s : NodeL} (h : NodeE ok w nv s) {k f : Nat} (hk : k < 32) (hf : f < 6) {v : Value} (hv : fieldOK ok w (s.ent k) f v) : NodeE ok w (fun i => if i = k * 6 + f then v else nv i) s := by
  refine ⟨fun i hi => EntC.of fun g hg => ?_, fun j hj => ?_⟩
  · show fieldOK ok w (s.ent i) g (if i * 6 + g = k * 6 + f then v else nv (i * 6 + g))
    by_cases e : i * 6 + g = k * 6 + f
    · obtain rfl : i = k := by omega
      obtain rfl : g = f := by omega
      rw [if_pos rfl]
      exact hv
    · rw [if_neg e]
      exact (h.ent i hi).get g hg
  · show (if 193 + j = k * 6 + f then v else nv (193 + j)) = _
    rw [if_neg (by omega)]
    exact h.vals j hj

/-- A node whose lists lie from B on, the order a row of its own. -/
structure ApartR (B : Nat) (w : World) (nv : Nat → Value) (s : NodeL) : Prop where
  node : NodeE (fun b => B ≤ b ∧ (nv 192).ownBlock ≠ some b) w nv s
  order : w.ownsRow B 3 1 (nv 192) s.order.length (intCells s.order)
  len : s.order.length * 8 ≤ 140737488355328
theorem ApartR.c {B : Nat} {w : World} {nv : Nat → Value} {s : NodeL} (h : ApartR B w nv s) : NodeC (B ≤ ·) w nv s :=
  ⟨h.node.mono (fun _ _ hb => hb.1), (IsI.of_owns h.order h.len).mono (fun _ _ hb => hb.1)⟩

/-- In the midst of it: the order and the first m cells are done. -/
structure CopyInv (w0 : World) (s : NodeL) (zr : Array Value) (ov : Value) (nv : Nat → Value) (m : Nat) (w : World) : Prop where
  blk : BlkAt 201 w w0.heap.size nv
  e192 : nv 192 = ov
  node : NodeE (fun b => (b ≠ w0.heap.size ∧ b ≠ w0.heap.size + 1) ∧ ov.ownBlock ≠ some b) w nv s
  fresh : ∀ i, i < m → i < 192 → i % 6 ≠ 0 → ∀ b, (nv i).ownBlock = some b → w0.heap.size + 1 < b
  order : w.ownsRow (w0.heap.size + 2) 3 1 ov s.order.length (intCells s.order)
  len : s.order.length * 8 ≤ 140737488355328
  below : Below w0.heap.size w0 w
  res : w.heap[w0.heap.size + 1]? = some (.cells zr 41 (0, 0))
section
variable {w0 w w1 : World} {s : NodeL} {zr : Array Value} {ov : Value} {nv : Nat → Value} {m k f b1 : Nat} {v : Value}
theorem CopyInv.lt (h : CopyInv w0 s zr ov nv m w) : w0.heap.size + 1 < w.heap.size := (Array.getElem?_eq_some_iff.1 h.res).1
theorem CopyInv.later (h : CopyInv w0 s zr ov nv m w) (hb : Below w.heap.size w w1) : CopyInv w0 s zr ov nv m w1 := by
  have hl := h.lt
  exact ⟨h.blk.later hb (by omega), h.e192, h.node.later (SameOn.of_size hb), h.fresh, own_same h.order (fun k hk => hb.block k (World.ownsRow.lt h.order k hk).2), h.len, h.below.trans (hb.mono (by omega)), by rw [hb.block _ hl]; exact h.res⟩
theorem CopyInv.put (h : CopyInv w0 s zr ov nv (k * 6 + f) w) (hk : k < 32) (h1 : 1 ≤ f) (hf : f < 6) (hv : fieldOK (fun b => (b ≠ w0.heap.size ∧ b ≠ w0.heap.size + 1) ∧ ov.ownBlock ≠ some b) w (s.ent k) f v) (hn : ∀ b, v.ownBlock = some b → w0.heap.size + 1 < b) :
    CopyInv w0 s zr ov (fun i => if i = k * 6 + f then v else nv i) (k * 6 + (f + 1)) (w.setCell ⟨w0.heap.size, k * 6 + f, none⟩ v) := by
  have hl := h.lt
  refine ⟨h.blk.put _ _, by show (if 192 = k * 6 + f then v else nv 192) = ov; rw [if_neg (by omega)]; exact h.e192, ?_, fun i hi hi2 h6 b hb => ?_, own_put h.order (by omega), h.len, h.below.setCell (Nat.le_refl _) _, ?_⟩
  · exact (h.node.put hk hf hv).later (fun b _ hb => Below.heap_setCell _ _ _ _ hb.1.1)
  · have hb : (if i = k * 6 + f then v else nv i).ownBlock = some b := hb
    by_cases e : i = k * 6 + f
    · rw [if_pos e] at hb; exact hn b hb
    · rw [if_neg e] at hb; exact h.fresh i (by omega) hi2 h6 b hb
  · rw [Below.heap_setCell _ _ _ _ (by simp)]; exact h.res
theorem CopyInv.putI (h : CopyInv w0 s zr ov nv (k * 6 + f) w) (hk : k < 32) (h2 : 2 ≤ f) (hf : f < 6) (own : w.ownsRow b1 3 1 v ((s.ent k).nums f).length (intCells ((s.ent k).nums f))) (hb1 : w0.heap.size + 2 ≤ b1) (hno : ∀ b, b1 ≤ b → ov.ownBlock ≠ some b) (hl : ((s.ent k).nums f).length * 8 ≤ 140737488355328) :
    CopyInv w0 s zr ov (fun i => if i = k * 6 + f then v else nv i) (k * 6 + (f + 1)) (w.setCell ⟨w0.heap.size, k * 6 + f, none⟩ v) := by
  refine h.put hk (by omega) hf ?_ (fun b hb => by have := (World.ownsRow.lt own b hb).1; omega)
  unfold fieldOK
  rw [if_neg (by omega), if_neg (by omega)]
  exact (IsI.of_owns own hl).mono (fun b _ hb => ⟨⟨by omega, by omega⟩, hno b hb.1⟩)
theorem CopyInv.putO (h : CopyInv w0 s zr ov nv (k * 6 + 1) w) (hk : k < 32) (own : w.ownsRow b1 108 3 v (s.ent k).ops.length (opsCells (s.ent k).ops)) (hb1 : w0.heap.size + 2 ≤ b1) (hno : ∀ b, b1 ≤ b → ov.ownBlock ≠ some b) (hl : (s.ent k).ops.length * 24 ≤ 140737488355328) :
    CopyInv w0 s zr ov (fun i => if i = k * 6 + 1 then v else nv i) (k * 6 + (1 + 1)) (w.setCell ⟨w0.heap.size, k * 6 + 1, none⟩ v) := by
  refine h.put hk (by omega) (by omega) ?_ (fun b hb => by have := (World.ownsRow.lt own b hb).1; omega)
  exact (IsO.of_owns own hl).mono (fun b _ hb => ⟨⟨by omega, by omega⟩, hno b hb.1⟩)
theorem CopyInv.getI (h : CopyInv w0 s zr ov nv m w) (hk : k < 32) (f : Nat) (h2 : 2 ≤ f) (hf : f < 6) :
    ∃ a cap, w.cell? ⟨w0.heap.size, k * 6 + f, none⟩ = some (.slice a ((s.ent k).nums f).length cap) ∧ SlInts w a cap ((s.ent k).nums f) ∧ ((s.ent k).nums f).length * 8 ≤ 140737488355328 := by
  have hv := (h.node.ent k hk).get f hf
  unfold fieldOK at hv
  rw [if_neg (by omega), if_neg (by omega)] at hv
  obtain ⟨a, cap, e, hs⟩ := hv.sl
  refine ⟨a, cap, by rw [h.blk.cell (by omega), e], hs, ?_⟩
  obtain ⟨_, _, _, _, hl, _⟩ := hv
  exact hl
theorem CopyInv.getO (h : CopyInv w0 s zr ov nv m w) (hk : k < 32) :
    ∃ a cap, w.cell? ⟨w0.heap.size, k * 6 + 1, none⟩ = some (.slice a (s.ent k).ops.length cap) ∧ SlOps w a cap (s.ent k).ops ∧ (s.ent k).ops.length * 24 ≤ 140737488355328 := by
  have hv := (h.node.ent k hk).ops
  obtain ⟨a, cap, e, hs⟩ := hv.sl
  refine ⟨a, cap, by rw [h.blk.cell (by omega), e], hs, ?_⟩
  obtain ⟨_, _, _, _, hl, _⟩ := hv
  exact hl
theorem CopyInv.next (h : CopyInv w0 s zr ov nv (k * 6 + 6) w) : CopyInv w0 s zr ov nv ((k + 1) * 6 + 1) w :=
  ⟨h.blk, h.e192, h.node, fun i hi hi2 h6 => h.fresh i (by omega) hi2 h6, h.order, h.len, h.below, h.res⟩
theorem CopyInv.no (h : CopyInv w0 s zr ov nv m w) : ∀ b, w.heap.size ≤ b → ov.ownBlock ≠ some b := fun b hb e => by have := (World.ownsRow.lt h.order b e).2; omega
theorem CopyInv.one (h : CopyInv w0 s zr ov nv m w) : ∀ i, i < 201 → (nv i).oneCell' = true :=
  NodeC.one (ok := fun _ => True) (w := w) (s := s) ⟨h.node.mono (fun _ _ _ => trivial), by rw [h.e192]; exact (IsI.of_owns h.order h.len).mono (fun _ _ _ => trivial)⟩
theorem CopyInv.done (h : CopyInv w0 s zr ov nv (32 * 6 + 1) w) (fr : Array Value) : ApartR w0.heap.size (w.setRow (w0.heap.size + 1) fr) nv s ∧ Below w0.heap.size w0 (w.setRow (w0.heap.size + 1) fr) := by
  have hE : NodeE (fun b => w0.heap.size + 1 < b ∧ ov.ownBlock ≠ some b) w nv s := by
    refine ⟨fun i hi => EntC.of fun f hf => ?_, h.node.vals⟩
    have h1 := (h.node.ent i hi).get f hf
    by_cases f0 : f = 0
    · subst f0; exact h1
    · have h2 := h.fresh (i * 6 + f) (by omega) (by omega) (by omega)
      unfold fieldOK at h1 ⊢
      rw [if_neg f0] at h1 ⊢
      by_cases f1 : f = 1
      · rw [if_pos f1] at h1 ⊢; exact (h1.with h2).mono (fun _ _ hb => ⟨hb.2, hb.1.2⟩)
      · rw [if_neg f1] at h1 ⊢; exact (h1.with h2).mono (fun _ _ hb => ⟨hb.2, hb.1.2⟩)
  refine ⟨⟨?_, ?_, h.len⟩, setRow_below h.below (by omega) _⟩
  · rw [h.e192]
    exact (hE.later (fun b _ hb => setRow_other _ _ (by omega))).mono (fun b _ hb => ⟨by omega, hb.2⟩)
  · rw [h.e192]
    exact own_mono (own_same h.order (fun k hk => setRow_other _ _ (by have := (World.ownsRow.lt h.order k hk).1; omega))) (by omega)
end

set_option maxRecDepth 100000 in
set_option maxHeartbeats 2000000 in
theorem copyNode_any (nv : Nat → Value) (s : NodeL) (w : World) (h : NodeC (· < w.heap.size) w nv s) :
    Calls Try.prog 21 #[.agg (rowF 201 nv)] w fun e w' => ∃ nv', e = .returned (.agg (rowF 201 nv')) ∧ ApartR w.heap.size w' nv' s ∧ Below w.heap.size w w' := by
  obtain ⟨io, hio, oz0, oz1, oz2⟩ := info_parts Try.infoOp
  obtain ⟨i0, hi0, iz0, iz1, iz2⟩ := info_parts Try.infoInt
  obtain ⟨gr, hgr⟩ : ∃ gr, gr = rowF 201 nv := ⟨_, rfl⟩
  obtain ⟨zr, hzr⟩ : ∃ zr, zr = rowF 201 zv := ⟨_, rfl⟩
  have hz0 := Try.zeroNode
  rw [← hgr]
  rw [← hzr] at hz0
  obtain ⟨ao, co, eo, hso⟩ := h.order.sl
  have hlo : s.order.length * 8 ≤ 140737488355328 := by
    obtain ⟨_, _, _, _, hl, _⟩ := h.order
    exact hl
  obtain ⟨W, hW⟩ : ∃ W, W = (w.alloc (.cells gr 41)).alloc (.cells zr 41) := ⟨_, rfl⟩
  obtain ⟨r0, r1⟩ := two_rows w (.cells gr 41) (.cells zr 41)
  rw [← hW] at r0 r1
  have hb : Below w.heap.size w W := by rw [hW]; exact ((Below.refl _ _).alloc (Nat.le_refl _) _).alloc (by rw [size_push]; omega) _
  have hzW : W.heap.size = w.heap.size + 2 := by rw [hW, size_push, size_push]
  have HBlk : Hid (BlkAt 201 W w.heap.size nv) := ⟨41, by rw [← hgr]; exact r0⟩
  have HN : Hid (NodeC (· < w.heap.size) w nv s) := h
  have HG : Hid (gr = rowF 201 nv) := hgr
  have HZ : Hid (zr = rowF 201 zv) := hzr
  have HW : Hid (W = (w.alloc (.cells gr 41)).alloc (.cells zr 41)) := hW
  have HSO : Hid (SlInts W ao co s.order) := hso.later hb
  have qo : W.cell? ⟨w.heap.size, 192, none⟩ = some (.slice ao s.order.length co) := by rw [HBlk.out.cell (by omega), eo]
  clear hgr hzr hW h eo hso r0
  go_enter Try.func21, Try.ntmps21
  go_upto_region 1 with (first
    | (refine wpList_alloc_as rfl 41 rfl zr hz0 ?_)
    | fail)
  rw [← HW.out]
  clear HW hz0
  go_wp2_with (refine wpList_copy rfl _ _ 23 rfl 3 i0 _ 1 8 Try.underlying23 hi0 iz0 iz1 iz2 rfl (by decide) rfl ao s.order.length co (intCells s.order) rfl (intCells_len s.order) HSO.out.2.2.2 (ints_cells HSO.out) (ints_one s.order) HSO.out.2.1 hlo ?_)
  intro bo do_ x1 own1 g1
  have hb1 : Below W.heap.size W x1 := (Below.refl _ _).grown g1 (Nat.le_refl _) (by simp)
  have c1 : x1.cell? ⟨w.heap.size, 192, none⟩ = some (.slice ao s.order.length co) := by rw [hb1.cell (p := ⟨w.heap.size, 192, none⟩) (by show w.heap.size < _; omega)]; exact qo
  have HBx : Hid (BlkAt 201 x1 w.heap.size nv) := HBlk.out.later hb1 (by omega)
  have f1 := HBx.out.frozen 192
  obtain ⟨mv0, hmv0⟩ : ∃ mv0 : Nat → Value, mv0 = fun i => if i = 192 then .slice bo s.order.length do_ else nv i := ⟨_, rfl⟩
  have H0 : Hid (CopyInv w s zr (.slice bo s.order.length do_) mv0 (0 * 6 + 1) (x1.setCell ⟨w.heap.size, 192, none⟩ (.slice bo s.order.length do_))) := by
    have hbx : Below w.heap.size w x1 := hb.trans (hb1.mono (by omega))
    rw [hmv0]
    refine ⟨HBx.out.put _ _, if_pos rfl, ?_, fun i hi _ h6 => by omega, own_put (own_mono own1 (by omega)) (by omega), hlo, hbx.setCell (Nat.le_refl _) _, ?_⟩
    · have h1 : NodeE (· < w.heap.size) x1 nv s := HN.out.es.later (SameOn.of_size hbx)
      have h2 := h1.later (w' := x1.setCell ⟨w.heap.size, 192, none⟩ (.slice bo s.order.length do_)) (fun b _ (hb : b < w.heap.size) => Below.heap_setCell _ _ _ _ (by show b ≠ w.heap.size; omega))
      have h3 := h2.mono (ok' := fun b => (b ≠ w.heap.size ∧ b ≠ w.heap.size + 1) ∧ (Value.slice bo s.order.length do_).ownBlock ≠ some b) (fun b _ (hb : b < w.heap.size) => ⟨⟨by omega, by omega⟩, fun e => by have := (World.ownsRow.lt own1 b e).1; omega⟩)
      refine ⟨fun i hi => (h3.ent i hi).same fun j hj => ?_, fun k hk => ?_⟩
      · show (if i * 6 + j = 192 then _ else nv (i * 6 + j)) = _
        rw [if_neg (by omega)]
      · show (if 193 + k = 192 then _ else nv (193 + k)) = _
        rw [if_neg (by omega)]
        exact h3.vals k hk
    · rw [Below.heap_setCell _ _ _ _ (by simp), hb1.block _ (by omega)]; exact r1
  clear hmv0 HBx own1 g1 hb1 r1 HSO qo hb HBlk HN
  go_upto_region 2 with fail
  generalize x1.setCell ⟨w.heap.size, 192, none⟩ (.slice bo s.order.length do_) = X0 at *
  clear c1 f1
  go_wp2_with fail
  go_loopw [9] (fun i wr => ∃ (k : Nat) (mv : Nat → Value), k ≤ 32 ∧ i = .int .i64 k ∧ Hid (CopyInv w s zr (.slice bo s.order.length do_) mv (k * 6 + 1) wr)) (fun i _ => 32 - (intOf i).toNat)
  case atStart => exact ⟨0, mv0, Nat.zero_le _, rfl, H0⟩
  case round =>
    obtain ⟨k, mv, hk, rfl, H⟩ := hrel
    clear H0
    by_cases hlt : k < 32
    · have n1 : (0 : Int) ≤ (k : Int) ∧ (k : Int) < 32 := by omega
      obtain ⟨a1, c1, q1, hs1, hl1⟩ := H.out.getO hlt
      have HS1 : Hid (SlOps wr a1 c1 (s.ent k).ops) := hs1
      have HL1 : Hid ((s.ent k).ops.length * 24 ≤ 140737488355328) := hl1
      clear hs1 hl1
      obtain ⟨a2, c2, q2, hs2, hl2⟩ := H.out.getI hlt 2 (by omega) (by omega)
      have HS2 : Hid (SlInts wr a2 c2 ((s.ent k).nums 2)) := hs2
      have HL2 : Hid (((s.ent k).nums 2).length * 8 ≤ 140737488355328) := hl2
      clear hs2 hl2
      obtain ⟨a3, c3, q3, hs3, hl3⟩ := H.out.getI hlt 3 (by omega) (by omega)
      have HS3 : Hid (SlInts wr a3 c3 ((s.ent k).nums 3)) := hs3
      have HL3 : Hid (((s.ent k).nums 3).length * 8 ≤ 140737488355328) := hl3
      clear hs3 hl3
      go_upto_region 6 with fail
      refine wp_region_gate_drew (T := [18, 19, 20, 21, 22, 23, 24, 25, 26]) (S := fun w' => w'.cell? ⟨w.heap.size, k * 6 + 1, none⟩ = some (.slice a1 (s.ent k).ops.length c1) ∧ w'.cell? ⟨w.heap.size, k * 6 + 2, none⟩ = some (.slice a2 ((s.ent k).nums 2).length c2) ∧ w'.cell? ⟨w.heap.size, k * 6 + 3, none⟩ = some (.slice a3 ((s.ent k).nums 3).length c3)) (by kernel_rfl) (by exact ⟨q1, q2, q3⟩) ?_
      intro hH
      have Da : Hid (CopyInv w s zr (.slice bo s.order.length do_) mv _ wr.drew) := H.out.later (Below.refl _ _).drew
      have HD1 : Hid (SlOps wr.drew a1 c1 (s.ent k).ops) := HS1.out.later (Below.refl _ _).drew
      have HD2 : Hid (SlInts wr.drew a2 c2 ((s.ent k).nums 2)) := HS2.out.later (Below.refl _ _).drew
      have HD3 : Hid (SlInts wr.drew a3 c3 ((s.ent k).nums 3)) := HS3.out.later (Below.refl _ _).drew
      clear H q1 HS1 q2 HS2 q3 HS3
      generalize wr.drew = Za0 at *
      refine wpAnyG_takeW (i := 0) (d := some 15) (v := .pointer (some ⟨w.heap.size, k * 6, none⟩)) rfl rfl (by kernel_rfl) (by kernel_rfl) (by kernel_rfl) (fun _ _ _ h => h) (by decide) (Or.inl ⟨by rfl, fun _ _ => by go_simp⟩) hH ?_
      simp only [Act.put, List.setIfInBounds_toArray, List.set_cons_zero, List.set_cons_succ]
      refine wpAnyG_takeW (i := 1) (d := some 16) (v := .pointer (some ⟨w.heap.size, k * 6, none⟩)) rfl rfl (by kernel_rfl) (by kernel_rfl) (by kernel_rfl) (fun _ _ _ h => h) (by decide) (Or.inl ⟨by rfl, fun _ _ => by go_simp⟩) hH ?_
      simp only [Act.put, List.setIfInBounds_toArray, List.set_cons_zero, List.set_cons_succ]
      refine wpAnyG_takeW (i := 2) (d := some 17) (v := .pointer (some ⟨w.heap.size, k * 6, none⟩)) rfl rfl (by kernel_rfl) (by kernel_rfl) (by kernel_rfl) (fun _ _ _ h => h) (by decide) (Or.inl ⟨by rfl, fun _ _ => by go_simp⟩) hH ?_
      simp only [Act.put, List.setIfInBounds_toArray, List.set_cons_zero, List.set_cons_succ]
      refine wpAnyG_takeW (i := 3) (d := some 18) (v := .pointer (some ⟨w.heap.size, k * 6, none⟩)) rfl rfl (by kernel_rfl) (by kernel_rfl) (by kernel_rfl) (fun _ _ _ h => h) (by decide) (Or.inl ⟨by rfl, fun _ _ => by go_simp⟩) hH ?_
      simp only [Act.put, List.setIfInBounds_toArray, List.set_cons_zero, List.set_cons_succ]
      refine wpAnyG_takeW (i := 4) (d := some 19) (v := .pointer (some ⟨w.heap.size, k * 6, none⟩)) rfl rfl (by kernel_rfl) (by kernel_rfl) (by kernel_rfl) (fun _ _ _ h => h) (by decide) (Or.inl ⟨by rfl, fun _ _ => by go_simp⟩) hH ?_
      simp only [Act.put, List.setIfInBounds_toArray, List.set_cons_zero, List.set_cons_succ]
      refine wpAnyG_takeW (i := 5) (d := some 20) (v := .pointer (some ⟨w.heap.size, k * 6 + 1, none⟩)) rfl rfl (by kernel_rfl) (by kernel_rfl) (by kernel_rfl) (fun _ _ _ h => h) (by decide) (Or.inl ⟨by rfl, fun _ _ => by go_simp⟩) hH ?_
      simp only [Act.put, List.setIfInBounds_toArray, List.set_cons_zero, List.set_cons_succ]
      refine wpAnyG_take (i := 6) (d := some 21) (v := .slice a1 (s.ent k).ops.length c1) rfl rfl (by kernel_rfl) (by kernel_rfl) (by kernel_rfl) (fun _ _ _ h => h) (by kernel_rfl) (by decide) (by kernel_rfl) (Or.inl ⟨by rfl, fun wx hx => by have cx := hx.1; go_simp⟩) hH ?_
      simp only [Act.put, List.setIfInBounds_toArray, List.set_cons_zero, List.set_cons_succ]
      refine wpAnyG_takeW (i := 8) (d := some 23) (v := .pointer (some ⟨w.heap.size, k * 6, none⟩)) rfl rfl (by kernel_rfl) (by kernel_rfl) (by kernel_rfl) (fun _ _ _ h => h) (by decide) (Or.inl ⟨by rfl, fun _ _ => by go_simp⟩) hH ?_
      simp only [Act.put, List.setIfInBounds_toArray, List.set_cons_zero, List.set_cons_succ]
      refine wpAnyG_takeW (i := 9) (d := some 24) (v := .pointer (some ⟨w.heap.size, k * 6, none⟩)) rfl rfl (by kernel_rfl) (by kernel_rfl) (by kernel_rfl) (fun _ _ _ h => h) (by decide) (Or.inl ⟨by rfl, fun _ _ => by go_simp⟩) hH ?_
      simp only [Act.put, List.setIfInBounds_toArray, List.set_cons_zero, List.set_cons_succ]
      refine wpAnyG_takeW (i := 10) (d := some 25) (v := .pointer (some ⟨w.heap.size, k * 6 + 2, none⟩)) rfl rfl (by kernel_rfl) (by kernel_rfl) (by kernel_rfl) (fun _ _ _ h => h) (by decide) (Or.inl ⟨by rfl, fun _ _ => by go_simp⟩) hH ?_
      simp only [Act.put, List.setIfInBounds_toArray, List.set_cons_zero, List.set_cons_succ]
      refine wpAnyG_take (i := 11) (d := some 26) (v := .slice a2 ((s.ent k).nums 2).length c2) rfl rfl (by kernel_rfl) (by kernel_rfl) (by kernel_rfl) (fun _ _ _ h => h) (by kernel_rfl) (by decide) (by kernel_rfl) (Or.inl ⟨by rfl, fun wx hx => by have cx := hx.2.1; go_simp⟩) hH ?_
      simp only [Act.put, List.setIfInBounds_toArray, List.set_cons_zero, List.set_cons_succ]
      refine wpAnyG_takeW (i := 13) (d := some 28) (v := .pointer (some ⟨w.heap.size, k * 6, none⟩)) rfl rfl (by kernel_rfl) (by kernel_rfl) (by kernel_rfl) (fun _ _ _ h => h) (by decide) (Or.inl ⟨by rfl, fun _ _ => by go_simp⟩) hH ?_
      simp only [Act.put, List.setIfInBounds_toArray, List.set_cons_zero, List.set_cons_succ]
      refine wpAnyG_takeW (i := 14) (d := some 29) (v := .pointer (some ⟨w.heap.size, k * 6, none⟩)) rfl rfl (by kernel_rfl) (by kernel_rfl) (by kernel_rfl) (fun _ _ _ h => h) (by decide) (Or.inl ⟨by rfl, fun _ _ => by go_simp⟩) hH ?_
      simp only [Act.put, List.setIfInBounds_toArray, List.set_cons_zero, List.set_cons_succ]
      refine wpAnyG_takeW (i := 15) (d := some 30) (v := .pointer (some ⟨w.heap.size, k * 6 + 3, none⟩)) rfl rfl (by kernel_rfl) (by kernel_rfl) (by kernel_rfl) (fun _ _ _ h => h) (by decide) (Or.inl ⟨by rfl, fun _ _ => by go_simp⟩) hH ?_
      simp only [Act.put, List.setIfInBounds_toArray, List.set_cons_zero, List.set_cons_succ]
      refine wpAnyG_take (i := 16) (d := some 31) (v := .slice a3 ((s.ent k).nums 3).length c3) rfl rfl (by kernel_rfl) (by kernel_rfl) (by kernel_rfl) (fun _ _ _ h => h) (by kernel_rfl) (by decide) (by kernel_rfl) (Or.inl ⟨by rfl, fun wx hx => by have cx := hx.2.2; go_simp⟩) hH ?_
      simp only [Act.put, List.setIfInBounds_toArray, List.set_cons_zero, List.set_cons_succ]
      have Ka : Hid (∀ x, Below Za0.heap.size Za0 x → x.cell? ⟨w.heap.size, k * 6 + 1, none⟩ = some (.slice a1 (s.ent k).ops.length c1) ∧ x.cell? ⟨w.heap.size, k * 6 + 2, none⟩ = some (.slice a2 ((s.ent k).nums 2).length c2) ∧ x.cell? ⟨w.heap.size, k * 6 + 3, none⟩ = some (.slice a3 ((s.ent k).nums 3).length c3)) := fun x hx => by
        have hl := Da.out.lt
        exact ⟨by rw [hx.cell (p := ⟨w.heap.size, k * 6 + 1, none⟩) (by show w.heap.size < _; omega)]; exact hH.1, by rw [hx.cell (p := ⟨w.heap.size, k * 6 + 2, none⟩) (by show w.heap.size < _; omega)]; exact hH.2.1, by rw [hx.cell (p := ⟨w.heap.size, k * 6 + 3, none⟩) (by show w.heap.size < _; omega)]; exact hH.2.2⟩
      have Ba0 : Below Za0.heap.size Za0 Za0 := Below.refl _ _
      refine wpAnyG_ready (rs := [7]) (by kernel_rfl) (by simp) ?_
      refine AllReadyG.cons rfl (fun K hK => ?_) AllReadyG.nil
      have HC1 : Hid (SlOps Za0 a1 c1 (s.ent k).ops) := HD1.out.later Ba0
      refine step_copy (by rfl) _ _ 35 (by rfl) 108 io _ 3 24 Try.underlying35 hio oz0 oz1 oz2 rfl (by decide) (by rfl) a1 (s.ent k).ops.length c1 (opsCells (s.ent k).ops) (by rfl) (opsCells_len (s.ent k).ops) HC1.out.2.2.2 (ops_cells HC1.out) (ops_one (s.ent k).ops) HC1.out.2.1 HL1.out ?_
      intro b1 d1 Za1 own1 g1
      have Ba1 : Below Za0.heap.size Za0 Za1 := Ba0.grown g1 Ba0.size (by simp)
      have O1 : Hid (Za1.ownsRow Za0.heap.size 108 3 (.slice b1 (s.ent k).ops.length d1) (s.ent k).ops.length (opsCells (s.ent k).ops)) := own_mono own1 Ba0.size
      refine hK.out _ _ (Ka.out _ Ba1) (fun hH2 => ?_)
      clear hK K hH
      have hH := hH2
      clear hH2 own1 g1
      try simp only [Act.put]
      try simp only [List.setIfInBounds_toArray]
      try simp only [List.set_cons_zero, List.set_cons_succ]
      refine wpAnyG_ready (rs := [12]) (by kernel_rfl) (by simp) ?_
      refine AllReadyG.cons rfl (fun K hK => ?_) AllReadyG.nil
      have HC2 : Hid (SlInts Za1 a2 c2 ((s.ent k).nums 2)) := HD2.out.later Ba1
      refine step_copy (by rfl) _ _ 23 (by rfl) 3 i0 _ 1 8 Try.underlying23 hi0 iz0 iz1 iz2 rfl (by decide) (by rfl) a2 ((s.ent k).nums 2).length c2 (intCells ((s.ent k).nums 2)) (by rfl) (intCells_len ((s.ent k).nums 2)) HC2.out.2.2.2 (ints_cells HC2.out) (ints_one ((s.ent k).nums 2)) HC2.out.2.1 HL2.out ?_
      intro b2 d2 Za2 own2 g2
      have Ba2 : Below Za0.heap.size Za0 Za2 := Ba1.grown g2 Ba1.size (by simp)
      have O2 : Hid (Za2.ownsRow Za0.heap.size 3 1 (.slice b2 ((s.ent k).nums 2).length d2) ((s.ent k).nums 2).length (intCells ((s.ent k).nums 2))) := own_mono own2 Ba1.size
      have O1 : Hid _ := own_none O1.out g2
      refine hK.out _ _ (Ka.out _ Ba2) (fun hH2 => ?_)
      clear hK K hH
      have hH := hH2
      clear hH2 own2 g2
      try simp only [Act.put]
      try simp only [List.setIfInBounds_toArray]
      try simp only [List.set_cons_zero, List.set_cons_succ]
      refine wpAnyG_ready (rs := [17]) (by kernel_rfl) (by simp) ?_
      refine AllReadyG.cons rfl (fun K hK => ?_) AllReadyG.nil
      have HC3 : Hid (SlInts Za2 a3 c3 ((s.ent k).nums 3)) := HD3.out.later Ba2
      refine step_copy (by rfl) _ _ 23 (by rfl) 3 i0 _ 1 8 Try.underlying23 hi0 iz0 iz1 iz2 rfl (by decide) (by rfl) a3 ((s.ent k).nums 3).length c3 (intCells ((s.ent k).nums 3)) (by rfl) (intCells_len ((s.ent k).nums 3)) HC3.out.2.2.2 (ints_cells HC3.out) (ints_one ((s.ent k).nums 3)) HC3.out.2.1 HL3.out ?_
      intro b3 d3 Za3 own3 g3
      have Ba3 : Below Za0.heap.size Za0 Za3 := Ba2.grown g3 Ba2.size (by simp)
      have O3 : Hid (Za3.ownsRow Za0.heap.size 3 1 (.slice b3 ((s.ent k).nums 3).length d3) ((s.ent k).nums 3).length (intCells ((s.ent k).nums 3))) := own_mono own3 Ba2.size
      have O1 : Hid _ := own_none O1.out g3
      have O2 : Hid _ := own_none O2.out g3
      refine hK.out _ _ (Ka.out _ Ba3) (fun hH2 => ?_)
      clear hK K hH
      have hH := hH2
      clear hH2 own3 g3
      try simp only [Act.put]
      try simp only [List.setIfInBounds_toArray]
      try simp only [List.set_cons_zero, List.set_cons_succ]
      refine wpAnyG_of_any _ _ _ _ (by kernel_rfl) ?_
      have Ea : Hid (CopyInv w s zr (.slice bo s.order.length do_) mv _ Za3) := Da.out.later Ba3
      have noa := Da.out.no
      have lta := Da.out.lt
      have y1 := hH.1
      have z1 := Ea.out.blk.frozen (k * 6 + 1)
      have y2 := hH.2.1
      have z2 := Ea.out.blk.frozen (k * 6 + 2)
      have y3 := hH.2.2
      have z3 := Ea.out.blk.frozen (k * 6 + 3)
      have F1 : Hid (CopyInv w s zr (.slice bo s.order.length do_) _ _ (Za3.setCell ⟨w.heap.size, k * 6 + 1, none⟩ (.slice b1 (s.ent k).ops.length d1))) := Ea.out.putO hlt O1.out (by omega) noa HL1.out
      have F2 : Hid (CopyInv w s zr (.slice bo s.order.length do_) _ _ ((Za3.setCell ⟨w.heap.size, k * 6 + 1, none⟩ (.slice b1 (s.ent k).ops.length d1)).setCell ⟨w.heap.size, k * 6 + 2, none⟩ (.slice b2 ((s.ent k).nums 2).length d2))) := F1.out.putI hlt (by omega) (by omega) (own_put O2.out (by omega)) (by omega) noa HL2.out
      have F3 : Hid (CopyInv w s zr (.slice bo s.order.length do_) _ _ (((Za3.setCell ⟨w.heap.size, k * 6 + 1, none⟩ (.slice b1 (s.ent k).ops.length d1)).setCell ⟨w.heap.size, k * 6 + 2, none⟩ (.slice b2 ((s.ent k).nums 2).length d2)).setCell ⟨w.heap.size, k * 6 + 3, none⟩ (.slice b3 ((s.ent k).nums 3).length d3))) := F2.out.putI hlt (by omega) (by omega) (own_put (own_put O3.out (by omega)) (by omega)) (by omega) noa HL3.out
      clear Da Ea Ka O1 HC1 HD1 HL1 O2 HC2 HD2 HL2 O3 HC3 HD3 HL3 Ba0 Ba1 Ba2 Ba3 noa lta hH F1 F2
      refine wpAny_takeD (i := 18) (d := some 33) (v := .pointer (some ⟨w.heap.size, k * 6, none⟩)) rfl rfl (by kernel_rfl) (by kernel_rfl) (by kernel_rfl) (fun _ _ _ h => h) (Or.inl ⟨by rfl, fun _ => by go_simp⟩) ?_
      try simp only [Act.put]
      try simp only [List.setIfInBounds_toArray]
      try simp only [List.set_cons_zero, List.set_cons_succ]
      refine wpAny_takeD (i := 19) (d := some 34) (v := .pointer (some ⟨w.heap.size, k * 6 + 1, none⟩)) rfl rfl (by kernel_rfl) (by kernel_rfl) (by kernel_rfl) (fun _ _ _ h => h) (Or.inl ⟨by rfl, fun _ => by go_simp⟩) ?_
      try simp only [Act.put]
      try simp only [List.setIfInBounds_toArray]
      try simp only [List.set_cons_zero, List.set_cons_succ]
      refine wpAny_ready (rs := [20]) (by kernel_rfl) (by simp) ?_
      refine AllReady.cons rfl (fun K hK => ?_) AllReady.nil
      go_simp
      refine hK _ _ ?_
      clear hK K
      refine wpAny_takeD (i := 21) (d := some 35) (v := .pointer (some ⟨w.heap.size, k * 6, none⟩)) rfl rfl (by kernel_rfl) (by kernel_rfl) (by kernel_rfl) (fun _ _ _ h => h) (Or.inl ⟨by rfl, fun _ => by go_simp⟩) ?_
      try simp only [Act.put]
      try simp only [List.setIfInBounds_toArray]
      try simp only [List.set_cons_zero, List.set_cons_succ]
      refine wpAny_takeD (i := 22) (d := some 36) (v := .pointer (some ⟨w.heap.size, k * 6 + 2, none⟩)) rfl rfl (by kernel_rfl) (by kernel_rfl) (by kernel_rfl) (fun _ _ _ h => h) (Or.inl ⟨by rfl, fun _ => by go_simp⟩) ?_
      try simp only [Act.put]
      try simp only [List.setIfInBounds_toArray]
      try simp only [List.set_cons_zero, List.set_cons_succ]
      refine wpAny_ready (rs := [23]) (by kernel_rfl) (by simp) ?_
      refine AllReady.cons rfl (fun K hK => ?_) AllReady.nil
      go_simp
      refine hK _ _ ?_
      clear hK K
      refine wpAny_takeD (i := 24) (d := some 37) (v := .pointer (some ⟨w.heap.size, k * 6, none⟩)) rfl rfl (by kernel_rfl) (by kernel_rfl) (by kernel_rfl) (fun _ _ _ h => h) (Or.inl ⟨by rfl, fun _ => by go_simp⟩) ?_
      try simp only [Act.put]
      try simp only [List.setIfInBounds_toArray]
      try simp only [List.set_cons_zero, List.set_cons_succ]
      refine wpAny_takeD (i := 25) (d := some 38) (v := .pointer (some ⟨w.heap.size, k * 6 + 3, none⟩)) rfl rfl (by kernel_rfl) (by kernel_rfl) (by kernel_rfl) (fun _ _ _ h => h) (Or.inl ⟨by rfl, fun _ => by go_simp⟩) ?_
      try simp only [Act.put]
      try simp only [List.setIfInBounds_toArray]
      try simp only [List.set_cons_zero, List.set_cons_succ]
      refine wpAny_ready (rs := [26]) (by kernel_rfl) (by simp) ?_
      refine AllReady.cons rfl (fun K hK => ?_) AllReady.nil
      go_simp
      refine hK _ _ ?_
      clear hK K
      refine wpAny_done (by kernel_rfl) ?_ _
      clear y1 z1 y2 z2 y3 z3
      generalize ((Za3.setCell ⟨w.heap.size, k * 6 + 1, none⟩ (.slice b1 (s.ent k).ops.length d1)).setCell ⟨w.heap.size, k * 6 + 2, none⟩ (.slice b2 ((s.ent k).nums 2).length d2)).setCell ⟨w.heap.size, k * 6 + 3, none⟩ (.slice b3 ((s.ent k).nums 3).length d3) = W6 at *
      go_upto_region 7 with fail
      obtain ⟨mw, hmw⟩ : ∃ mw : Nat → Value, mw = fun i => if i = k * 6 + 3 then (.slice b3 ((s.ent k).nums 3).length d3 : Value) else if i = k * 6 + 2 then .slice b2 ((s.ent k).nums 2).length d2 else if i = k * 6 + 1 then .slice b1 (s.ent k).ops.length d1 else mv i := ⟨_, rfl⟩
      have H7 : Hid (CopyInv w s zr (.slice bo s.order.length do_) mw (k * 6 + 4) W6) := by rw [hmw]; exact F3.out
      clear hmw F3
      obtain ⟨a4, c4, q4, hs4, hl4⟩ := H7.out.getI hlt 4 (by omega) (by omega)
      have HS4 : Hid (SlInts W6 a4 c4 ((s.ent k).nums 4)) := hs4
      have HL4 : Hid (((s.ent k).nums 4).length * 8 ≤ 140737488355328) := hl4
      clear hs4 hl4
      obtain ⟨a5, c5, q5, hs5, hl5⟩ := H7.out.getI hlt 5 (by omega) (by omega)
      have HS5 : Hid (SlInts W6 a5 c5 ((s.ent k).nums 5)) := hs5
      have HL5 : Hid (((s.ent k).nums 5).length * 8 ≤ 140737488355328) := hl5
      clear hs5 hl5
      go_upto_region 7 with fail
      refine wp_region_gate_drew (T := [12, 13, 14, 15, 16, 17]) (S := fun w' => w'.cell? ⟨w.heap.size, k * 6 + 4, none⟩ = some (.slice a4 ((s.ent k).nums 4).length c4) ∧ w'.cell? ⟨w.heap.size, k * 6 + 5, none⟩ = some (.slice a5 ((s.ent k).nums 5).length c5)) (by kernel_rfl) (by exact ⟨q4, q5⟩) ?_
      intro hH
      have Db : Hid (CopyInv w s zr (.slice bo s.order.length do_) mw _ W6.drew) := H7.out.later (Below.refl _ _).drew
      have HD4 : Hid (SlInts W6.drew a4 c4 ((s.ent k).nums 4)) := HS4.out.later (Below.refl _ _).drew
      have HD5 : Hid (SlInts W6.drew a5 c5 ((s.ent k).nums 5)) := HS5.out.later (Below.refl _ _).drew
      clear H7 q4 HS4 q5 HS5
      generalize W6.drew = Zb0 at *
      refine wpAnyG_takeW (i := 0) (d := some 39) (v := .pointer (some ⟨w.heap.size, k * 6, none⟩)) rfl rfl (by kernel_rfl) (by kernel_rfl) (by kernel_rfl) (fun _ _ _ h => h) (by decide) (Or.inl ⟨by rfl, fun _ _ => by go_simp⟩) hH ?_
      simp only [Act.put, List.setIfInBounds_toArray, List.set_cons_zero, List.set_cons_succ]
      refine wpAnyG_takeW (i := 1) (d := some 40) (v := .pointer (some ⟨w.heap.size, k * 6, none⟩)) rfl rfl (by kernel_rfl) (by kernel_rfl) (by kernel_rfl) (fun _ _ _ h => h) (by decide) (Or.inl ⟨by rfl, fun _ _ => by go_simp⟩) hH ?_
      simp only [Act.put, List.setIfInBounds_toArray, List.set_cons_zero, List.set_cons_succ]
      refine wpAnyG_takeW (i := 2) (d := some 41) (v := .pointer (some ⟨w.heap.size, k * 6, none⟩)) rfl rfl (by kernel_rfl) (by kernel_rfl) (by kernel_rfl) (fun _ _ _ h => h) (by decide) (Or.inl ⟨by rfl, fun _ _ => by go_simp⟩) hH ?_
      simp only [Act.put, List.setIfInBounds_toArray, List.set_cons_zero, List.set_cons_succ]
      refine wpAnyG_takeW (i := 3) (d := some 42) (v := .pointer (some ⟨w.heap.size, k * 6, none⟩)) rfl rfl (by kernel_rfl) (by kernel_rfl) (by kernel_rfl) (fun _ _ _ h => h) (by decide) (Or.inl ⟨by rfl, fun _ _ => by go_simp⟩) hH ?_
      simp only [Act.put, List.setIfInBounds_toArray, List.set_cons_zero, List.set_cons_succ]
      refine wpAnyG_takeW (i := 4) (d := some 43) (v := .pointer (some ⟨w.heap.size, k * 6 + 4, none⟩)) rfl rfl (by kernel_rfl) (by kernel_rfl) (by kernel_rfl) (fun _ _ _ h => h) (by decide) (Or.inl ⟨by rfl, fun _ _ => by go_simp⟩) hH ?_
      simp only [Act.put, List.setIfInBounds_toArray, List.set_cons_zero, List.set_cons_succ]
      refine wpAnyG_take (i := 5) (d := some 44) (v := .slice a4 ((s.ent k).nums 4).length c4) rfl rfl (by kernel_rfl) (by kernel_rfl) (by kernel_rfl) (fun _ _ _ h => h) (by kernel_rfl) (by decide) (by kernel_rfl) (Or.inl ⟨by rfl, fun wx hx => by have cx := hx.1; go_simp⟩) hH ?_
      simp only [Act.put, List.setIfInBounds_toArray, List.set_cons_zero, List.set_cons_succ]
      refine wpAnyG_takeW (i := 7) (d := some 46) (v := .pointer (some ⟨w.heap.size, k * 6, none⟩)) rfl rfl (by kernel_rfl) (by kernel_rfl) (by kernel_rfl) (fun _ _ _ h => h) (by decide) (Or.inl ⟨by rfl, fun _ _ => by go_simp⟩) hH ?_
      simp only [Act.put, List.setIfInBounds_toArray, List.set_cons_zero, List.set_cons_succ]
      refine wpAnyG_takeW (i := 8) (d := some 47) (v := .pointer (some ⟨w.heap.size, k * 6, none⟩)) rfl rfl (by kernel_rfl) (by kernel_rfl) (by kernel_rfl) (fun _ _ _ h => h) (by decide) (Or.inl ⟨by rfl, fun _ _ => by go_simp⟩) hH ?_
      simp only [Act.put, List.setIfInBounds_toArray, List.set_cons_zero, List.set_cons_succ]
      refine wpAnyG_takeW (i := 9) (d := some 48) (v := .pointer (some ⟨w.heap.size, k * 6 + 5, none⟩)) rfl rfl (by kernel_rfl) (by kernel_rfl) (by kernel_rfl) (fun _ _ _ h => h) (by decide) (Or.inl ⟨by rfl, fun _ _ => by go_simp⟩) hH ?_
      simp only [Act.put, List.setIfInBounds_toArray, List.set_cons_zero, List.set_cons_succ]
      refine wpAnyG_take (i := 10) (d := some 49) (v := .slice a5 ((s.ent k).nums 5).length c5) rfl rfl (by kernel_rfl) (by kernel_rfl) (by kernel_rfl) (fun _ _ _ h => h) (by kernel_rfl) (by decide) (by kernel_rfl) (Or.inl ⟨by rfl, fun wx hx => by have cx := hx.2; go_simp⟩) hH ?_
      simp only [Act.put, List.setIfInBounds_toArray, List.set_cons_zero, List.set_cons_succ]
      have Kb : Hid (∀ x, Below Zb0.heap.size Zb0 x → x.cell? ⟨w.heap.size, k * 6 + 4, none⟩ = some (.slice a4 ((s.ent k).nums 4).length c4) ∧ x.cell? ⟨w.heap.size, k * 6 + 5, none⟩ = some (.slice a5 ((s.ent k).nums 5).length c5)) := fun x hx => by
        have hl := Db.out.lt
        exact ⟨by rw [hx.cell (p := ⟨w.heap.size, k * 6 + 4, none⟩) (by show w.heap.size < _; omega)]; exact hH.1, by rw [hx.cell (p := ⟨w.heap.size, k * 6 + 5, none⟩) (by show w.heap.size < _; omega)]; exact hH.2⟩
      have Bb0 : Below Zb0.heap.size Zb0 Zb0 := Below.refl _ _
      refine wpAnyG_ready (rs := [6]) (by kernel_rfl) (by simp) ?_
      refine AllReadyG.cons rfl (fun K hK => ?_) AllReadyG.nil
      have HC4 : Hid (SlInts Zb0 a4 c4 ((s.ent k).nums 4)) := HD4.out.later Bb0
      refine step_copy (by rfl) _ _ 23 (by rfl) 3 i0 _ 1 8 Try.underlying23 hi0 iz0 iz1 iz2 rfl (by decide) (by rfl) a4 ((s.ent k).nums 4).length c4 (intCells ((s.ent k).nums 4)) (by rfl) (intCells_len ((s.ent k).nums 4)) HC4.out.2.2.2 (ints_cells HC4.out) (ints_one ((s.ent k).nums 4)) HC4.out.2.1 HL4.out ?_
      intro b4 d4 Zb1 own4 g4
      have Bb1 : Below Zb0.heap.size Zb0 Zb1 := Bb0.grown g4 Bb0.size (by simp)
      have O4 : Hid (Zb1.ownsRow Zb0.heap.size 3 1 (.slice b4 ((s.ent k).nums 4).length d4) ((s.ent k).nums 4).length (intCells ((s.ent k).nums 4))) := own_mono own4 Bb0.size
      refine hK.out _ _ (Kb.out _ Bb1) (fun hH2 => ?_)
      clear hK K hH
      have hH := hH2
      clear hH2 own4 g4
      try simp only [Act.put]
      try simp only [List.setIfInBounds_toArray]
      try simp only [List.set_cons_zero, List.set_cons_succ]
      refine wpAnyG_ready (rs := [11]) (by kernel_rfl) (by simp) ?_
      refine AllReadyG.cons rfl (fun K hK => ?_) AllReadyG.nil
      have HC5 : Hid (SlInts Zb1 a5 c5 ((s.ent k).nums 5)) := HD5.out.later Bb1
      refine step_copy (by rfl) _ _ 23 (by rfl) 3 i0 _ 1 8 Try.underlying23 hi0 iz0 iz1 iz2 rfl (by decide) (by rfl) a5 ((s.ent k).nums 5).length c5 (intCells ((s.ent k).nums 5)) (by rfl) (intCells_len ((s.ent k).nums 5)) HC5.out.2.2.2 (ints_cells HC5.out) (ints_one ((s.ent k).nums 5)) HC5.out.2.1 HL5.out ?_
      intro b5 d5 Zb2 own5 g5
      have Bb2 : Below Zb0.heap.size Zb0 Zb2 := Bb1.grown g5 Bb1.size (by simp)
      have O5 : Hid (Zb2.ownsRow Zb0.heap.size 3 1 (.slice b5 ((s.ent k).nums 5).length d5) ((s.ent k).nums 5).length (intCells ((s.ent k).nums 5))) := own_mono own5 Bb1.size
      have O4 : Hid _ := own_none O4.out g5
      refine hK.out _ _ (Kb.out _ Bb2) (fun hH2 => ?_)
      clear hK K hH
      have hH := hH2
      clear hH2 own5 g5
      try simp only [Act.put]
      try simp only [List.setIfInBounds_toArray]
      try simp only [List.set_cons_zero, List.set_cons_succ]
      refine wpAnyG_of_any _ _ _ _ (by kernel_rfl) ?_
      have Eb : Hid (CopyInv w s zr (.slice bo s.order.length do_) mw _ Zb2) := Db.out.later Bb2
      have nob := Db.out.no
      have ltb := Db.out.lt
      have y4 := hH.1
      have z4 := Eb.out.blk.frozen (k * 6 + 4)
      have y5 := hH.2
      have z5 := Eb.out.blk.frozen (k * 6 + 5)
      have F4 : Hid (CopyInv w s zr (.slice bo s.order.length do_) _ _ (Zb2.setCell ⟨w.heap.size, k * 6 + 4, none⟩ (.slice b4 ((s.ent k).nums 4).length d4))) := Eb.out.putI hlt (by omega) (by omega) O4.out (by omega) nob HL4.out
      have F5 : Hid (CopyInv w s zr (.slice bo s.order.length do_) _ _ ((Zb2.setCell ⟨w.heap.size, k * 6 + 4, none⟩ (.slice b4 ((s.ent k).nums 4).length d4)).setCell ⟨w.heap.size, k * 6 + 5, none⟩ (.slice b5 ((s.ent k).nums 5).length d5))) := F4.out.putI hlt (by omega) (by omega) (own_put O5.out (by omega)) (by omega) nob HL5.out
      clear Db Eb Kb O4 HC4 HD4 HL4 O5 HC5 HD5 HL5 Bb0 Bb1 Bb2 nob ltb hH F4
      refine wpAny_takeD (i := 12) (d := some 51) (v := .pointer (some ⟨w.heap.size, k * 6, none⟩)) rfl rfl (by kernel_rfl) (by kernel_rfl) (by kernel_rfl) (fun _ _ _ h => h) (Or.inl ⟨by rfl, fun _ => by go_simp⟩) ?_
      try simp only [Act.put]
      try simp only [List.setIfInBounds_toArray]
      try simp only [List.set_cons_zero, List.set_cons_succ]
      refine wpAny_takeD (i := 13) (d := some 52) (v := .pointer (some ⟨w.heap.size, k * 6 + 4, none⟩)) rfl rfl (by kernel_rfl) (by kernel_rfl) (by kernel_rfl) (fun _ _ _ h => h) (Or.inl ⟨by rfl, fun _ => by go_simp⟩) ?_
      try simp only [Act.put]
      try simp only [List.setIfInBounds_toArray]
      try simp only [List.set_cons_zero, List.set_cons_succ]
      refine wpAny_ready (rs := [14]) (by kernel_rfl) (by simp) ?_
      refine AllReady.cons rfl (fun K hK => ?_) AllReady.nil
      go_simp
      refine hK _ _ ?_
      clear hK K
      refine wpAny_takeD (i := 15) (d := some 53) (v := .pointer (some ⟨w.heap.size, k * 6, none⟩)) rfl rfl (by kernel_rfl) (by kernel_rfl) (by kernel_rfl) (fun _ _ _ h => h) (Or.inl ⟨by rfl, fun _ => by go_simp⟩) ?_
      try simp only [Act.put]
      try simp only [List.setIfInBounds_toArray]
      try simp only [List.set_cons_zero, List.set_cons_succ]
      refine wpAny_takeD (i := 16) (d := some 54) (v := .pointer (some ⟨w.heap.size, k * 6 + 5, none⟩)) rfl rfl (by kernel_rfl) (by kernel_rfl) (by kernel_rfl) (fun _ _ _ h => h) (Or.inl ⟨by rfl, fun _ => by go_simp⟩) ?_
      try simp only [Act.put]
      try simp only [List.setIfInBounds_toArray]
      try simp only [List.set_cons_zero, List.set_cons_succ]
      refine wpAny_ready (rs := [17]) (by kernel_rfl) (by simp) ?_
      refine AllReady.cons rfl (fun K hK => ?_) AllReady.nil
      go_simp
      refine hK _ _ ?_
      clear hK K
      refine wpAny_done (by kernel_rfl) ?_ _
      clear y4 y5 z4 z5
      go_wp2
      go_roundw
      case rel => exact ⟨k + 1, _, by omega, by go_num, F5.out.next⟩
      case measure => simp [intOf]; omega
    · obtain rfl : k = 32 := by omega
      obtain ⟨t, hblk⟩ := H.out.blk
      have hres := H.out.res
      obtain ⟨fr, hfr⟩ : ∃ fr, fr = rowF 201 mv := ⟨_, rfl⟩
      have hsize : (Try.prog.info? 41).map (·.size) = some fr.size := by rw [hfr, rowF_size]; exact Try.infoNode
      have hzs : zr.size = fr.size := by rw [hfr, HZ.out, rowF_size, rowF_size]
      have hone : fr.all (·.oneCell') = true := by rw [hfr]; exact rowF_all H.out.one
      rw [← hfr] at hblk
      have HFR : Hid (fr = rowF 201 mv) := hfr
      have HW : Hid (ApartR w.heap.size (wr.setRow (w.heap.size + 1) fr) mv s ∧ Below w.heap.size w (wr.setRow (w.heap.size + 1) fr)) := H.out.done fr
      clear hfr H
      go_wp2_with (first
        | (refine wpList_load_row rfl 41 _ rfl w.heap.size rfl t fr (0, 0) _ hblk Try.underlying41 rfl hsize ?_)
        | (refine wpList_store_row rfl 41 _ _ rfl (w.heap.size + 1) fr rfl rfl 41 _ hres hsize hzs hone ?_))
      refine bodyPost_ret (v := .agg fr) (results_cell_row Try.results21 _ _ (w.heap.size + 1) 41 _ (0, 0) _ rfl (heap_setRow hres) Try.underlying41 rfl hsize) rfl ⟨mv, by rw [HFR.out], HW.out⟩

end Go.Proofs.Ytkoefoccbjhoiab
