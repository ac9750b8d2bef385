/-
  The contract of the statements' own 'frame': a frame whose lists are copies.
  The contract of the document's own BeginCase.
  Blocks that may be written: rows of a call's own.
  The contract of post's Result.
  The contract of the document's own ResultOf.
-/
import Derived.Test.YtkoefoccbjhoiabPbg8
import Derived.Laws.AppendOwnNone
import Derived.Deep.RegionLaw
import Derived.Deep.DrawnRows
import Derived.Deep.Cut
import Derived.Test.YtkoefoccbjhoiabPbg7
import Derived.Test.YtkoefoccbjhoiabPbg11
import Derived.Test.YtkoefoccbjhoiabPbg4
set_option linter.unusedVariables false
set_option linter.unusedSimpArgs false
namespace Go.Proofs.Ytkoefoccbjhoiab
open Go.RowKit
attribute [local go_sem ↓] Go.wp_at_zero Go.wp_at_succ

/-- 'append([]T(nil), xs...)' at a step of a region that draws. -/
theorem step_copy {P : Program} {w : World} {ops : Array Oper} {o : Oper} {a : Act} {K : Act → World → Prop} {Q : Exit → Act → World → Prop} {E : Prop} (hgd : o.guard = none) (s x : Operand) (t : TypeId)
    (ho : o.op = .call { callee := .builtin .append, args := #[s, x], argTypes := #[t, t] })
    (e : TypeId) (i : TypeInfo) (z : Value) (size bytes : Nat) (ht : P.underlying t = some (.slice e)) (hi : P.info? e = some i) (hz : i.zero = some z) (hsize : i.size = size) (hby : i.bytes = bytes) (hzs : z.cells.size = size) (hsz : 0 < size)
    (hs : a.eval s = .slice none 0 0) (ad : Option Addr) (n cap : Nat) (xs : List Value) (hx : a.eval x = .slice ad n cap) (hl : xs.length = n * size) (hnil : ad = none → n = 0 ∧ cap = 0)
    (hcell : ∀ p, ad = some p → ∀ j u, xs[j]? = some u → w.cell? (p.add j) = some u) (h1 : ∀ u ∈ xs, u.oneCell' = true) (hm : n ≤ maxLen) (hbytes : n * bytes ≤ 140737488355328)
    (h : ∀ ad' cap' w', w'.ownsRow w.heap.size e size (.slice ad' n cap') n xs → w.grownBy w' none → K (a.put o.dst (.slice ad' n cap')) w') : if Region.wanted o (yielded ops a.tmps) = true then Oper.wp P o a w K Q else E := by
  have hw : Region.wanted o (yielded ops a.tmps) = true := by simp [Region.wanted, hgd]
  rw [if_pos hw]
  cases ad with
  | none =>
    obtain ⟨rfl, rfl⟩ := hnil rfl
    have hx0 : xs = [] := List.eq_nil_of_length_eq_zero (by rw [hl]; simp)
    subst hx0
    have hrun := run_append_owned_none (P := P) (w := w) w.heap.size t o.type e i size ht hi (.slice none 0 0) 0 [] (World.ownsRow_nil _ _ _ _)
    unfold Oper.wp
    simp [execOp, ho, resolve, invoke, builtin, hs, hx, hrun, Result.andThen]
    exact h _ _ _ (World.ownsRow_nil _ _ _ _) ⟨rfl, rfl, rfl, Nat.le_refl _, fun _ _ _ => rfl⟩
  | some p =>
    refine wp_append_own w s x t ho w.heap.size e i z size bytes ht hi hz hsize hby hzs hsz (.slice none 0 0) 0 [] hs (World.ownsRow_nil _ _ _ _) p n cap xs hx hl (hcell p rfl) h1 (by omega) (by simpa using hbytes) (Nat.le_refl _) ?_
    intro v' w' h2 h3 _
    rw [Nat.zero_add, List.nil_append] at h2
    obtain ⟨ad', cap', rfl, _⟩ := own_form h2
    exact h ad' cap' w' h2 h3

theorem ints_cells {w : World} {a : Option Addr} {cap : Nat} {zs : List Int} (h : SlInts w a cap zs) : ∀ p, a = some p → ∀ j u, (intCells zs)[j]? = some u → w.cell? (p.add j) = some u := by
  intro p hp j u hu
  rcases h.1 with rfl | ⟨b, off, hb, _, hc⟩
  · simp [intCells] at hu
  · rw [hp] at hb
    simp at hb
    subst hb
    have hj : j < zs.length := by
      have := (List.getElem?_eq_some_iff.1 hu).1
      simpa [intCells] using this
    rw [add_none, hc j hj]
    simp [intCells, hj] at hu
    simp [List.getD, hj, hu]
theorem ops_cells {w : World} {a : Option Addr} {cap : Nat} {zs : List OpL} (h : SlOps w a cap zs) : ∀ p, a = some p → ∀ j u, (opsCells zs)[j]? = some u → w.cell? (p.add j) = some u := by
  intro p hp j u hu
  rcases h.1 with rfl | ⟨b, off, hb, _, hc⟩
  · simp [opsCells] at hu
  · rw [hp] at hb
    simp at hb
    subst hb
    have hj : j < zs.length * 3 := by
      have := (List.getElem?_eq_some_iff.1 hu).1
      rwa [opsCells_len] at this
    have hq : j / 3 < zs.length := by omega
    obtain ⟨c0, c1, c2⟩ := hc (j / 3) hq
    obtain ⟨g0, g1, g2⟩ := opsCells_get zs (j / 3) hq
    rw [add_none]
    have hr : j = j / 3 * 3 ∨ j = j / 3 * 3 + 1 ∨ j = j / 3 * 3 + 2 := by omega
    rcases hr with e | e | e
    · rw [e] at hu ⊢
      rw [← hu, g0]
      exact c0
    · rw [e] at hu ⊢
      rw [← hu, g1]
      exact c1
    · rw [e] at hu ⊢
      rw [← hu, g2]
      exact c2
theorem ints_one (zs : List Int) : ∀ u ∈ intCells zs, u.oneCell' = true := by
  intro u hu
  obtain ⟨n, _, rfl⟩ := List.mem_map.1 hu
  rfl
theorem ops_one (zs : List OpL) : ∀ u ∈ opsCells zs, u.oneCell' = true := by
  intro u hu
  obtain ⟨o, _, h⟩ := List.mem_flatMap.1 hu
  exact one_op o u h
theorem intCells_len (zs : List Int) : (intCells zs).length = zs.length * 1 := by simp [intCells]

/-- The state of the copying: the frame's box at b, the result's at b + 1, the copies' rows behind them. -/
structure Cp (w : World) (kind node id : Int) (wr : World) (v3 v4 v5 v6 : Value) : Prop where
  f : FAt wr w.heap.size kind node id v3 v4 v5 v6
  z : FAt wr (w.heap.size + 1) 0 0 0 (.slice none 0 0) (.slice none 0 0) (.slice none 0 0) (.slice none 0 0)
  b : Below w.heap.size w wr
  s : w.heap.size + 2 ≤ wr.heap.size
theorem Cp.grown {w wr w1 : World} {kind node id : Int} {v3 v4 v5 v6 : Value} (h : Cp w kind node id wr v3 v4 v5 v6) (hg : wr.grownBy w1 none) : Cp w kind node id w1 v3 v4 v5 v6 :=
  ⟨h.f.block (hg.block _ h.f.lt (by simp)), h.z.block (hg.block _ h.z.lt (by simp)), h.b.grown hg h.b.size (by simp), by have := h.s; have := hg.size; omega⟩
theorem Cp.drew {w wr : World} {kind node id : Int} {v3 v4 v5 v6 : Value} (h : Cp w kind node id wr v3 v4 v5 v6) : Cp w kind node id wr.drew v3 v4 v5 v6 := ⟨h.f, h.z, h.b.drew, h.s⟩
theorem Cp.put3 {w wr : World} {kind node id : Int} {v3 v4 v5 v6 : Value} (h : Cp w kind node id wr v3 v4 v5 v6) (v : Value) : Cp w kind node id (wr.setCell ⟨w.heap.size, 3, none⟩ v) v v4 v5 v6 :=
  ⟨h.f.put3 v, h.z.block (Below.heap_setCell _ _ _ _ (by simp)), h.b.setCell (by simp) _, by have := h.s; simpa [World.setCell] using this⟩
theorem Cp.put4 {w wr : World} {kind node id : Int} {v3 v4 v5 v6 : Value} (h : Cp w kind node id wr v3 v4 v5 v6) (v : Value) : Cp w kind node id (wr.setCell ⟨w.heap.size, 4, none⟩ v) v3 v v5 v6 :=
  ⟨h.f.put4 v, h.z.block (Below.heap_setCell _ _ _ _ (by simp)), h.b.setCell (by simp) _, by have := h.s; simpa [World.setCell] using this⟩
theorem Cp.put5 {w wr : World} {kind node id : Int} {v3 v4 v5 v6 : Value} (h : Cp w kind node id wr v3 v4 v5 v6) (v : Value) : Cp w kind node id (wr.setCell ⟨w.heap.size, 5, none⟩ v) v3 v4 v v6 :=
  ⟨h.f.put5 v, h.z.block (Below.heap_setCell _ _ _ _ (by simp)), h.b.setCell (by simp) _, by have := h.s; simpa [World.setCell] using this⟩
theorem Cp.put6 {w wr : World} {kind node id : Int} {v3 v4 v5 v6 : Value} (h : Cp w kind node id wr v3 v4 v5 v6) (v : Value) : Cp w kind node id (wr.setCell ⟨w.heap.size, 6, none⟩ v) v3 v4 v5 v :=
  ⟨h.f.put6 v, h.z.block (Below.heap_setCell _ _ _ _ (by simp)), h.b.setCell (by simp) _, by have := h.s; simpa [World.setCell] using this⟩
theorem put7_low {w w1 : World} {b B : Nat} {x0 x1 x2 x3 x4 x5 x6 : Value} (h : Below B w w1) (hb : B ≤ b) : Below B w (put7 w1 b x0 x1 x2 x3 x4 x5 x6) :=
  ((((((h.setCell hb _).setCell hb _).setCell hb _).setCell hb _).setCell hb _).setCell hb _).setCell hb _
theorem own_none {w w1 : World} {b : Nat} {e : TypeId} {size : Nat} {v : Value} {n : Nat} {xs : List Value} (h : w.ownsRow b e size v n xs) (hg : w.grownBy w1 none) : w1.ownsRow b e size v n xs :=
  h.kept hg (by cases hv : v.ownBlock <;> simp)

set_option maxRecDepth 100000 in
set_option maxHeartbeats 2000000 in
theorem lawFrame_new (v : Value) (f : FrameL) (w : World) (hv : FrameV w v f) (r3 : f.ops.length * 24 ≤ 140737488355328) (r4 : f.deps.length * 8 ≤ 140737488355328) (r5 : f.ats.length * 8 ≤ 140737488355328) (r6 : f.vals.length * 8 ≤ 140737488355328) :
    Calls Try.prog 22 #[v] w fun e w' => ∃ v', e = .returned v' ∧ FrameV w' v' f ∧ FarV w.heap.size v' ∧ Below w.heap.size w w' := by
  obtain ⟨io, hio, oz0, oz1, oz2⟩ := info_parts Try.infoOp
  obtain ⟨i0, hi0, iz0, iz1, iz2⟩ := info_parts Try.infoInt
  obtain ⟨a3, c3, a4, c4, a5, c5, a6, c6, rfl, h3, h4, h5, h6⟩ := hv
  obtain ⟨kind, node, id, ops, deps, ats, vals⟩ := f
  simp only at h3 h4 h5 h6 r3 r4 r5 r6
  obtain ⟨W, hW⟩ : ∃ W, W = (w.alloc (.cells #[.int .i64 kind, .int .i64 node, .int .i64 id, .slice a3 ops.length c3, .slice a4 deps.length c4, .slice a5 ats.length c5, .slice a6 vals.length c6] 43)).alloc (.cells #[.int .i64 0, .int .i64 0, .int .i64 0, .slice none 0 0, .slice none 0 0, .slice none 0 0, .slice none 0 0] 43) := ⟨_, rfl⟩
  have C0 : Cp w kind node id W (.slice a3 ops.length c3) (.slice a4 deps.length c4) (.slice a5 ats.length c5) (.slice a6 vals.length c6) := by
    rw [hW]
    exact ⟨⟨43, by rw [Below.heap_alloc _ _ _ (by rw [alloc_size]; omega), heap_new]⟩, ⟨43, heap_new2 _ _ _⟩, ((Below.refl _ w).alloc (Nat.le_refl _) _).alloc (by rw [alloc_size]; omega) _, by rw [alloc_size, alloc_size]; omega⟩
  go_enter Try.func22, Try.ntmps22
  go_upto_region 1 with fail
  rw [← hW]
  clear hW
  have q3 := C0.f.cell.2.2.2.1
  have q4 := C0.f.cell.2.2.2.2.1
  go_cut [] from 3 (fun wc => ∃ v3 v4, Cp w kind node id wc v3 v4 (.slice a5 ats.length c5) (.slice a6 vals.length c6) ∧ wc.ownsRow (w.heap.size + 2) 108 3 v3 ops.length (opsCells ops) ∧ wc.ownsRow (w.heap.size + 2) 3 1 v4 deps.length (intCells deps))
  case first =>
    go_region_law
      ((first
        | (refine step_copy (by rfl) _ _ 35 (by rfl) 108 io _ 3 24 Try.underlying35 hio oz0 oz1 oz2 rfl (by decide) (by rfl) a3 ops.length c3 (opsCells ops) (by rfl) (opsCells_len ops) h3.2.2.2 (ops_cells (w := W.drew) (h3.later C0.drew.b)) (ops_one ops) h3.2.1 r3 ?_
           intro b3 d3 x1 own1 g1
           have C1 := C0.drew.grown g1
           have own1' := own_mono own1 C0.s
           have q4' := C1.f.cell.2.2.2.2.1
           have z1 := C1.f.frozen 3
           have z2 := C1.f.frozen 4
           clear g1 own1)
        | (refine step_copy (by rfl) _ _ 23 (by rfl) 3 i0 _ 1 8 Try.underlying23 hi0 iz0 iz1 iz2 rfl (by decide) (by rfl) a4 deps.length c4 (intCells deps) (by rfl) (intCells_len deps) h4.2.2.2 (ints_cells (h4.later C1.b)) (ints_one deps) h4.2.1 r4 ?_
           intro b4 d4 x2 own2 g2
           have C2 := C1.grown g2
           have own2' := own_mono own2 C1.s
           have own3' := own_none own1' g2
           have z3 := C2.f.frozen 3
           have z4 := C2.f.frozen 4
           have y3 := C2.f.cell.2.2.2.1
           have y4 := C2.f.cell.2.2.2.2.1
           clear g2 own2)
        | fail))
    all_goals
      go_wp2
      go_meet
      case rel => exact ⟨_, _, (C2.put3 _).put4 _, own_put (own_put own3' (by omega)) (by omega), own_put (own_put own2' (by omega)) (by omega)⟩
  case rest =>
    obtain ⟨v3, v4, C, own3, own4⟩ := hcut
    clear C0 q3 q4
    have q5 := C.f.cell.2.2.2.2.2.1
    have q6 := C.f.cell.2.2.2.2.2.2
    go_wp2_with fail
    go_region_law
      ((first
        | (refine step_copy (by rfl) _ _ 23 (by rfl) 3 i0 _ 1 8 Try.underlying23 hi0 iz0 iz1 iz2 rfl (by decide) (by rfl) a5 ats.length c5 (intCells ats) (by rfl) (intCells_len ats) h5.2.2.2 (ints_cells (w := wc.drew) (h5.later C.drew.b)) (ints_one ats) h5.2.1 r5 ?_
           intro b5 d5 x1 own1 g1
           have C1 := C.drew.grown g1
           have own1' := own_mono own1 C.s
           have own3' := own_none own3.drew g1
           have own4' := own_none own4.drew g1
           have q6' := C1.f.cell.2.2.2.2.2.2
           have z1 := C1.f.frozen 5
           have z2 := C1.f.frozen 6
           clear g1 own1)
        | (refine step_copy (by rfl) _ _ 23 (by rfl) 3 i0 _ 1 8 Try.underlying23 hi0 iz0 iz1 iz2 rfl (by decide) (by rfl) a6 vals.length c6 (intCells vals) (by rfl) (intCells_len vals) h6.2.2.2 (ints_cells (h6.later C1.b)) (ints_one vals) h6.2.1 r6 ?_
           intro b6 d6 x2 own2 g2
           have C2 := C1.grown g2
           have own6 := own_mono own2 C1.s
           have own5 := own_none own1' g2
           have own3'' := own_none own3' g2
           have own4'' := own_none own4' g2
           have z3 := C2.f.frozen 5
           have z4 := C2.f.frozen 6
           have y3 := C2.f.cell.2.2.2.2.2.1
           have y4 := C2.f.cell.2.2.2.2.2.2
           clear g2 own2)
        | fail))
    all_goals
      have C3 := (C2.put5 (.slice b5 ats.length d5)).put6 (.slice b6 vals.length d6)
      have o3 := own_put (c := w.heap.size) (o := 6) (u := .slice b6 vals.length d6) (own_put (c := w.heap.size) (o := 5) (u := .slice b5 ats.length d5) own3'' (by omega)) (by omega)
      have o4 := own_put (c := w.heap.size) (o := 6) (u := .slice b6 vals.length d6) (own_put (c := w.heap.size) (o := 5) (u := .slice b5 ats.length d5) own4'' (by omega)) (by omega)
      have o5 := own_put (c := w.heap.size) (o := 6) (u := .slice b6 vals.length d6) (own_put (c := w.heap.size) (o := 5) (u := .slice b5 ats.length d5) own5 (by omega)) (by omega)
      have o6 := own_put (c := w.heap.size) (o := 6) (u := .slice b6 vals.length d6) (own_put (c := w.heap.size) (o := 5) (u := .slice b5 ats.length d5) own6 (by omega)) (by omega)
      clear C C1 C2 own3 own4 own3' own4' own3'' own4'' own1' own5 own6 q5 q6 q6' z1 z2 z3 z4 y3 y4
      generalize (x2.setCell ⟨w.heap.size, 5, none⟩ (.slice b5 ats.length d5)).setCell ⟨w.heap.size, 6, none⟩ (.slice b6 vals.length d6) = x3 at *
      obtain ⟨b3, d3, e3, _⟩ := own_form o3
      obtain ⟨b4, d4, e4, _⟩ := own_form o4
      subst e3 e4
      obtain ⟨q0, q1, q2, q3, q4, q5, q6⟩ := C3.f.cell
      obtain ⟨g0, g1, g2, g3, g4, g5, g6⟩ := C3.z.cell
      have y0 := C3.z.frozen 0
      have y1 := C3.z.frozen 1
      have y2 := C3.z.frozen 2
      have y3 := C3.z.frozen 3
      have y4 := C3.z.frozen 4
      have y5 := C3.z.frozen 5
      have y6 := C3.z.frozen 6
      have HV : Hid (∀ x0 x1 x2 x3' x4 x5 x6, FrameV (put7 x3 (w.heap.size + 1) x0 x1 x2 x3' x4 x5 x6) (.agg #[.int .i64 kind, .int .i64 node, .int .i64 id, .slice b3 ops.length d3, .slice b4 deps.length d4, .slice b5 ats.length d5, .slice b6 vals.length d6]) ⟨kind, node, id, ops, deps, ats, vals⟩) :=
        fun x0 x1 x2 x3' x4 x5 x6 => ⟨b3, d3, b4, d4, b5, d5, b6, d6, rfl, SlOps.of_owns (put7_own o3 (by omega)), SlInts.of_owns (put7_own o4 (by omega)), SlInts.of_owns (put7_own o5 (by omega)), SlInts.of_owns (put7_own o6 (by omega))⟩
      have HFar : Hid (FarV w.heap.size (.agg #[.int .i64 kind, .int .i64 node, .int .i64 id, .slice b3 ops.length d3, .slice b4 deps.length d4, .slice b5 ats.length d5, .slice b6 vals.length d6])) := by
        intro cs hcs i x n cc hi
        cases hcs
        match i, hi with
        | 0, hi => simp at hi
        | 1, hi => simp at hi
        | 2, hi => simp at hi
        | 3, hi => simp at hi; exact far_of o3 (by omega) hi.1
        | 4, hi => simp at hi; exact far_of o4 (by omega) hi.1
        | 5, hi => simp at hi; exact far_of o5 (by omega) hi.1
        | 6, hi => simp at hi; exact far_of o6 (by omega) hi.1
        | n + 7, hi => simp at hi
      have hB3 := C3.b
      clear o3 o4 o5 o6 C3
      go_wp2
      refine bodyPost_ret (v := .agg #[.int .i64 kind, .int .i64 node, .int .i64 id, .slice b3 ops.length d3, .slice b4 deps.length d4, .slice b5 ats.length d5, .slice b6 vals.length d6]) (by simp [results, Try.results22, go_sem, *]) rfl ⟨_, rfl, HV.out _ _ _ _ _ _ _, HFar.out, ?_⟩
      exact put7_low hB3 (by omega)


theorem lawFrame_any (v : Value) (f : FrameL) (w : World) (hv : FrameV w v f) (r3 : f.ops.length * 24 ≤ 140737488355328) (r4 : f.deps.length * 8 ≤ 140737488355328) (r5 : f.ats.length * 8 ≤ 140737488355328) (r6 : f.vals.length * 8 ≤ 140737488355328) :
    Calls Try.prog 22 #[v] w fun e w' => ∃ v', e = .returned v' ∧ FrameV w' v' f ∧ Below w.heap.size w w' := by
  refine (lawFrame_new v f w hv r3 r4 r5 r6).mono ?_
  rintro e w' ⟨v', h1, h2, _, h3⟩
  exact ⟨v', h1, h2, h3⟩

end Go.Proofs.Ytkoefoccbjhoiab

namespace Go.Proofs.Ytkoefoccbjhoiab
open Go.RowKit
set_option linter.unusedSimpArgs false

/-- 'append([]T(nil), xs...)' at a step of a walk. -/
theorem wpList_copyP {P : Program} {w : World} {ops : Array Oper} {rest : List Oper} {o : Oper} {a : Act} {Q : Exit → Act → World → Prop} (hgd : o.guard = none) (s x : Operand) (t : TypeId)
    (ho : o.op = .call { callee := .builtin .append, args := #[s, x], argTypes := #[t, t] })
    (e : TypeId) (i : TypeInfo) (z : Value) (size bytes : Nat) (ht : P.underlying t = some (.slice e)) (hi : P.info? e = some i) (hz : i.zero = some z) (hsize : i.size = size) (hby : i.bytes = bytes) (hzs : z.cells.size = size) (hsz : 0 < size)
    (hs : a.eval s = .slice none 0 0) (ad : Option Addr) (n cap : Nat) (xs : List Value) (hx : a.eval x = .slice ad n cap) (hl : xs.length = n * size) (hnil : ad = none → n = 0 ∧ cap = 0)
    (hcell : ∀ p, ad = some p → ∀ j u, xs[j]? = some u → w.cell? (p.add j) = some u) (h1 : ∀ u ∈ xs, u.oneCell' = true) (hm : n ≤ maxLen) (hbytes : n * bytes ≤ 140737488355328)
    (h : ∀ ad' cap' w', w'.ownsRow w.heap.size e size (.slice ad' n cap') n xs → w.grownBy w' none → wpList P ops Q rest (a.put o.dst (.slice ad' n cap')) w') : wpList P ops Q (o :: rest) a w := by
  refine wpList_plain hgd fun K hK => ?_
  have hw : Region.wanted o (yielded ops a.tmps) = true := by simp [Region.wanted, hgd]
  have := step_copy (P := P) (ops := ops) (K := K) (Q := Q) (E := True) hgd s x t ho e i z size bytes ht hi hz hsize hby hzs hsz hs ad n cap xs hx hl hnil hcell h1 hm hbytes (fun ad' cap' w' h1 h2 => hK _ _ (h ad' cap' w' h1 h2))
  rwa [if_pos hw] at this
theorem below_none {w w' : World} (h : w.grownBy w' none) : Below w.heap.size w w' := ⟨h.os, h.tape, h.output, h.size, fun k hk => h.block k hk (fun e => by cases e)⟩
theorem begun_far {lo : Nat} {w : World} {gr : Array Value} {v : Value} {ops : List OpL} (e : gr = rowF 24 (bcv v)) (h : IsO (fun b => lo ≤ b) w v ops) : ∃ nv, gr = rowF 24 nv ∧ CaseC (fun b => lo ≤ b) w nv { zeroC with begun := true, ops := ops } := by
  have hz := zcv_case (fun b => lo ≤ b) w
  refine ⟨bcv v, e, rfl, rfl, h, fun i hi => ?_, fun i hi => ?_, IsI.nil _ _, fun i hi => ?_, fun i hi => ?_⟩
  · unfold bcv; rw [if_neg (by omega), if_neg (by omega)]; exact hz.told i hi
  · unfold bcv; rw [if_neg (by omega), if_neg (by omega)]; exact hz.known i hi
  · unfold bcv; rw [if_neg (by omega), if_neg (by omega)]; exact hz.has i hi
  · unfold bcv; rw [if_neg (by omega), if_neg (by omega)]; exact hz.vals i hi

set_option maxRecDepth 100000 in
set_option maxHeartbeats 1000000 in
theorem rbegin_0 (n : Int) (a : Option Addr) (cap : Nat) (ops : List OpL) (w : World) (h : SlOps w a cap ops) (t2 : ¬ (0 ≤ n ∧ n < 32)) :
    Calls Try.prog 44 #[.agg #[.int .i64 n, .slice a ops.length cap]] w fun e w' => ∃ gr x, e = .returned (.tuple #[.agg gr, x, .int .i64 (beginC n ops).2.2]) ∧ CaseV w' gr (beginC n ops).1 ∧ FramesV w.heap.size w' x (beginC n ops).2.1 ∧ Below w.heap.size w w' := by
  obtain ⟨zr, hzr⟩ : ∃ zr, zr = rowF 24 zcv := ⟨_, rfl⟩
  have HZL : Hid ((#[.bool false, .bool false, .slice none 0 0, .bool false, .bool false, .bool false, .bool false, .bool false, .bool false, .bool false, .bool false, .bool false, .bool false, .bool false, .bool false, .slice none 0 0, .bool false, .bool false, .bool false, .bool false, .int .i64 0, .int .i64 0, .int .i64 0, .int .i64 0] : Array Value) = zr) := by unfold Hid; rw [hzr]; rfl
  have HZV : Hid (Value.agg #[.bool false, .bool false, .slice none 0 0, .bool false, .bool false, .bool false, .bool false, .bool false, .bool false, .bool false, .bool false, .bool false, .bool false, .bool false, .bool false, .slice none 0 0, .bool false, .bool false, .bool false, .bool false, .int .i64 0, .int .i64 0, .int .i64 0, .int .i64 0] = .agg zr) := by unfold Hid; rw [HZL.out]
  have HZC : Hid (∀ wx, CaseV wx zr zeroC) := fun wx => by rw [hzr]; exact zero_case wx
  obtain ⟨W, hW⟩ : ∃ W, W = (w.alloc (.cells #[.int .i64 n, .slice a ops.length cap] 68)).alloc (.cells zr 73) := ⟨_, rfl⟩
  have hb : Below w.heap.size w W := by rw [hW]; exact ((Below.refl _ _).alloc (Nat.le_refl _) _).alloc (by rw [size_push]; omega) _
  have hzW : W.heap.size = w.heap.size + 2 := by rw [hW, size_push, size_push]
  obtain ⟨r0, r1⟩ := two_rows w (.cells #[.int .i64 n, .slice a ops.length cap] 68) (.cells zr 73)
  rw [← hW] at r0 r1
  have q0 : W.cell? ⟨w.heap.size, 0, none⟩ = some (.int .i64 n) := by rw [cell_of_row _ _ _ _ _ _ r0]; rfl
  have q1 : W.cell? ⟨w.heap.size, 1, none⟩ = some (.slice a ops.length cap) := by rw [cell_of_row _ _ _ _ _ _ r0]; rfl
  have HW : Hid (W = (w.alloc (.cells #[.int .i64 n, .slice a ops.length cap] 68)).alloc (.cells zr 73)) := hW
  have HL : Hid (SlOps W a cap ops) := h.later hb
  have hzc : (Try.prog.info? 73).map (·.size) = some zr.size := (HZC.out w).info
  have hz1 : zr.all (·.oneCell') = true := (HZC.out w).one
  clear hW h hzr
  go_enter Try.func44, Try.ntmps44
  go_upto_region 1 with fail
  rw [HZL.out, ← HW.out]
  clear HW
  go_wp2_with fail
  refine (isTxn_any n W).mono ?_
  rintro e w2 ⟨rfl, hw⟩
  subst hw
  have HE : Hid (beginC n ops = (zeroC, [], 2)) := begin_range t2
  have d2 : txnB n = false := decide_eq_false t2
  clear t2
  go_wp2_with (first
    | (refine wpList_store_row rfl 73 _ _ rfl (w.heap.size + 1) zr rfl HZV.out 73 _ r1 hzc rfl hz1 ?_)
    | fail)
  refine bodyPost_ret (v := .tuple #[.agg zr, .slice none 0 0, .int .i64 2]) (results_row2 Try.results44 _ _ (w.heap.size + 1) 73 zr (0, 0) _ rfl (heap_setRow r1) Try.underlying73 rfl hzc _ _ rfl rfl) rfl ⟨_, _, by rw [HE.out], by rw [HE.out]; exact HZC.out _, by rw [HE.out]; exact FramesV.nil _ _, setRow_below hb (by omega) _⟩

set_option maxRecDepth 100000 in
set_option maxHeartbeats 1000000 in
theorem rbegin_1 (n : Int) (a : Option Addr) (cap : Nat) (ops : List OpL) (w : World) (h : SlOps w a cap ops) (t2 : 0 ≤ n ∧ n < 32) (t3 : goodOpsL ops = false) :
    Calls Try.prog 44 #[.agg #[.int .i64 n, .slice a ops.length cap]] w fun e w' => ∃ gr x, e = .returned (.tuple #[.agg gr, x, .int .i64 (beginC n ops).2.2]) ∧ CaseV w' gr (beginC n ops).1 ∧ FramesV w.heap.size w' x (beginC n ops).2.1 ∧ Below w.heap.size w w' := by
  obtain ⟨zr, hzr⟩ : ∃ zr, zr = rowF 24 zcv := ⟨_, rfl⟩
  have HZL : Hid ((#[.bool false, .bool false, .slice none 0 0, .bool false, .bool false, .bool false, .bool false, .bool false, .bool false, .bool false, .bool false, .bool false, .bool false, .bool false, .bool false, .slice none 0 0, .bool false, .bool false, .bool false, .bool false, .int .i64 0, .int .i64 0, .int .i64 0, .int .i64 0] : Array Value) = zr) := by unfold Hid; rw [hzr]; rfl
  have HZV : Hid (Value.agg #[.bool false, .bool false, .slice none 0 0, .bool false, .bool false, .bool false, .bool false, .bool false, .bool false, .bool false, .bool false, .bool false, .bool false, .bool false, .bool false, .slice none 0 0, .bool false, .bool false, .bool false, .bool false, .int .i64 0, .int .i64 0, .int .i64 0, .int .i64 0] = .agg zr) := by unfold Hid; rw [HZL.out]
  have HZC : Hid (∀ wx, CaseV wx zr zeroC) := fun wx => by rw [hzr]; exact zero_case wx
  obtain ⟨W, hW⟩ : ∃ W, W = (w.alloc (.cells #[.int .i64 n, .slice a ops.length cap] 68)).alloc (.cells zr 73) := ⟨_, rfl⟩
  have hb : Below w.heap.size w W := by rw [hW]; exact ((Below.refl _ _).alloc (Nat.le_refl _) _).alloc (by rw [size_push]; omega) _
  have hzW : W.heap.size = w.heap.size + 2 := by rw [hW, size_push, size_push]
  obtain ⟨r0, r1⟩ := two_rows w (.cells #[.int .i64 n, .slice a ops.length cap] 68) (.cells zr 73)
  rw [← hW] at r0 r1
  have q0 : W.cell? ⟨w.heap.size, 0, none⟩ = some (.int .i64 n) := by rw [cell_of_row _ _ _ _ _ _ r0]; rfl
  have q1 : W.cell? ⟨w.heap.size, 1, none⟩ = some (.slice a ops.length cap) := by rw [cell_of_row _ _ _ _ _ _ r0]; rfl
  have HW : Hid (W = (w.alloc (.cells #[.int .i64 n, .slice a ops.length cap] 68)).alloc (.cells zr 73)) := hW
  have HL : Hid (SlOps W a cap ops) := h.later hb
  have hzc : (Try.prog.info? 73).map (·.size) = some zr.size := (HZC.out w).info
  have hz1 : zr.all (·.oneCell') = true := (HZC.out w).one
  clear hW h hzr
  go_enter Try.func44, Try.ntmps44
  go_upto_region 1 with fail
  rw [HZL.out, ← HW.out]
  clear HW
  go_wp2_with fail
  refine (isTxn_any n W).mono ?_
  rintro e w2 ⟨rfl, hw⟩
  subst hw
  have HT2 : Hid (0 ≤ n ∧ n < 32) := t2
  have d2 : txnB n = true := decide_eq_true t2
  clear t2
  go_wp2_with fail
  refine (isOps_any a cap ops w2 HL.out.2.1 HL.out.1 HL.out.2.2.1).mono ?_
  rintro e w3 ⟨rfl, hb3⟩
  have hz3 := hb3.size
  have hbw : Below w.heap.size w w3 := hb.trans (hb3.mono (by omega))
  have r0' : w3.heap[w.heap.size]? = some (.cells #[.int .i64 n, .slice a ops.length cap] 68 (0, 0)) := by rw [hb3.block _ (by omega)]; exact r0
  have r1' : w3.heap[w.heap.size + 1]? = some (.cells zr 73 (0, 0)) := by rw [hb3.block _ (by omega)]; exact r1
  have q0' : w3.cell? ⟨w.heap.size, 0, none⟩ = some (.int .i64 n) := by rw [cell_of_row _ _ _ _ _ _ r0']; rfl
  have q1' : w3.cell? ⟨w.heap.size, 1, none⟩ = some (.slice a ops.length cap) := by rw [cell_of_row _ _ _ _ _ _ r0']; rfl
  have HL3 : Hid (SlOps w3 a cap ops) := HL.out.later hb3
  have HB3' : Hid (Below w.heap.size w w3) := hbw
  clear hb3 r0 r1 q0 q1 HL hb
  have HE : Hid (beginC n ops = (zeroC, [], 1)) := begin_form HT2.out t3
  go_wp2_with (first
    | (refine wpList_store_row rfl 73 _ _ rfl (w.heap.size + 1) zr rfl HZV.out 73 _ r1' hzc rfl hz1 ?_)
    | fail)
  refine bodyPost_ret (v := .tuple #[.agg zr, .slice none 0 0, .int .i64 1]) (results_row2 Try.results44 _ _ (w.heap.size + 1) 73 zr (0, 0) _ rfl (heap_setRow r1') Try.underlying73 rfl hzc _ _ rfl rfl) rfl ⟨_, _, by rw [HE.out], by rw [HE.out]; exact HZC.out _, by rw [HE.out]; exact FramesV.nil _ _, setRow_below HB3'.out (by omega) _⟩

set_option maxRecDepth 100000 in
set_option maxHeartbeats 1000000 in
theorem rbegin_2 (n : Int) (a : Option Addr) (cap : Nat) (ops : List OpL) (w : World) (h : SlOps w a cap ops) (t2 : 0 ≤ n ∧ n < 32) (t3 : goodOpsL ops = true) :
    Calls Try.prog 44 #[.agg #[.int .i64 n, .slice a ops.length cap]] w fun e w' => ∃ gr x, e = .returned (.tuple #[.agg gr, x, .int .i64 (beginC n ops).2.2]) ∧ CaseV w' gr (beginC n ops).1 ∧ FramesV w.heap.size w' x (beginC n ops).2.1 ∧ Below w.heap.size w w' := by
  obtain ⟨zr, hzr⟩ : ∃ zr, zr = rowF 24 zcv := ⟨_, rfl⟩
  have HZL : Hid ((#[.bool false, .bool false, .slice none 0 0, .bool false, .bool false, .bool false, .bool false, .bool false, .bool false, .bool false, .bool false, .bool false, .bool false, .bool false, .bool false, .slice none 0 0, .bool false, .bool false, .bool false, .bool false, .int .i64 0, .int .i64 0, .int .i64 0, .int .i64 0] : Array Value) = zr) := by unfold Hid; rw [hzr]; rfl
  have HZV : Hid (Value.agg #[.bool false, .bool false, .slice none 0 0, .bool false, .bool false, .bool false, .bool false, .bool false, .bool false, .bool false, .bool false, .bool false, .bool false, .bool false, .bool false, .slice none 0 0, .bool false, .bool false, .bool false, .bool false, .int .i64 0, .int .i64 0, .int .i64 0, .int .i64 0] = .agg zr) := by unfold Hid; rw [HZL.out]
  have HZ0 : Hid ((Try.prog.info? 73).map (·.zero) = some (some (.agg zr))) := by unfold Hid; rw [hzr]; exact Try.zeroCase
  have HZC : Hid (∀ wx, CaseV wx zr zeroC) := fun wx => by rw [hzr]; exact zero_case wx
  obtain ⟨W, hW⟩ : ∃ W, W = (w.alloc (.cells #[.int .i64 n, .slice a ops.length cap] 68)).alloc (.cells zr 73) := ⟨_, rfl⟩
  have hb : Below w.heap.size w W := by rw [hW]; exact ((Below.refl _ _).alloc (Nat.le_refl _) _).alloc (by rw [size_push]; omega) _
  have hzW : W.heap.size = w.heap.size + 2 := by rw [hW, size_push, size_push]
  obtain ⟨r0, r1⟩ := two_rows w (.cells #[.int .i64 n, .slice a ops.length cap] 68) (.cells zr 73)
  rw [← hW] at r0 r1
  have q0 : W.cell? ⟨w.heap.size, 0, none⟩ = some (.int .i64 n) := by rw [cell_of_row _ _ _ _ _ _ r0]; rfl
  have q1 : W.cell? ⟨w.heap.size, 1, none⟩ = some (.slice a ops.length cap) := by rw [cell_of_row _ _ _ _ _ _ r0]; rfl
  have HW : Hid (W = (w.alloc (.cells #[.int .i64 n, .slice a ops.length cap] 68)).alloc (.cells zr 73)) := hW
  have HL : Hid (SlOps W a cap ops) := h.later hb
  have hzc : (Try.prog.info? 73).map (·.size) = some zr.size := (HZC.out w).info
  have hz1 : zr.all (·.oneCell') = true := (HZC.out w).one
  clear hW h hzr
  go_enter Try.func44, Try.ntmps44
  go_upto_region 1 with fail
  rw [HZL.out, ← HW.out]
  clear HW
  go_wp2_with fail
  refine (isTxn_any n W).mono ?_
  rintro e w2 ⟨rfl, hw⟩
  subst hw
  have HT2 : Hid (0 ≤ n ∧ n < 32) := t2
  have d2 : txnB n = true := decide_eq_true t2
  clear t2
  go_wp2_with fail
  refine (isOps_any a cap ops w2 HL.out.2.1 HL.out.1 HL.out.2.2.1).mono ?_
  rintro e w3 ⟨rfl, hb3⟩
  have hz3 := hb3.size
  have hbw : Below w.heap.size w w3 := hb.trans (hb3.mono (by omega))
  have r0' : w3.heap[w.heap.size]? = some (.cells #[.int .i64 n, .slice a ops.length cap] 68 (0, 0)) := by rw [hb3.block _ (by omega)]; exact r0
  have r1' : w3.heap[w.heap.size + 1]? = some (.cells zr 73 (0, 0)) := by rw [hb3.block _ (by omega)]; exact r1
  have q0' : w3.cell? ⟨w.heap.size, 0, none⟩ = some (.int .i64 n) := by rw [cell_of_row _ _ _ _ _ _ r0']; rfl
  have q1' : w3.cell? ⟨w.heap.size, 1, none⟩ = some (.slice a ops.length cap) := by rw [cell_of_row _ _ _ _ _ _ r0']; rfl
  have HL3 : Hid (SlOps w3 a cap ops) := HL.out.later hb3
  have HB3' : Hid (Below w.heap.size w w3) := hbw
  clear hb3 r0 r1 q0 q1 HL hb
  have HE : Hid (beginC n ops = ({ zeroC with begun := true, ops := ops }, againC { zeroC with begun := true, ops := ops } n, 0)) := begin_ok HT2.out t3
  have hl4 : ops.length ≤ 4 := by
    have := t3
    unfold goodOpsL at this
    simp at this
    omega
  obtain ⟨io, hio, oz0, oz1, oz2⟩ := info_parts Try.infoOp
  go_wp2_with (first
    | (at_builtin; refine wpList_copyP rfl _ _ 35 rfl 108 io _ 3 24 Try.underlying35 hio oz0 oz1 oz2 rfl (by decide) rfl a ops.length cap (opsCells ops) rfl (opsCells_len ops) HL3.out.2.2.2 (ops_cells HL3.out) (opsCells_one ops) HL3.out.2.1 (by omega) ?_)
    | go_in)
  intro ao co w4 hown hg4
  have hb4 : Below w3.heap.size w3 w4 := below_none hg4
  clear hg4 hio oz0 oz1 oz2
  have hz4 := hb4.size
  obtain ⟨al, hal⟩ : ∃ al, al = (rowF 24 (bcv (.slice ao ops.length co))).toList := ⟨_, rfl⟩
  have HAL : Hid ((#[.bool true, .bool false, .slice ao ops.length co, .bool false, .bool false, .bool false, .bool false, .bool false, .bool false, .bool false, .bool false, .bool false, .bool false, .bool false, .bool false, .slice none 0 0, .bool false, .bool false, .bool false, .bool false, .int .i64 0, .int .i64 0, .int .i64 0, .int .i64 0] : Array Value) = al.toArray) := by unfold Hid; rw [hal, Array.toArray_toList]; exact (brow_lit _).symm
  obtain ⟨X, hX⟩ : ∃ X, X = (w4.alloc (.cells zr 73)).setRow w4.heap.size al.toArray := ⟨_, rfl⟩
  have rowZ : (w4.alloc (.cells zr 73)).heap[w4.heap.size]? = some (.cells zr 73 (0, 0)) := heap_new _ _
  have hX1 : Below w4.heap.size w4 X := by rw [hX]; exact setRow_below ((Below.refl _ _).alloc (Nat.le_refl _) _) (Nat.le_refl _) _
  have hbX : Below w3.heap.size w3 X := hb4.trans (hX1.mono hz4)
  have hzX : X.heap.size = w4.heap.size + 1 := by rw [hX, size_setRow]; exact size_push _ _
  have hIO : IsO (· < w4.heap.size) w4 (.slice ao ops.length co) ops := (IsO.of_owns hown (by omega)).mono (fun b hb _ => hb)
  have hV4 : CaseV w4 al.toArray { zeroC with begun := true, ops := ops } := by rw [hal, Array.toArray_toList]; exact begun_case hIO
  have hBX : InBox w4.heap.size X al.toArray { zeroC with begun := true, ops := ops } := ⟨by rw [hX]; exact heap_setRow rowZ, hV4.later hX1⟩
  have zal2 := hBX.case.info
  have hal1 := hBX.case.one
  have hzz : zr.size = al.toArray.size := by rw [hBX.case.size]; exact (HZC.out w).size
  have HAV : Hid (Value.agg #[.bool true, .bool false, .slice ao ops.length co, .bool false, .bool false, .bool false, .bool false, .bool false, .bool false, .bool false, .bool false, .bool false, .bool false, .bool false, .bool false, .slice none 0 0, .bool false, .bool false, .bool false, .bool false, .int .i64 0, .int .i64 0, .int .i64 0, .int .i64 0] = .agg al.toArray) := by unfold Hid; rw [HAL.out]
  have HX : Hid (X = (w4.alloc (.cells zr 73)).setRow w4.heap.size al.toArray) := hX
  have q0X : X.cell? ⟨w.heap.size, 0, none⟩ = some (.int .i64 n) := by rw [hbX.cell (p := ⟨w.heap.size, 0, none⟩) (show w.heap.size < w3.heap.size by omega)]; exact q0'
  have r1X : X.heap[w.heap.size + 1]? = some (.cells zr 73 (0, 0)) := by rw [hbX.block _ (by omega)]; exact r1'
  have hXw : Below w.heap.size w X := HB3'.out.trans (hbX.mono (by omega))
  have HALA : Hid (al.toArray = rowF 24 (bcv (.slice ao ops.length co))) := by unfold Hid; rw [hal]
  have HIO : Hid (IsO (fun b => w.heap.size + 2 ≤ b) X (.slice ao ops.length co) ops) := ((IsO.of_owns hown (by omega)).mono (fun b _ hb => by have := hb.1; show w.heap.size + 2 ≤ b; omega)).later (SameOn.of_size hX1)
  clear hX hal
  go_wp2_with (first
    | (refine wpList_alloc_as rfl 73 rfl zr HZ0.out ?_)
    | (refine wpList_store_row rfl 73 _ _ rfl w4.heap.size al.toArray rfl HAV.out 73 _ rowZ zal2 hzz hal1 ?_)
    | fail)
  rw [← HX.out]
  clear HX
  have zal := hBX.case.len
  rw [show al.toArray.toList = al from rfl] at zal
  have HAg : Hid (∀ wx, wx = X.drew → Calls Try.prog 49 #[.agg al.toArray, .int .i64 n] wx fun e w' => ∃ x, e = .returned x ∧ Hid (FramesV (w.heap.size + 2) w' x (againC { zeroC with begun := true, ops := ops } n)) ∧ Hid (Below X.heap.size X w') ∧
      (w'.heap[w4.heap.size]? = some (.cells al.toArray 73 (0, 0)) ∧ w'.cell? ⟨w.heap.size, 0, none⟩ = some (.int .i64 n)) ∧ Hid (w'.heap[w.heap.size + 1]? = some (.cells zr 73 (0, 0)))) := by
    rintro wx rfl
    refine (ref_again (w.heap.size + 2) al.toArray { zeroC with begun := true, ops := ops } n _ (begun_far HALA.out (HIO.out.later (SameOn.of_size (Below.drew (Below.refl _ _))))) (show w.heap.size + 2 ≤ X.heap.size by omega)).mono ?_
    rintro e w5 ⟨x, rfl, hfx, hb5⟩
    have hb5' : Below X.heap.size X w5 := (Below.drew (Below.refl _ _)).trans hb5
    exact ⟨x, rfl, hfx, hb5', ⟨(hBX.later hb5').row, by rw [hb5'.cell (p := ⟨w.heap.size, 0, none⟩) (show w.heap.size < X.heap.size by omega)]; exact q0X⟩, by unfold Hid; rw [hb5'.block _ (by omega)]; exact r1X⟩
  have HBX : Hid (InBox w4.heap.size X al.toArray { zeroC with begun := true, ops := ops }) := hBX
  have rX := hBX.row
  have HS5 : Hid (∀ w5 : World, (w5.heap[w4.heap.size]? = some (.cells al.toArray 73 (0, 0)) ∧ w5.cell? ⟨w.heap.size, 0, none⟩ = some (.int .i64 n)) → ((w5.setRow (w.heap.size + 1) al.toArray).heap[w4.heap.size]? = some (.cells al.toArray 73 (0, 0)) ∧ (w5.setRow (w.heap.size + 1) al.toArray).cell? ⟨w.heap.size, 0, none⟩ = some (.int .i64 n))) := by
    intro w5 hw5
    refine ⟨by rw [setRow_other _ _ (by omega)]; exact hw5.1, ?_⟩
    rw [World.cell?_of_block (setRow_other w5 (k := w.heap.size) al.toArray (by omega))]
    exact hw5.2
  clear hown hIO hV4 hBX
  refine wp_region_held_drew (S := fun w' => w'.heap[w4.heap.size]? = some (.cells al.toArray 73 (0, 0)) ∧ w'.cell? ⟨w.heap.size, 0, none⟩ = some (.int .i64 n)) (by kernel_rfl) ⟨rX, q0X⟩ ?_
  intro hH
  refine wpAnyH_takeD (i := 0) (d := some 20) (v := .agg al.toArray) rfl rfl (by kernel_rfl) (by kernel_rfl) (by kernel_rfl) (fun _ _ _ h => h) (yieldsIf_load_mid (by rfl) _ _ rfl _ _ rfl al _ (fun _ h => range_of_list h.1) Try.underlying73 rfl zal) hH ?_
  simp only [Act.put, List.setIfInBounds_toArray, List.set_cons_zero, List.set_cons_succ]
  refine wpAnyH_takeD (i := 1) (d := some 21) (v := .agg al.toArray) rfl rfl (by kernel_rfl) (by kernel_rfl) (by kernel_rfl) (fun _ _ _ h => h) (yieldsIf_load_mid (by rfl) _ _ rfl _ _ rfl al _ (fun _ h => range_of_list h.1) Try.underlying73 rfl zal) hH ?_
  simp only [Act.put, List.setIfInBounds_toArray, List.set_cons_zero, List.set_cons_succ]
  refine wpAnyH_takeD (i := 2) (d := some 22) (v := .pointer (some ⟨w.heap.size, 0, none⟩)) rfl rfl (by kernel_rfl) (by kernel_rfl) (by kernel_rfl) (fun _ _ _ h => h) (Or.inl ⟨by rfl, fun _ _ => by go_simp⟩) hH ?_
  simp only [Act.put, List.setIfInBounds_toArray, List.set_cons_zero, List.set_cons_succ]
  refine wpAnyH_takeD (i := 3) (d := some 23) (v := .int .i64 n) rfl rfl (by kernel_rfl) (by kernel_rfl) (by kernel_rfl) (fun _ _ _ h => h) (Or.inl ⟨by rfl, fun _ hS => by obtain ⟨hS1, hS2⟩ := hS; go_simp⟩) hH ?_
  simp only [Act.put, List.setIfInBounds_toArray, List.set_cons_zero, List.set_cons_succ]
  refine wpAnyH_ready (rs := [4]) (by kernel_rfl) (by simp) ?_
  refine AllReadyH.cons rfl (fun K hK => ?_) AllReadyH.nil
  go_simp
  refine (HAg.out _ rfl).mono ?_
  rintro e w3 ⟨x, rfl, HFx, HB3, hS3, hR3⟩
  go_wp2_with fail
  refine hK.out _ _ (hS3) (fun hH2 => ?_)
  clear hK K hH
  have hH := hH2
  clear hH2
  refine wpAnyH_ready (rs := [5]) (by kernel_rfl) (by simp) ?_
  refine AllReadyH.cons rfl (fun K hK => ?_) AllReadyH.nil
  rw [if_pos (by rfl)]
  refine wp_store_row 73 _ _ rfl (w.heap.size + 1) al.toArray rfl rfl 73 _ hR3.out zal2 hzz hal1 ?_
  refine hK.out _ _ (HS5.out w3 hS3) (fun hH2 => ?_)
  clear hK K hH
  have hH := hH2
  clear hH2
  refine wpAnyH_takeD (i := 6) (d := some 3) (v := x) rfl rfl (by kernel_rfl) (by kernel_rfl) (by kernel_rfl) (fun _ _ _ h => h) (Or.inl ⟨by rfl, fun _ _ => by go_simp⟩) hH ?_
  simp only [Act.put, List.setIfInBounds_toArray, List.set_cons_zero, List.set_cons_succ]
  refine wpAnyH_takeD (i := 7) (d := some 4) (v := .int .i64 0) rfl rfl (by kernel_rfl) (by kernel_rfl) (by kernel_rfl) (fun _ _ _ h => h) (Or.inl ⟨by rfl, fun _ _ => by go_simp⟩) hH ?_
  simp only [Act.put, List.setIfInBounds_toArray, List.set_cons_zero, List.set_cons_succ]
  refine wpAnyH_done (by kernel_rfl) ?_ _
  have hbY : Below w.heap.size w (w3.setRow (w.heap.size + 1) al.toArray) := setRow_below (hXw.trans (HB3.out.mono (by omega))) (by omega) _
  have HCV : Hid (CaseV (w3.setRow (w.heap.size + 1) al.toArray) al.toArray { zeroC with begun := true, ops := ops }) := by
    have h1 := HIO.out.later (SameOn.of_size HB3.out)
    have h2 := h1.later (w' := w3.setRow (w.heap.size + 1) al.toArray) (fun b _ hb => setRow_other _ _ (by omega))
    unfold Hid
    rw [HALA.out] at h2 ⊢
    exact begun_case (h2.mono (fun b hb _ => hb))
  have HFY : Hid (FramesV w.heap.size (w3.setRow (w.heap.size + 1) al.toArray) x (againC { zeroC with begun := true, ops := ops } n)) :=
    (HFx.out.same (w' := w3.setRow (w.heap.size + 1) al.toArray) (fun b _ hb => setRow_other _ _ (by omega))).mono (by omega)
  go_wp2
  refine bodyPost_ret (v := .tuple #[.agg al.toArray, x, .int .i64 0]) (results_row2 Try.results44 _ _ (w.heap.size + 1) 73 al.toArray (0, 0) _ rfl (heap_setRow hR3.out) Try.underlying73 rfl zal2 _ _ rfl rfl) rfl ⟨_, _, by rw [HE.out], by rw [HE.out]; exact HCV.out, by rw [HE.out]; exact HFY.out, hbY⟩

theorem ref_begin (n : Int) (a : Option Addr) (cap : Nat) (ops : List OpL) (w : World) (h : SlOps w a cap ops) :
    Calls Try.prog 44 #[.agg #[.int .i64 n, .slice a ops.length cap]] w fun e w' => ∃ gr x, e = .returned (.tuple #[.agg gr, x, .int .i64 (beginC n ops).2.2]) ∧ CaseV w' gr (beginC n ops).1 ∧ FramesV w.heap.size w' x (beginC n ops).2.1 ∧ Below w.heap.size w w' := by
  by_cases t2 : 0 ≤ n ∧ n < 32
  · cases t3 : goodOpsL ops
    · exact rbegin_1 n a cap ops w h t2 t3
    · exact rbegin_2 n a cap ops w h t2 t3
  · exact rbegin_0 n a cap ops w h t2

end Go.Proofs.Ytkoefoccbjhoiab

namespace Go.Proofs.Ytkoefoccbjhoiab
open Go.RowKit

/-- A row of which no cell is frozen. -/
def Soft (w : World) (b : Nat) : Prop := ∃ cs t, w.heap[b]? = some (.cells cs t (0, 0))
theorem Soft.frozen {w : World} {b : Nat} (h : Soft w b) (o : Nat) : w.frozen? ⟨b, o, none⟩ = false := by
  obtain ⟨cs, t, e⟩ := h
  exact frozen_of_row _ _ _ _ _ e
theorem Soft.same {w w' : World} {b : Nat} (h : Soft w b) (e : w'.heap[b]? = w.heap[b]?) : Soft w' b := by
  obtain ⟨cs, t, h⟩ := h
  exact ⟨cs, t, by rw [e]; exact h⟩
theorem Soft.lt {w : World} {b : Nat} (h : Soft w b) : b < w.heap.size := by
  obtain ⟨cs, t, e⟩ := h
  exact (Array.getElem?_eq_some_iff.1 e).1
theorem Soft.below {w w' : World} {b : Nat} (h : Soft w b) (hb : Below w.heap.size w w') : Soft w' b := h.same (hb.block b h.lt)
theorem Soft.setRow {w : World} {b : Nat} (h : Soft w b) (g : Nat) (cs : Array Value) : Soft (w.setRow g cs) b := by
  by_cases e : b = g
  · subst e
    obtain ⟨cs', t, h⟩ := h
    exact ⟨cs, t, heap_setRow h⟩
  · exact h.same (setRow_other _ _ e)
theorem Soft.setCell {w : World} {b : Nat} (h : Soft w b) (g m : Nat) (v : Value) : Soft (w.setCell ⟨g, m, none⟩ v) b := by
  by_cases e : b = g
  · subst e
    obtain ⟨cs', t, h⟩ := h
    exact ⟨_, t, heap_setCell_same w b m _ _ _ h⟩
  · exact h.same (Below.heap_setCell _ _ _ _ e)
def SoftV (w : World) (v : Value) : Prop := ∀ b, v.ownBlock = some b → Soft w b
theorem SoftV.of_owns {w : World} {base : Nat} {e : TypeId} {size n : Nat} {v : Value} {xs : List Value} (h : w.ownsRow base e size v n xs) : SoftV w v := by
  rcases h.2 with ⟨rfl, _⟩ | ⟨g, cap, cur, rfl, _, hh, _⟩
  · intro b e; cases e
  · intro b e; cases e; exact ⟨cur, _, hh⟩
theorem SoftV.below {w w' : World} {v : Value} (h : SoftV w v) (hb : Below w.heap.size w w') : SoftV w' v := fun b e => (h b e).below hb
theorem SoftV.setCell {w : World} {v : Value} (h : SoftV w v) (g m : Nat) (u : Value) : SoftV (w.setCell ⟨g, m, none⟩ u) v := fun b e => (h b e).setCell g m u
theorem SoftV.setRow {w : World} {v : Value} (h : SoftV w v) (g : Nat) (cs : Array Value) : SoftV (w.setRow g cs) v := fun b e => (h b e).setRow g cs
theorem IsI.softly {ok : Nat → Prop} {w : World} {v : Value} {zs : List Int} (h : IsI ok w v zs) (hs : SoftV w v) : IsI (fun b => ok b ∧ Soft w b) w v zs := by
  obtain ⟨a, cap, rfl, h2, h3⟩ := h
  refine ⟨a, cap, rfl, ?_, h3⟩
  rcases h2 with h2 | ⟨b, off, rfl, hb, hc⟩
  · exact Or.inl h2
  · exact Or.inr ⟨b, off, rfl, ⟨hb, hs b rfl⟩, hc⟩
theorem IsO.softly {ok : Nat → Prop} {w : World} {v : Value} {zs : List OpL} (h : IsO ok w v zs) (hs : SoftV w v) : IsO (fun b => ok b ∧ Soft w b) w v zs := by
  obtain ⟨a, cap, rfl, h2, h3⟩ := h
  refine ⟨a, cap, rfl, ?_, h3⟩
  rcases h2 with h2 | ⟨b, off, rfl, hb, hc⟩
  · exact Or.inl h2
  · exact Or.inr ⟨b, off, rfl, ⟨hb, hs b rfl⟩, hc⟩
/-- The same rows in a later world. -/
theorem IsI.soft_on {ok : Nat → Prop} {w w' : World} {v : Value} {zs : List Int} (h : IsI (fun b => ok b ∧ Soft w b) w v zs) (hB : SameOn ok w w') : IsI (fun b => ok b ∧ Soft w' b) w' v zs := by
  obtain ⟨a, cap, rfl, h2, h3⟩ := h
  refine ⟨a, cap, rfl, ?_, h3⟩
  rcases h2 with h2 | ⟨b, off, rfl, hb, hc⟩
  · exact Or.inl h2
  · have e := hB b hb.2.lt hb.1
    exact Or.inr ⟨b, off, rfl, ⟨hb.1, hb.2.same e⟩, fun i hi => by rw [World.cell?_of_block (a := ⟨b, off + i, none⟩) e]; exact hc i hi⟩
theorem IsO.soft_on {ok : Nat → Prop} {w w' : World} {v : Value} {zs : List OpL} (h : IsO (fun b => ok b ∧ Soft w b) w v zs) (hB : SameOn ok w w') : IsO (fun b => ok b ∧ Soft w' b) w' v zs := by
  obtain ⟨a, cap, rfl, h2, h3⟩ := h
  refine ⟨a, cap, rfl, ?_, h3⟩
  rcases h2 with h2 | ⟨b, off, rfl, hb, hc⟩
  · exact Or.inl h2
  · have e := hB b hb.2.lt hb.1
    refine Or.inr ⟨b, off, rfl, ⟨hb.1, hb.2.same e⟩, fun i hi => ?_⟩
    rw [World.cell?_of_block (a := ⟨b, off + i * 3, none⟩) e, World.cell?_of_block (a := ⟨b, off + i * 3 + 1, none⟩) e, World.cell?_of_block (a := ⟨b, off + i * 3 + 2, none⟩) e]
    exact hc i hi

end Go.Proofs.Ytkoefoccbjhoiab

namespace Go.Proofs.Ytkoefoccbjhoiab
open Go.RowKit

theorem vals_at {b : Nat} {w : World} {gr : Array Value} {c : CaseL} (h : InBox b w gr c) (h4 : c.ops.length ≤ 4) : SlInts w (some ⟨b, 20, none⟩) 4 ((List.range c.ops.length).map c.vals) := by
  refine ⟨Or.inr ⟨b, 20, rfl, h.lt, fun i hi => ?_⟩, by simp; unfold maxLen; omega, by simpa using h4, fun e => by cases e⟩
  have hi' : i < c.ops.length := by simpa using hi
  rw [h.vals (by omega)]
  simp [List.getD, hi']
theorem hasAll_no {c : CaseL} {k : Nat} (hk : k < c.ops.length) (h : c.has k = false) : c.hasAll = false := by
  cases e : c.hasAll
  · rfl
  · rw [hasAll_iff.1 e k hk] at h; cases h

set_option maxRecDepth 100000 in
set_option maxHeartbeats 1000000 in
theorem p_resultS (gr : Array Value) (c : CaseL) (w : World) (h : CaseV w gr c) :
    Calls Try.prog 45 #[.agg gr] w fun e w' => ∃ v, e = .returned (.tuple #[v, .bool (resultC c).2]) ∧ IsI (fun b => w.heap.size ≤ b ∧ Soft w' b) w' v (resultC c).1 ∧ Below w.heap.size w w' := by
  obtain ⟨W, hW⟩ : ∃ W, W = w.alloc (.cells gr 73) := ⟨_, rfl⟩
  have hb : Below w.heap.size w W := by rw [hW]; exact (Below.refl _ _).alloc (Nat.le_refl _) _
  have hzW : W.heap.size = w.heap.size + 1 := by rw [hW]; exact size_push _ _
  have hB : InBox w.heap.size W gr c := by rw [hW]; exact InBox.new h
  have rB := hB.row
  have tB := hB.case.row
  have HB : Hid (InBox w.heap.size W gr c) := hB
  have HW : Hid (W = w.alloc (.cells gr 73)) := hW
  clear hW hB h
  go_enter Try.func45, Try.ntmps45
  go_upto_region 1 with fail
  rw [← HW.out]
  clear HW
  go_wp2_with (first
    | ((with_reducible apply wpl_row rB); (· rfl); (· exact tB); (· rfl); simp only [Act.put, List.setIfInBounds_toArray, List.set_cons_zero, List.set_cons_succ])
    | fail)
  refine (p_good gr c W HB.out.case).mono ?_
  rintro e w1 ⟨rfl, hb1⟩
  have HbW : Hid (Below w.heap.size w w1) := hb.trans (hb1.mono hb.size)
  have HB1 : Hid (InBox w.heap.size w1 gr c) := HB.out.later hb1
  have hz1 := hb1.size
  clear rB hb1 HB hb
  cases t1 : goodCB c
  · have HE : Hid (resultC c = ([], false)) := result_no (Or.inl t1)
    go_wp2
    go_ret2
    exact ⟨.slice none 0 0, by rw [HE.out]; rfl, by rw [HE.out]; exact IsI.nil _ _, HbW.out⟩
  have q0 := HB1.out.begun
  cases t2 : c.begun
  · have HE : Hid (resultC c = ([], false)) := result_no (Or.inr (Or.inl t2))
    rw [t2] at q0
    go_wp2
    go_ret2
    exact ⟨.slice none 0 0, by rw [HE.out]; rfl, by rw [HE.out]; exact IsI.nil _ _, HbW.out⟩
  rw [t2] at q0
  obtain ⟨a2, c2, q2, hs2, hl2⟩ := HB1.out.ops
  have h4 := good_case_len t2 t1
  have HG : Hid (goodCB c = true ∧ c.begun = true) := ⟨t1, t2⟩
  have h40 := h4.1
  have h44 := h4.2
  clear t2 h4 hs2
  go_wp2
  go_loopw [16] (fun i wr => ∃ k : Nat, k ≤ c.ops.length ∧ i = .int .i64 k ∧ Hid (∀ j, j < k → c.has j = true) ∧ wr = w1) (fun i _ => c.ops.length - (intOf i).toNat)
  case atStart => exact ⟨0, Nat.zero_le _, rfl, fun j hj => absurd hj (by omega), rfl⟩
  case round =>
    obtain ⟨k, hk, rfl, HNo, rfl⟩ := hrel
    by_cases hlt : k < c.ops.length
    · have hk4 : k < 4 := by omega
      have eh := HB1.out.has hk4
      have n1 : (0 : Int) ≤ (k : Int) ∧ (k : Int) < 4 := by omega
      cases t3 : c.has k
      · have HE : Hid (resultC c = ([], false)) := result_no (Or.inr (Or.inr (hasAll_no hlt t3)))
        rw [t3] at eh
        go_wp2
        go_ret2
        exact ⟨.slice none 0 0, by rw [HE.out]; rfl, by rw [HE.out]; exact IsI.nil _ _, HbW.out⟩
      · have HN2 : Hid (∀ j, j < k + 1 → c.has j = true) := fun j hj => by
          by_cases e : j = k
          · rw [e]; exact t3
          · exact HNo.out j (by omega)
        rw [t3] at eh
        go_wp2
        go_roundw
        case rel => exact ⟨k + 1, by omega, by go_num, HN2, trivial⟩
        case measure => simp [intOf]; omega
    · have HA : Hid (c.hasAll = true) := hasAll_iff.2 (fun i hi => HNo.out i (by omega))
      have HE : Hid (resultC c = ((List.range c.ops.length).map c.vals, true)) := result_yes HG.out.2 HG.out.1 HA.out
      have hsl := vals_at HB1.out h44
      have m1 : (0 : Int) ≤ (c.ops.length : Int) ∧ (c.ops.length : Int) ≤ 4 := by omega
      have hcl := cloneI_any (some ⟨w.heap.size, 20, none⟩) 4 ((List.range c.ops.length).map c.vals) wr hsl (by simp; omega)
      rw [List.length_map, List.length_range] at hcl
      have HCL : Hid (Calls Try.prog 86 #[.slice (some ⟨w.heap.size, 20, none⟩) c.ops.length 4] wr fun e w' => ∃ v, e = .returned v ∧ CloneI wr w' v ((List.range c.ops.length).map c.vals)) := hcl
      clear hsl hcl
      go_wp2_with fail
      refine HCL.out.mono ?_
      rintro e w5 ⟨v, rfl, hown, _, hb5⟩
      have HV : Hid (IsI (fun b => w.heap.size ≤ b ∧ Soft w5 b) w5 v ((List.range c.ops.length).map c.vals)) := ((IsI.of_owns hown (by simp; omega)).softly (SoftV.of_owns hown)).mono (fun b _ hb => ⟨by have := hb.1.1; show w.heap.size ≤ b; omega, hb.2⟩)
      have HB5 : Hid (Below w.heap.size w w5) := HbW.out.trans (hb5.mono (by omega))
      clear hown hb5
      go_wp2
      go_ret2
      exact ⟨v, by rw [HE.out]; rfl, by rw [HE.out]; exact HV.out, HB5.out⟩

theorem p_result (gr : Array Value) (c : CaseL) (w : World) (h : CaseV w gr c) :
    Calls Try.prog 45 #[.agg gr] w fun e w' => ∃ v, e = .returned (.tuple #[v, .bool (resultC c).2]) ∧ IsI (fun b => w.heap.size ≤ b) w' v (resultC c).1 ∧ Below w.heap.size w w' := by
  refine (p_resultS gr c w h).mono ?_
  rintro e w' ⟨v, h1, h2, h3⟩
  exact ⟨v, h1, h2.mono (fun _ _ k => k.1), h3⟩

end Go.Proofs.Ytkoefoccbjhoiab

namespace Go.Proofs.Ytkoefoccbjhoiab
open Go.RowKit
set_option linter.unusedSimpArgs false

theorem result_lacks {c : CaseL} (h : c.lacks 0 = true ∨ c.lacks 1 = true) : resultC c = ([], false) := by
  unfold resultC
  rw [if_pos]
  rcases h with h | h
  · exact Or.inr (Or.inr (Or.inl h))
  · exact Or.inr (Or.inr (Or.inr h))
theorem result_all {c : CaseL} (hb : c.begun = true) (hg : goodCB c = true) (h0 : c.lacks 0 = false) (h1 : c.lacks 1 = false) : resultC c = ((List.range c.ops.length).map c.vals, true) := by
  unfold resultC
  rw [if_neg]
  rintro (e | e | e | e)
  · rw [hb] at e; cases e
  · rw [hg] at e; cases e
  · rw [h0] at e; cases e
  · rw [h1] at e; cases e

set_option maxRecDepth 100000 in
set_option maxHeartbeats 2000000 in
theorem ref_result (gr : Array Value) (c : CaseL) (w : World) (h : CaseV w gr c) :
    Calls Try.prog 46 #[.agg gr] w fun e w' => ∃ v, e = .returned (.tuple #[v, .bool (resultC c).2]) ∧ IsI (fun b => w.heap.size ≤ b) w' v (resultC c).1 ∧ Below w.heap.size w w' := by
  obtain ⟨W, hW⟩ : ∃ W, W = w.alloc (.cells gr 73) := ⟨_, rfl⟩
  have hb : Below w.heap.size w W := by rw [hW]; exact (Below.refl _ _).alloc (Nat.le_refl _) _
  have hzW : W.heap.size = w.heap.size + 1 := by rw [hW]; exact size_push _ _
  have hB : InBox w.heap.size W gr c := by rw [hW]; exact InBox.new h
  have rB := hB.row
  have tB := hB.case.row
  have HB : Hid (InBox w.heap.size W gr c) := hB
  have HW : Hid (W = w.alloc (.cells gr 73)) := hW
  have q0 := hB.begun
  clear hW hB h
  go_enter Try.func46, Try.ntmps46
  go_upto_region 1 with fail
  rw [← HW.out]
  clear HW
  cases tb : c.begun
  · have HE : Hid (resultC c = ([], false)) := result_no (Or.inr (Or.inl tb))
    rw [tb] at q0
    go_wp2
    go_ret2
    exact ⟨.slice none 0 0, by rw [HE.out]; rfl, by rw [HE.out]; exact IsI.nil _ _, hb⟩
  rw [tb] at q0
  have HTB : Hid (c.begun = true) := tb
  clear tb
  go_wp2_with (first
    | ((with_reducible apply wpl_row rB); (· rfl); (· exact tB); (· rfl); simp only [Act.put, List.setIfInBounds_toArray, List.set_cons_zero, List.set_cons_succ])
    | fail)
  refine (ref_isCase gr c W HB.out.case).mono ?_
  rintro e w1 ⟨rfl, hb1⟩
  have hbw1 : Below w.heap.size w w1 := hb.trans (hb1.mono hb.size)
  have HB1 : Hid (InBox w.heap.size w1 gr c) := HB.out.later hb1
  have hz1 := hb1.size
  clear rB hb1 q0
  cases t1 : goodCB c
  · have HE : Hid (resultC c = ([], false)) := result_no (Or.inl t1)
    go_wp2
    go_ret2
    exact ⟨.slice none 0 0, by rw [HE.out]; rfl, by rw [HE.out]; exact IsI.nil _ _, hbw1⟩
  have h4 := good_case_len HTB.out t1
  have h40 := h4.1
  have h44 := h4.2
  have HT1 : Hid (goodCB c = true) := t1
  have rB1 := HB1.out.row
  clear t1 h4
  go_wp2_with (first
    | ((with_reducible apply wpl_row rB1); (· rfl); (· exact tB); (· rfl); simp only [Act.put, List.setIfInBounds_toArray, List.set_cons_zero, List.set_cons_succ])
    | fail)
  refine (ref_lacks gr c 0 w1 HB1.out.case h44).mono ?_
  rintro e w2 ⟨rfl, hb2⟩
  have hbw2 : Below w.heap.size w w2 := hbw1.trans (hb2.mono hbw1.size)
  have HB2 : Hid (InBox w.heap.size w2 gr c) := HB1.out.later hb2
  have hz2 := hb2.size
  clear rB1 hb2
  cases l0 : c.lacks 0
  rotate_left
  · have HE : Hid (resultC c = ([], false)) := result_lacks (Or.inl l0)
    go_wp2
    go_ret2
    exact ⟨.slice none 0 0, by rw [HE.out]; rfl, by rw [HE.out]; exact IsI.nil _ _, hbw2⟩
  have rB2 := HB2.out.row
  go_wp2_with (first
    | ((with_reducible apply wpl_row rB2); (· rfl); (· exact tB); (· rfl); simp only [Act.put, List.setIfInBounds_toArray, List.set_cons_zero, List.set_cons_succ])
    | fail)
  refine (ref_lacks gr c 1 w2 HB2.out.case h44).mono ?_
  rintro e w3 ⟨rfl, hb3⟩
  have hbw3 : Below w.heap.size w w3 := hbw2.trans (hb3.mono hbw2.size)
  have HB3 : Hid (InBox w.heap.size w3 gr c) := HB2.out.later hb3
  have hz3 := hb3.size
  clear rB2 hb3
  cases l1 : c.lacks 1
  rotate_left
  · have HE : Hid (resultC c = ([], false)) := result_lacks (Or.inr l1)
    go_wp2
    go_ret2
    exact ⟨.slice none 0 0, by rw [HE.out]; rfl, by rw [HE.out]; exact IsI.nil _ _, hbw3⟩
  have HE : Hid (resultC c = ((List.range c.ops.length).map c.vals, true)) := result_all HTB.out HT1.out l0 l1
  obtain ⟨a2, c2, q2, hs2, hl2⟩ := HB3.out.ops
  have HbW : Hid (Below w.heap.size w w3) := hbw3
  have hzb : w.heap.size < w3.heap.size := by omega
  clear l0 l1 hbw1 hbw2 hbw3 hs2
  go_wp2
  go_loopw [4, 25] (fun l i wr => ∃ k : Nat, k ≤ c.ops.length ∧ i = .int .i64 k ∧ wr.ownsRow w3.heap.size 3 1 l k (intCells ((List.range k).map c.vals)) ∧ Below w3.heap.size w3 wr) (fun _ i _ => c.ops.length - (intOf i).toNat)
  case atStart => exact ⟨0, Nat.zero_le _, rfl, World.ownsRow_nil _ _ _ _, Below.refl _ _⟩
  case round =>
    obtain ⟨k, hk, rfl, hO, hBw⟩ := hrel
    have hsz := hBw.size
    by_cases hlt : k < c.ops.length
    · have hk4 : k < 4 := by omega
      have qv : wr.cell? ⟨w.heap.size, 20 + k, none⟩ = some (.int .i64 (c.vals k)) := (HB3.out.later hBw).vals hk4
      have n1 : (0 : Int) ≤ (k : Int) ∧ (k : Int) < 4 := by omega
      have HOW : Hid ((wr.alloc (.cells #[.int .i64 (c.vals k)] 3)).ownsRow w3.heap.size 3 1 u4 k (intCells ((List.range k).map c.vals))) := hO.alloc _
      have HO : Hid (wr.ownsRow w3.heap.size 3 1 u4 k (intCells ((List.range k).map c.vals))) := hO
      have HBw : Hid (Below w3.heap.size w3 wr) := hBw
      obtain ⟨i0, hi, iz0, iz1, iz2⟩ := info_parts Try.infoInt
      clear hO hBw
      go_wp2_with (first
        | (at_builtin; refine wpList_append_own_at _ rfl _ _ 23 rfl w3.heap.size 3 i0 _ 1 8 Try.underlying23 hi iz0 iz1 iz2 rfl (by decide) _ _ _ rfl HOW.out ⟨wr.heap.size, 0, none⟩ 1 1 [.int .i64 (c.vals k)] rfl rfl (World.news_of_block (cs := #[.int .i64 (c.vals k)]) (t := 3) (fr := (0, 0)) (heap_new wr _)) ?c2 ?c3 ?c4 ?c5 ?_)
        | go_in)
      case c2 =>
        intro u hu
        simp at hu
        subst hu
        rfl
      case c3 => unfold maxLen; omega
      case c4 => omega
      case c5 => rw [size_push]; omega
      · intro v' Q hown' hgrow _ _
        have hbA : Below wr.heap.size wr (wr.alloc (.cells #[.int .i64 (c.vals k)] 3)) := (Below.refl _ _).alloc (Nat.le_refl _) _
        have HBQ : Hid (Below w3.heap.size w3 Q) := (HBw.out.trans (hbA.mono (by omega))).grown hgrow (by rw [size_push]; omega) (fun b hb => (World.ownsRow.lt HO.out b hb).1)
        have HOQ : Hid (Q.ownsRow w3.heap.size 3 1 v' (k + 1) (intCells ((List.range (k + 1)).map c.vals))) := by
          unfold Hid
          rw [List.range_succ, List.map_append]
          have e1 : intCells ((List.range k).map c.vals ++ [k].map c.vals) = intCells ((List.range k).map c.vals) ++ [.int .i64 (c.vals k)] := by simp [intCells]
          rw [e1]
          exact hown'
        clear hown' hgrow hbA HOW hi iz0 iz1 iz2
        go_wp2
        go_roundw
        case rel => exact ⟨k + 1, by omega, by go_num, HOQ.out, HBQ.out⟩
        case measure => simp [intOf]; omega
    · have hke : k = c.ops.length := by omega
      subst hke
      have HV : Hid (IsI (fun b => w.heap.size ≤ b) wr u4 ((List.range c.ops.length).map c.vals)) := by
        have h1 : wr.ownsRow w3.heap.size 3 1 u4 ((List.range c.ops.length).map c.vals).length (intCells ((List.range c.ops.length).map c.vals)) := by rw [List.length_map, List.length_range]; exact hO
        exact (IsI.of_owns h1 (by simp; omega)).mono (fun b _ hb => by have := hb.1; show w.heap.size ≤ b; omega)
      have HBF : Hid (Below w.heap.size w wr) := HbW.out.trans (hBw.mono (by omega))
      clear hO hBw
      go_wp2
      go_ret2
      exact ⟨u4, by rw [HE.out]; rfl, by rw [HE.out]; exact HV.out, HBF.out⟩

end Go.Proofs.Ytkoefoccbjhoiab
