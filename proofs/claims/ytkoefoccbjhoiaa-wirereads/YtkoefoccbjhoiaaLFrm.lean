/-
  The contract of the statements' own 'frame': a frame whose lists are copies.
-/
import Derived.Test.YtkoefoccbjhoiaaWEncode
import Derived.Laws.AppendOwnNone
import Derived.Deep.RegionLaw
import Derived.Deep.DrawnRows
import Derived.Deep.Cut
set_option linter.unusedVariables false
set_option linter.unusedSimpArgs false
namespace Go.Proofs.Ytkoefoccbjhoiaa
open Go.RowKit
attribute [local go_sem ↓] Go.wp_at_zero Go.wp_at_succ

/-- 'append([]T(nil), xs...)' at a step of a region that draws. -/
theorem step_copy {P : Program} {w : World} {ops : Array Oper} {o : Oper} {a : Act} {K : Act → World → Prop} {Q : Exit → Act → World → Prop} {E : Prop} (hgd : o.guard = none) (s x : Operand) (t : TypeId)
    (ho : o.op = .call { callee := .builtin .append, args := #[s, x], argTypes := #[t, t] })
    (e : TypeId) (i : TypeInfo) (z : Value) (size bytes : Nat) (ht : P.underlying t = some (.slice e)) (hi : P.info? e = some i) (hz : i.zero = some z) (hsize : i.size = size) (hby : i.bytes = bytes) (hzs : z.cells.size = size) (hsz : 0 < size)
    (hs : a.eval s = .slice none 0 0) (ad : Option Addr) (n cap : Nat) (xs : List Value) (hx : a.eval x = .slice ad n cap) (hl : xs.length = n * size) (hnil : ad = none → n = 0 ∧ cap = 0)
    (hcell : ∀ p, ad = some p → ∀ j u, xs[j]? = some u → w.cell? (p.add j) = some u) (h1 : ∀ u ∈ xs, u.oneCell' = true) (hm : n ≤ maxLen) (hbytes : n * bytes ≤ 140737488355328)
    (h : ∀ ad' cap' w', w'.ownsRow w.heap.size e size (.slice ad' n cap') n xs → w.grownBy w' none → K (a.put o.dst (.slice ad' n cap')) w') : if Region.wanted o (yielded ops a.tmps) = true then Oper.wp P o a w K Q else E := by
  have hw : Region.wanted o (yielded ops a.tmps) = true := by simp [Region.wanted, hgd]
  rw [if_pos hw]
  cases ad with
  | none =>
    obtain ⟨rfl, rfl⟩ := hnil rfl
    have hx0 : xs = [] := List.eq_nil_of_length_eq_zero (by rw [hl]; simp)
    subst hx0
    have hrun := run_append_owned_none (P := P) (w := w) w.heap.size t o.type e i size ht hi (.slice none 0 0) 0 [] (World.ownsRow_nil _ _ _ _)
    unfold Oper.wp
    simp [execOp, ho, resolve, invoke, builtin, hs, hx, hrun, Result.andThen]
    exact h _ _ _ (World.ownsRow_nil _ _ _ _) ⟨rfl, rfl, rfl, Nat.le_refl _, fun _ _ _ => rfl⟩
  | some p =>
    refine wp_append_own w s x t ho w.heap.size e i z size bytes ht hi hz hsize hby hzs hsz (.slice none 0 0) 0 [] hs (World.ownsRow_nil _ _ _ _) p n cap xs hx hl (hcell p rfl) h1 (by omega) (by simpa using hbytes) (Nat.le_refl _) ?_
    intro v' w' h2 h3 _
    rw [Nat.zero_add, List.nil_append] at h2
    obtain ⟨ad', cap', rfl, _⟩ := own_form h2
    exact h ad' cap' w' h2 h3

theorem ints_cells {w : World} {a : Option Addr} {cap : Nat} {zs : List Int} (h : SlInts w a cap zs) : ∀ p, a = some p → ∀ j u, (intCells zs)[j]? = some u → w.cell? (p.add j) = some u := by
  intro p hp j u hu
  rcases h.1 with rfl | ⟨b, off, hb, _, hc⟩
  · simp [intCells] at hu
  · rw [hp] at hb
    simp at hb
    subst hb
    have hj : j < zs.length := by
      have := (List.getElem?_eq_some_iff.1 hu).1
      simpa [intCells] using this
    rw [add_none, hc j hj]
    simp [intCells, hj] at hu
    simp [List.getD, hj, hu]
theorem ops_cells {w : World} {a : Option Addr} {cap : Nat} {zs : List OpL} (h : SlOps w a cap zs) : ∀ p, a = some p → ∀ j u, (opsCells zs)[j]? = some u → w.cell? (p.add j) = some u := by
  intro p hp j u hu
  rcases h.1 with rfl | ⟨b, off, hb, _, hc⟩
  · simp [opsCells] at hu
  · rw [hp] at hb
    simp at hb
    subst hb
    have hj : j < zs.length * 3 := by
      have := (List.getElem?_eq_some_iff.1 hu).1
      rwa [opsCells_len] at this
    have hq : j / 3 < zs.length := by omega
    obtain ⟨c0, c1, c2⟩ := hc (j / 3) hq
    obtain ⟨g0, g1, g2⟩ := opsCells_get zs (j / 3) hq
    rw [add_none]
    have hr : j = j / 3 * 3 ∨ j = j / 3 * 3 + 1 ∨ j = j / 3 * 3 + 2 := by omega
    rcases hr with e | e | e
    · rw [e] at hu ⊢
      rw [← hu, g0]
      exact c0
    · rw [e] at hu ⊢
      rw [← hu, g1]
      exact c1
    · rw [e] at hu ⊢
      rw [← hu, g2]
      exact c2
theorem ints_one (zs : List Int) : ∀ u ∈ intCells zs, u.oneCell' = true := by
  intro u hu
  obtain ⟨n, _, rfl⟩ := List.mem_map.1 hu
  rfl
theorem ops_one (zs : List OpL) : ∀ u ∈ opsCells zs, u.oneCell' = true := by
  intro u hu
  obtain ⟨o, _, h⟩ := List.mem_flatMap.1 hu
  exact one_op o u h
theorem intCells_len (zs : List Int) : (intCells zs).length = zs.length * 1 := by simp [intCells]

/-- The state of the copying: the frame's box at b, the result's at b + 1, the copies' rows behind them. -/
structure Cp (w : World) (kind node id : Int) (wr : World) (v3 v4 v5 v6 : Value) : Prop where
  f : FAt wr w.heap.size kind node id v3 v4 v5 v6
  z : FAt wr (w.heap.size + 1) 0 0 0 (.slice none 0 0) (.slice none 0 0) (.slice none 0 0) (.slice none 0 0)
  b : Below w.heap.size w wr
  s : w.heap.size + 2 ≤ wr.heap.size
theorem Cp.grown {w wr w1 : World} {kind node id : Int} {v3 v4 v5 v6 : Value} (h : Cp w kind node id wr v3 v4 v5 v6) (hg : wr.grownBy w1 none) : Cp w kind node id w1 v3 v4 v5 v6 :=
  ⟨h.f.block (hg.block _ h.f.lt (by simp)), h.z.block (hg.block _ h.z.lt (by simp)), h.b.grown hg h.b.size (by simp), by have := h.s; have := hg.size; omega⟩
theorem Cp.drew {w wr : World} {kind node id : Int} {v3 v4 v5 v6 : Value} (h : Cp w kind node id wr v3 v4 v5 v6) : Cp w kind node id wr.drew v3 v4 v5 v6 := ⟨h.f, h.z, h.b.drew, h.s⟩
theorem Cp.put3 {w wr : World} {kind node id : Int} {v3 v4 v5 v6 : Value} (h : Cp w kind node id wr v3 v4 v5 v6) (v : Value) : Cp w kind node id (wr.setCell ⟨w.heap.size, 3, none⟩ v) v v4 v5 v6 :=
  ⟨h.f.put3 v, h.z.block (Below.heap_setCell _ _ _ _ (by simp)), h.b.setCell (by simp) _, by have := h.s; simpa [World.setCell] using this⟩
theorem Cp.put4 {w wr : World} {kind node id : Int} {v3 v4 v5 v6 : Value} (h : Cp w kind node id wr v3 v4 v5 v6) (v : Value) : Cp w kind node id (wr.setCell ⟨w.heap.size, 4, none⟩ v) v3 v v5 v6 :=
  ⟨h.f.put4 v, h.z.block (Below.heap_setCell _ _ _ _ (by simp)), h.b.setCell (by simp) _, by have := h.s; simpa [World.setCell] using this⟩
theorem Cp.put5 {w wr : World} {kind node id : Int} {v3 v4 v5 v6 : Value} (h : Cp w kind node id wr v3 v4 v5 v6) (v : Value) : Cp w kind node id (wr.setCell ⟨w.heap.size, 5, none⟩ v) v3 v4 v v6 :=
  ⟨h.f.put5 v, h.z.block (Below.heap_setCell _ _ _ _ (by simp)), h.b.setCell (by simp) _, by have := h.s; simpa [World.setCell] using this⟩
theorem Cp.put6 {w wr : World} {kind node id : Int} {v3 v4 v5 v6 : Value} (h : Cp w kind node id wr v3 v4 v5 v6) (v : Value) : Cp w kind node id (wr.setCell ⟨w.heap.size, 6, none⟩ v) v3 v4 v5 v :=
  ⟨h.f.put6 v, h.z.block (Below.heap_setCell _ _ _ _ (by simp)), h.b.setCell (by simp) _, by have := h.s; simpa [World.setCell] using this⟩
theorem put7_low {w w1 : World} {b B : Nat} {x0 x1 x2 x3 x4 x5 x6 : Value} (h : Below B w w1) (hb : B ≤ b) : Below B w (put7 w1 b x0 x1 x2 x3 x4 x5 x6) :=
  ((((((h.setCell hb _).setCell hb _).setCell hb _).setCell hb _).setCell hb _).setCell hb _).setCell hb _
theorem own_none {w w1 : World} {b : Nat} {e : TypeId} {size : Nat} {v : Value} {n : Nat} {xs : List Value} (h : w.ownsRow b e size v n xs) (hg : w.grownBy w1 none) : w1.ownsRow b e size v n xs :=
  h.kept hg (by cases hv : v.ownBlock <;> simp)

set_option maxRecDepth 100000 in
set_option maxHeartbeats 2000000 in
theorem lawFrame_new (v : Value) (f : FrameL) (w : World) (hv : FrameV w v f) (r3 : f.ops.length * 24 ≤ 140737488355328) (r4 : f.deps.length * 8 ≤ 140737488355328) (r5 : f.ats.length * 8 ≤ 140737488355328) (r6 : f.vals.length * 8 ≤ 140737488355328) :
    Calls Try.prog 36 #[v] w fun e w' => ∃ v', e = .returned v' ∧ FrameV w' v' f ∧ FarV w.heap.size v' ∧ Below w.heap.size w w' := by
  obtain ⟨io, hio, oz0, oz1, oz2⟩ := info_parts Try.infoOp
  obtain ⟨i0, hi0, iz0, iz1, iz2⟩ := info_parts Try.infoInt
  obtain ⟨a3, c3, a4, c4, a5, c5, a6, c6, rfl, h3, h4, h5, h6⟩ := hv
  obtain ⟨kind, node, id, ops, deps, ats, vals⟩ := f
  simp only at h3 h4 h5 h6 r3 r4 r5 r6
  obtain ⟨W, hW⟩ : ∃ W, W = (w.alloc (.cells #[.int .i64 kind, .int .i64 node, .int .i64 id, .slice a3 ops.length c3, .slice a4 deps.length c4, .slice a5 ats.length c5, .slice a6 vals.length c6] 39)).alloc (.cells #[.int .i64 0, .int .i64 0, .int .i64 0, .slice none 0 0, .slice none 0 0, .slice none 0 0, .slice none 0 0] 39) := ⟨_, rfl⟩
  have C0 : Cp w kind node id W (.slice a3 ops.length c3) (.slice a4 deps.length c4) (.slice a5 ats.length c5) (.slice a6 vals.length c6) := by
    rw [hW]
    exact ⟨⟨39, by rw [Below.heap_alloc _ _ _ (by rw [alloc_size]; omega), heap_new]⟩, ⟨39, heap_new2 _ _ _⟩, ((Below.refl _ w).alloc (Nat.le_refl _) _).alloc (by rw [alloc_size]; omega) _, by rw [alloc_size, alloc_size]; omega⟩
  go_enter Try.func36, Try.ntmps36
  go_upto_region 1 with fail
  rw [← hW]
  clear hW
  have q3 := C0.f.cell.2.2.2.1
  have q4 := C0.f.cell.2.2.2.2.1
  go_cut [] from 3 (fun wc => ∃ v3 v4, Cp w kind node id wc v3 v4 (.slice a5 ats.length c5) (.slice a6 vals.length c6) ∧ wc.ownsRow (w.heap.size + 2) 28 3 v3 ops.length (opsCells ops) ∧ wc.ownsRow (w.heap.size + 2) 3 1 v4 deps.length (intCells deps))
  case first =>
    go_region_law
      ((first
        | (refine step_copy (by rfl) _ _ 22 (by rfl) 28 io _ 3 24 Try.underlying22 hio oz0 oz1 oz2 rfl (by decide) (by rfl) a3 ops.length c3 (opsCells ops) (by rfl) (opsCells_len ops) h3.2.2.2 (ops_cells (w := W.drew) (h3.later C0.drew.b)) (ops_one ops) h3.2.1 r3 ?_
           intro b3 d3 x1 own1 g1
           have C1 := C0.drew.grown g1
           have own1' := own_mono own1 C0.s
           have q4' := C1.f.cell.2.2.2.2.1
           have z1 := C1.f.frozen 3
           have z2 := C1.f.frozen 4
           clear g1 own1)
        | (refine step_copy (by rfl) _ _ 32 (by rfl) 3 i0 _ 1 8 Try.underlying32 hi0 iz0 iz1 iz2 rfl (by decide) (by rfl) a4 deps.length c4 (intCells deps) (by rfl) (intCells_len deps) h4.2.2.2 (ints_cells (h4.later C1.b)) (ints_one deps) h4.2.1 r4 ?_
           intro b4 d4 x2 own2 g2
           have C2 := C1.grown g2
           have own2' := own_mono own2 C1.s
           have own3' := own_none own1' g2
           have z3 := C2.f.frozen 3
           have z4 := C2.f.frozen 4
           have y3 := C2.f.cell.2.2.2.1
           have y4 := C2.f.cell.2.2.2.2.1
           clear g2 own2)
        | fail))
    all_goals
      go_wp2
      go_meet
      case rel => exact ⟨_, _, (C2.put3 _).put4 _, own_put (own_put own3' (by omega)) (by omega), own_put (own_put own2' (by omega)) (by omega)⟩
  case rest =>
    obtain ⟨v3, v4, C, own3, own4⟩ := hcut
    clear C0 q3 q4
    have q5 := C.f.cell.2.2.2.2.2.1
    have q6 := C.f.cell.2.2.2.2.2.2
    go_wp2_with fail
    go_region_law
      ((first
        | (refine step_copy (by rfl) _ _ 32 (by rfl) 3 i0 _ 1 8 Try.underlying32 hi0 iz0 iz1 iz2 rfl (by decide) (by rfl) a5 ats.length c5 (intCells ats) (by rfl) (intCells_len ats) h5.2.2.2 (ints_cells (w := wc.drew) (h5.later C.drew.b)) (ints_one ats) h5.2.1 r5 ?_
           intro b5 d5 x1 own1 g1
           have C1 := C.drew.grown g1
           have own1' := own_mono own1 C.s
           have own3' := own_none own3.drew g1
           have own4' := own_none own4.drew g1
           have q6' := C1.f.cell.2.2.2.2.2.2
           have z1 := C1.f.frozen 5
           have z2 := C1.f.frozen 6
           clear g1 own1)
        | (refine step_copy (by rfl) _ _ 32 (by rfl) 3 i0 _ 1 8 Try.underlying32 hi0 iz0 iz1 iz2 rfl (by decide) (by rfl) a6 vals.length c6 (intCells vals) (by rfl) (intCells_len vals) h6.2.2.2 (ints_cells (h6.later C1.b)) (ints_one vals) h6.2.1 r6 ?_
           intro b6 d6 x2 own2 g2
           have C2 := C1.grown g2
           have own6 := own_mono own2 C1.s
           have own5 := own_none own1' g2
           have own3'' := own_none own3' g2
           have own4'' := own_none own4' g2
           have z3 := C2.f.frozen 5
           have z4 := C2.f.frozen 6
           have y3 := C2.f.cell.2.2.2.2.2.1
           have y4 := C2.f.cell.2.2.2.2.2.2
           clear g2 own2)
        | fail))
    all_goals
      have C3 := (C2.put5 (.slice b5 ats.length d5)).put6 (.slice b6 vals.length d6)
      have o3 := own_put (c := w.heap.size) (o := 6) (u := .slice b6 vals.length d6) (own_put (c := w.heap.size) (o := 5) (u := .slice b5 ats.length d5) own3'' (by omega)) (by omega)
      have o4 := own_put (c := w.heap.size) (o := 6) (u := .slice b6 vals.length d6) (own_put (c := w.heap.size) (o := 5) (u := .slice b5 ats.length d5) own4'' (by omega)) (by omega)
      have o5 := own_put (c := w.heap.size) (o := 6) (u := .slice b6 vals.length d6) (own_put (c := w.heap.size) (o := 5) (u := .slice b5 ats.length d5) own5 (by omega)) (by omega)
      have o6 := own_put (c := w.heap.size) (o := 6) (u := .slice b6 vals.length d6) (own_put (c := w.heap.size) (o := 5) (u := .slice b5 ats.length d5) own6 (by omega)) (by omega)
      clear C C1 C2 own3 own4 own3' own4' own3'' own4'' own1' own5 own6 q5 q6 q6' z1 z2 z3 z4 y3 y4
      generalize (x2.setCell ⟨w.heap.size, 5, none⟩ (.slice b5 ats.length d5)).setCell ⟨w.heap.size, 6, none⟩ (.slice b6 vals.length d6) = x3 at *
      obtain ⟨b3, d3, e3, _⟩ := own_form o3
      obtain ⟨b4, d4, e4, _⟩ := own_form o4
      subst e3 e4
      obtain ⟨q0, q1, q2, q3, q4, q5, q6⟩ := C3.f.cell
      obtain ⟨g0, g1, g2, g3, g4, g5, g6⟩ := C3.z.cell
      have y0 := C3.z.frozen 0
      have y1 := C3.z.frozen 1
      have y2 := C3.z.frozen 2
      have y3 := C3.z.frozen 3
      have y4 := C3.z.frozen 4
      have y5 := C3.z.frozen 5
      have y6 := C3.z.frozen 6
      have HV : Hid (∀ x0 x1 x2 x3' x4 x5 x6, FrameV (put7 x3 (w.heap.size + 1) x0 x1 x2 x3' x4 x5 x6) (.agg #[.int .i64 kind, .int .i64 node, .int .i64 id, .slice b3 ops.length d3, .slice b4 deps.length d4, .slice b5 ats.length d5, .slice b6 vals.length d6]) ⟨kind, node, id, ops, deps, ats, vals⟩) :=
        fun x0 x1 x2 x3' x4 x5 x6 => ⟨b3, d3, b4, d4, b5, d5, b6, d6, rfl, SlOps.of_owns (put7_own o3 (by omega)), SlInts.of_owns (put7_own o4 (by omega)), SlInts.of_owns (put7_own o5 (by omega)), SlInts.of_owns (put7_own o6 (by omega))⟩
      have HFar : Hid (FarV w.heap.size (.agg #[.int .i64 kind, .int .i64 node, .int .i64 id, .slice b3 ops.length d3, .slice b4 deps.length d4, .slice b5 ats.length d5, .slice b6 vals.length d6])) := by
        intro cs hcs i x n cc hi
        cases hcs
        match i, hi with
        | 0, hi => simp at hi
        | 1, hi => simp at hi
        | 2, hi => simp at hi
        | 3, hi => simp at hi; exact far_of o3 (by omega) hi.1
        | 4, hi => simp at hi; exact far_of o4 (by omega) hi.1
        | 5, hi => simp at hi; exact far_of o5 (by omega) hi.1
        | 6, hi => simp at hi; exact far_of o6 (by omega) hi.1
        | n + 7, hi => simp at hi
      have hB3 := C3.b
      clear o3 o4 o5 o6 C3
      go_wp2
      refine bodyPost_ret (v := .agg #[.int .i64 kind, .int .i64 node, .int .i64 id, .slice b3 ops.length d3, .slice b4 deps.length d4, .slice b5 ats.length d5, .slice b6 vals.length d6]) (by simp [results, Try.results36, go_sem, *]) rfl ⟨_, rfl, HV.out _ _ _ _ _ _ _, HFar.out, ?_⟩
      exact put7_low hB3 (by omega)


theorem lawFrame_any (v : Value) (f : FrameL) (w : World) (hv : FrameV w v f) (r3 : f.ops.length * 24 ≤ 140737488355328) (r4 : f.deps.length * 8 ≤ 140737488355328) (r5 : f.ats.length * 8 ≤ 140737488355328) (r6 : f.vals.length * 8 ≤ 140737488355328) :
    Calls Try.prog 36 #[v] w fun e w' => ∃ v', e = .returned v' ∧ FrameV w' v' f ∧ Below w.heap.size w w' := by
  refine (lawFrame_new v f w hv r3 r4 r5 r6).mono ?_
  rintro e w' ⟨v', h1, h2, _, h3⟩
  exact ⟨v', h1, h2, h3⟩

end Go.Proofs.Ytkoefoccbjhoiaa
