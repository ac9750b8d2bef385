/-
  The contract of the statements' own 'frame': a frame whose lists are copies.
-/
import Derived.Test.YtgdkjjmnoikhdabRep19
import Derived.Laws.AppendOwnNone
import Derived.Deep.RegionLaw
import Derived.Deep.DrawnRows
import Derived.Deep.Cut
namespace Go.Proofs.Ytgdkjjmnoikhdab
open Go.RowKit
attribute [local go_sem ↓] Go.wp_at_zero Go.wp_at_succ

/-- 'append([]T(nil), xs...)' at a step of a region that draws. -/
theorem step_copy {P : Program} {w : World} {ops : Array Oper} {o : Oper} {a : Act} {K : Act → World → Prop} {Q : Exit → Act → World → Prop} {E : Prop} (hgd : o.guard = none) (s x : Operand) (t : TypeId)
    (ho : o.op = .call { callee := .builtin .append, args := #[s, x], argTypes := #[t, t] })
    (e : TypeId) (i : TypeInfo) (z : Value) (size bytes : Nat) (ht : P.underlying t = some (.slice e)) (hi : P.info? e = some i) (hz : i.zero = some z) (hsize : i.size = size) (hby : i.bytes = bytes) (hzs : z.cells.size = size) (hsz : 0 < size)
    (hs : a.eval s = .slice none 0 0) (ad : Option Addr) (n cap : Nat) (xs : List Value) (hx : a.eval x = .slice ad n cap) (hl : xs.length = n * size) (hnil : ad = none → n = 0 ∧ cap = 0)
    (hcell : ∀ p, ad = some p → ∀ j u, xs[j]? = some u → w.cell? (p.add j) = some u) (h1 : ∀ u ∈ xs, u.oneCell' = true) (hm : n ≤ maxLen) (hbytes : n * bytes ≤ 140737488355328)
    (h : ∀ ad' cap' w', w'.ownsRow w.heap.size e size (.slice ad' n cap') n xs → w.grownBy w' none → K (a.put o.dst (.slice ad' n cap')) w') : if Region.wanted o (yielded ops a.tmps) = true then Oper.wp P o a w K Q else E := by
  have hw : Region.wanted o (yielded ops a.tmps) = true := by simp [Region.wanted, hgd]
  rw [if_pos hw]
  cases ad with
  | none =>
    obtain ⟨rfl, rfl⟩ := hnil rfl
    have hx0 : xs = [] := List.eq_nil_of_length_eq_zero (by rw [hl]; simp)
    subst hx0
    have hrun := run_append_owned_none (P := P) (w := w) w.heap.size t o.type e i size ht hi (.slice none 0 0) 0 [] (World.ownsRow_nil _ _ _ _)
    unfold Oper.wp
    simp [execOp, ho, resolve, invoke, builtin, hs, hx, hrun, Result.andThen]
    exact h _ _ _ (World.ownsRow_nil _ _ _ _) ⟨rfl, rfl, rfl, Nat.le_refl _, fun _ _ _ => rfl⟩
  | some p =>
    refine wp_append_own w s x t ho w.heap.size e i z size bytes ht hi hz hsize hby hzs hsz (.slice none 0 0) 0 [] hs (World.ownsRow_nil _ _ _ _) p n cap xs hx hl (hcell p rfl) h1 (by omega) (by simpa using hbytes) (Nat.le_refl _) ?_
    intro v' w' h2 h3 _
    rw [Nat.zero_add, List.nil_append] at h2
    obtain ⟨ad', cap', rfl, _⟩ := own_form h2
    exact h ad' cap' w' h2 h3

theorem ints_cells {w : World} {a : Option Addr} {cap : Nat} {zs : List Int} (h : SlInts w a cap zs) : ∀ p, a = some p → ∀ j u, (intCells zs)[j]? = some u → w.cell? (p.add j) = some u := by
  intro p hp j u hu
  rcases h.1 with rfl | ⟨b, off, hb, _, hc⟩
  · simp [intCells] at hu
  · rw [hp] at hb
    simp at hb
    subst hb
    have hj : j < zs.length := by
      have := (List.getElem?_eq_some_iff.1 hu).1
      simpa [intCells] using this
    rw [add_none, hc j hj]
    simp [intCells, hj] at hu
    simp [List.getD, hj, hu]
theorem ops_cells {w : World} {a : Option Addr} {cap : Nat} {zs : List OpL} (h : SlOps w a cap zs) : ∀ p, a = some p → ∀ j u, (opsCells zs)[j]? = some u → w.cell? (p.add j) = some u := by
  intro p hp j u hu
  rcases h.1 with rfl | ⟨b, off, hb, _, hc⟩
  · simp [opsCells] at hu
  · rw [hp] at hb
    simp at hb
    subst hb
    have hj : j < zs.length * 3 := by
      have := (List.getElem?_eq_some_iff.1 hu).1
      rwa [opsCells_len] at this
    have hq : j / 3 < zs.length := by omega
    obtain ⟨c0, c1, c2⟩ := hc (j / 3) hq
    obtain ⟨g0, g1, g2⟩ := opsCells_get zs (j / 3) hq
    rw [add_none]
    have hr : j = j / 3 * 3 ∨ j = j / 3 * 3 + 1 ∨ j = j / 3 * 3 + 2 := by omega
    rcases hr with e | e | e
    · rw [e] at hu ⊢
      rw [← hu, g0]
      exact c0
    · rw [e] at hu ⊢
      rw [← hu, g1]
      exact c1
    · rw [e] at hu ⊢
      rw [← hu, g2]
      exact c2
theorem ints_one (zs : List Int) : ∀ u ∈ intCells zs, u.oneCell' = true := by
  intro u hu
  obtain ⟨n, _, rfl⟩ := List.mem_map.1 hu
  rfl
theorem ops_one (zs : List OpL) : ∀ u ∈ opsCells zs, u.oneCell' = true := by
  intro u hu
  obtain ⟨o, _, h⟩ := List.mem_flatMap.1 hu
  exact one_op o u h
theorem intCells_len (zs : List Int) : (intCells zs).length = zs.length * 1 := by simp [intCells]

theorem own_none {w w1 : World} {b : Nat} {e : TypeId} {size : Nat} {v : Value} {n : Nat} {xs : List Value} (h : w.ownsRow b e size v n xs) (hg : w.grownBy w1 none) : w1.ownsRow b e size v n xs :=
  h.kept hg (by cases hv : v.ownBlock <;> simp)

end Go.Proofs.Ytgdkjjmnoikhdab
