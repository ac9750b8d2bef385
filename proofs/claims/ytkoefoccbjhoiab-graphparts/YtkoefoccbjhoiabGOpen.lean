/-
  How a graph that came in is read: which are known, and where its lists lie.
-/
import Derived.Test.YtkoefoccbjhoiabOpenB
import Derived.Test.YtkoefoccbjhoiabGMem
import Derived.Lib.SmallJoins
set_option linter.unusedVariables false
set_option linter.unusedSimpArgs false
namespace Go.Proofs.Ytkoefoccbjhoiab
open Go.ChangeShapes Go.WideShapes Go.ChangeAt Go.RowKit Go.Deep

theorem Try.cellsGraph : Try.prog.cellsOf 26 = 64 := by kernel_rfl
theorem Try.cellsSet : Try.prog.cellsOf 22 = 32 := by kernel_rfl
theorem Try.cellsLists : Try.prog.cellsOf 24 = 32 := by kernel_rfl
theorem Try.cellsBool : Try.prog.cellsOf 4 = 1 := by kernel_rfl
theorem Try.cellsSlice : Try.prog.cellsOf 23 = 1 := by kernel_rfl

theorem part_one {cs : List Value} {o n i : Nat} (h : o + i < cs.length) (hi : i < n) : ((((cs.drop o).take n).drop i).take 1) = [cs.getD (o + i) (.bool false)] := by
  apply List.ext_getElem?
  intro k
  cases k with
  | zero => simp [hi, List.getD, h]
  | succ k => simp; omega

section
variable {H : Type} {enc : TypeId × Value → H} {w : World} {base : Nat} {spare : Nat → Bool} {held : Bool}

set_option maxRecDepth 100000 in
theorem open_graph {r : Reach} {b0 : Nat} {v : Value} {d : DataW H} {p : List MemPlace} (hv : Value.okWide Try.prog w r b0 26 v) (h : DataW.Trod enc Try.prog w base spare held 26 v d p) :
    ∃ gv g, v = .agg (rowF 64 gv) ∧ GraphC w.heap.size w gv g := by
  obtain ⟨cs, rfl, hsz⟩ := okWide_struct Try.underlying26 hv
  rw [Try.cellsGraph] at hsz
  obtain ⟨fuel, hf⟩ := h
  obtain ⟨xs, n, _, _, _, hxl, hff⟩ := DataW.trod_struct Try.underlying26 hf
  have g0 : DataW.trod enc Try.prog w base spare held n 22 ((cs.toList.drop 0).take (Try.prog.cellsOf 22)) = xs[0]? := hff 0 _ rfl
  have g1 : DataW.trod enc Try.prog w base spare held n 24 ((cs.toList.drop 32).take (Try.prog.cellsOf 24)) = xs[1]? := hff 1 _ rfl
  have hl : cs.toList.length = 64 := by simpa using hsz
  rw [Try.cellsSet] at g0
  rw [Try.cellsLists] at g1
  obtain ⟨x0, hx0⟩ : ∃ x, xs[0]? = some x := ⟨_, List.getElem?_eq_getElem (by rw [hxl]; decide)⟩
  obtain ⟨x1, hx1⟩ : ∃ x, xs[1]? = some x := ⟨_, List.getElem?_eq_getElem (by rw [hxl]; decide)⟩
  rw [hx0] at g0
  rw [hx1] at g1
  obtain ⟨ys, _, _, _, _, hyl, hy⟩ := DataW.trod_array Try.underlying22 g0
  obtain ⟨zs, _, _, _, _, hzl, hz⟩ := DataW.trod_array Try.underlying24 g1
  have H1 : ∀ i, i < 32 → ∃ b, cs.toList.getD i (.bool false) = .bool b := by
    intro i hi
    have := hy i hi
    rw [Try.cellsBool, Nat.mul_one, part_one (by omega) hi, List.getElem?_eq_getElem (by omega)] at this
    obtain ⟨b, hb, _⟩ := DataW.trod_bool Try.underlying4 this
    rw [Nat.zero_add] at hb
    exact ⟨b, by simpa using hb⟩
  have H2 : ∀ i, i < 32 → ∃ q : Option Addr × Nat × List Int, cs.toList.getD (32 + i) (.bool false) = .slice q.1 q.2.2.length q.2.1 ∧ IntsAt w.heap.size w q.1 q.2.2 ∧ q.2.2.length ≤ maxLen := by
    intro i hi
    have := hz i hi
    rw [Try.cellsSlice, Nat.mul_one, part_one (by omega) hi, List.getElem?_eq_getElem (by omega)] at this
    obtain ⟨a, l, cap, hc⟩ := Joins.slice_form Try.underlying23 this
    simp only [List.cons.injEq, and_true] at hc
    rw [hc] at this
    obtain ⟨h1, ns, rfl, h2, _⟩ := open_intsAt Try.underlying23 Try.underlying3 Try.cellsInt this
    exact ⟨(a, cap, ns), hc, h2, h1⟩
  obtain ⟨K, hK⟩ := choose_lt H1
  obtain ⟨Q, hQ⟩ := choose_lt H2
  refine ⟨fun i => cs.toList.getD i (.bool false), ⟨K, fun i => (Q i).2.2⟩, ?_, ⟨hK, fun i hi => ⟨(Q i).1, (Q i).2.1, (hQ i hi).1, (hQ i hi).2.1, (hQ i hi).2.2⟩⟩⟩
  congr 1
  apply Array.ext_getElem?
  intro i
  by_cases hi : i < 64
  · rw [rowF_get _ hi]
    simp [List.getD, hsz, hi]
  · rw [Array.getElem?_eq_none (by omega), Array.getElem?_eq_none (by rw [rowF_size]; omega)]
end

end Go.Proofs.Ytkoefoccbjhoiab
