/-
  The statements' own question whether graph answers at all.
-/
import Derived.Test.YtkoefoccbjhoiabGLink
set_option linter.unusedVariables false
set_option linter.unusedSimpArgs false
namespace Go.Proofs.Ytkoefoccbjhoiab
open Go.RowKit

def gTwo : GraphL := ⟨fun i => i == 1 || i == 2, fun i => if i = 1 then [2] else if i = 2 then [1] else []⟩
theorem two_order : orderI gTwo 2 = [1, 2] := by decide +kernel
theorem two_ready : readyI gTwo 1 = true := by decide +kernel
theorem two_reach : reachI gTwo 1 2 = true := by decide +kernel
def gvTwo (B o : Nat) : Value := if o < 32 then .bool (o == 1 || o == 2) else if o = 33 then .slice (some ⟨B + 1, 0, none⟩) 1 1 else if o = 34 then .slice (some ⟨B + 1 + 1, 0, none⟩) 1 1 else .slice none 0 0
theorem two_row (B : Nat) : rowF 64 (gvTwo B) = #[.bool false, .bool true, .bool true, .bool false, .bool false, .bool false, .bool false, .bool false, .bool false, .bool false, .bool false, .bool false, .bool false, .bool false, .bool false, .bool false, .bool false, .bool false, .bool false, .bool false, .bool false, .bool false, .bool false, .bool false, .bool false, .bool false, .bool false, .bool false, .bool false, .bool false, .bool false, .bool false, .slice none 0 0, .slice (some ⟨B + 1, 0, none⟩) 1 1, .slice (some ⟨B + 1 + 1, 0, none⟩) 1 1, .slice none 0 0, .slice none 0 0, .slice none 0 0, .slice none 0 0, .slice none 0 0, .slice none 0 0, .slice none 0 0, .slice none 0 0, .slice none 0 0, .slice none 0 0, .slice none 0 0, .slice none 0 0, .slice none 0 0, .slice none 0 0, .slice none 0 0, .slice none 0 0, .slice none 0 0, .slice none 0 0, .slice none 0 0, .slice none 0 0, .slice none 0 0, .slice none 0 0, .slice none 0 0, .slice none 0 0, .slice none 0 0, .slice none 0 0, .slice none 0 0, .slice none 0 0, .slice none 0 0] := by rfl

/-- A graph in a box, and all that may be asked of it later. -/
structure GBox (B : Nat) (W : World) (gv : Nat → Value) (g : GraphL) (gr : Array Value) : Prop where
  row : W.heap[B]? = some (.cells gr 26 (0, 0))
  eq : gr = rowF 64 gv
  lists : GraphC W.heap.size W gv g
theorem GBox.lt {B : Nat} {W : World} {gv : Nat → Value} {g : GraphL} {gr : Array Value} (h : GBox B W gv g gr) : B < W.heap.size := by
  have := (Array.getElem?_eq_some_iff.1 h.row).1
  exact this
theorem GBox.later {B : Nat} {W W' : World} {gv : Nat → Value} {g : GraphL} {gr : Array Value} (h : GBox B W gv g gr) (hb : Below W.heap.size W W') : GBox B W' gv g gr :=
  ⟨by rw [hb.block B h.lt]; exact h.row, h.eq, (h.lists.later hb).mono hb.size⟩
theorem GBox.order {B : Nat} {W : World} {gv : Nat → Value} {g : GraphL} {gr : Array Value} (h : GBox B W gv g gr) (n : Int) :
    Calls Try.prog 15 #[.agg gr, .int .i64 n] W fun e w' => ∃ v, e = .returned v ∧ w'.ownsRow W.heap.size 3 1 v (ints (orderI g n)).length (intCells (ints (orderI g n))) ∧ Below W.heap.size W w' := by
  rw [h.eq]; exact order_any gv g n W h.lists
theorem GBox.ready {B : Nat} {W : World} {gv : Nat → Value} {g : GraphL} {gr : Array Value} (h : GBox B W gv g gr) (n : Int) :
    Calls Try.prog 16 #[.agg gr, .int .i64 n] W fun e w' => e = .returned (.bool (readyI g n)) ∧ Below W.heap.size W w' := by
  rw [h.eq]; exact ready_any gv g n W h.lists
theorem GBox.reach {B : Nat} {W : World} {gv : Nat → Value} {g : GraphL} {gr : Array Value} (h : GBox B W gv g gr) (n : Int) :
    Calls Try.prog 18 #[.agg gr, .int .i64 n] W fun e w' => e = .returned (.agg (bools 32 (reachI g n))) ∧ Below W.heap.size W w' := by
  rw [h.eq]; exact reach_any gv g n W h.lists
theorem GBox.size {B : Nat} {W : World} {gv : Nat → Value} {g : GraphL} {gr : Array Value} (h : GBox B W gv g gr) : (Try.prog.info? 26).map (·.size) = some gr.size := by rw [h.eq]; exact Try.sizeGraph gv

theorem two_box (w : World) : GBox w.heap.size (((w.alloc (.cells (rowF 64 (gvTwo w.heap.size)) 26)).alloc (.cells #[.int .i64 2] 3)).alloc (.cells #[.int .i64 1] 3)) (gvTwo w.heap.size) gTwo (rowF 64 (gvTwo w.heap.size)) := by
  generalize hr : rowF 64 (gvTwo w.heap.size) = gr
  have hz : (((w.alloc (.cells gr 26)).alloc (.cells #[.int .i64 2] 3)).alloc (.cells #[.int .i64 1] 3)).heap.size = w.heap.size + 3 := by rw [size_push, size_push, size_push]
  have h2 : ((w.alloc (.cells gr 26)).alloc (.cells #[.int .i64 2] 3)).heap.size = w.heap.size + 2 := by rw [size_push, size_push]
  have h1 : (w.alloc (.cells gr 26)).heap.size = w.heap.size + 1 := size_push _ _
  have b2 : (((w.alloc (.cells gr 26)).alloc (.cells #[.int .i64 2] 3)).alloc (.cells #[.int .i64 1] 3)).heap[w.heap.size + 1 + 1]? = some (.cells #[.int .i64 1] 3 (0, 0)) := by
    rw [show w.heap.size + 1 + 1 = ((w.alloc (.cells gr 26)).alloc (.cells #[.int .i64 2] 3)).heap.size by omega]
    exact heap_new _ _
  have b1 : (((w.alloc (.cells gr 26)).alloc (.cells #[.int .i64 2] 3)).alloc (.cells #[.int .i64 1] 3)).heap[w.heap.size + 1]? = some (.cells #[.int .i64 2] 3 (0, 0)) := by
    rw [Below.heap_alloc _ _ _ (by omega), show w.heap.size + 1 = (w.alloc (.cells gr 26)).heap.size by omega]
    exact heap_new _ _
  refine ⟨?_, hr.symm, ⟨fun i hi => ?_, fun i hi => ?_⟩⟩
  · rw [Below.heap_alloc _ _ _ (by omega), Below.heap_alloc _ _ _ (by omega)]
    exact heap_new _ _
  · unfold gvTwo
    rw [if_pos hi]
    rfl
  · rw [hz]
    by_cases e1 : i = 1
    · subst e1
      refine ⟨some ⟨w.heap.size + 1, 0, none⟩, 1, rfl, Or.inr ⟨w.heap.size + 1, 0, rfl, by omega, fun k hk => ?_⟩, by decide⟩
      have hk' : k < 1 := hk
      obtain rfl : k = 0 := by omega
      rw [cell_of_row _ _ _ _ _ _ b1]
      rfl
    · by_cases e2 : i = 2
      · subst e2
        refine ⟨some ⟨w.heap.size + 1 + 1, 0, none⟩, 1, rfl, Or.inr ⟨w.heap.size + 1 + 1, 0, rfl, by omega, fun k hk => ?_⟩, by decide⟩
        have hk' : k < 1 := hk
        obtain rfl : k = 0 := by omega
        rw [cell_of_row _ _ _ _ _ _ b2]
        rfl
      · have ed : gTwo.deps i = [] := by unfold gTwo; simp [e1, e2]
        refine ⟨none, 0, ?_, ?_, ?_⟩
        · rw [ed]
          unfold gvTwo
          rw [if_neg (by omega), if_neg (by omega), if_neg (by omega)]
          rfl
        · rw [ed]; exact Or.inl rfl
        · rw [ed]; exact Nat.zero_le _

end Go.Proofs.Ytkoefoccbjhoiab
