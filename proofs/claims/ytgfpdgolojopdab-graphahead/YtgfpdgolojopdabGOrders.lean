/-
  The statements' own question whether graph answers at all.
-/
import Derived.Test.YtgfpdgolojopdabGLink
namespace Go.Proofs.Ytgfpdgolojopdab
open Go.RowKit

def gTwo : GraphL := ⟨fun i => i == 1 || i == 2, fun i => if i = 1 then [2] else if i = 2 then [1] else []⟩
theorem two_order : orderI gTwo 2 = [1, 2] := by decide +kernel
theorem two_ready : readyI gTwo 1 = true := by decide +kernel
theorem two_reach : reachI gTwo 1 2 = true := by decide +kernel
def gvTwo (B o : Nat) : Value := if o < 32 then .bool (o == 1 || o == 2) else if o = 33 then .slice (some ⟨B + 1, 0, none⟩) 1 1 else if o = 34 then .slice (some ⟨B + 1 + 1, 0, none⟩) 1 1 else .slice none 0 0
theorem two_row (B : Nat) : rowF 64 (gvTwo B) = #[.bool false, .bool true, .bool true, .bool false, .bool false, .bool false, .bool false, .bool false, .bool false, .bool false, .bool false, .bool false, .bool false, .bool false, .bool false, .bool false, .bool false, .bool false, .bool false, .bool false, .bool false, .bool false, .bool false, .bool false, .bool false, .bool false, .bool false, .bool false, .bool false, .bool false, .bool false, .bool false, .slice none 0 0, .slice (some ⟨B + 1, 0, none⟩) 1 1, .slice (some ⟨B + 1 + 1, 0, none⟩) 1 1, .slice none 0 0, .slice none 0 0, .slice none 0 0, .slice none 0 0, .slice none 0 0, .slice none 0 0, .slice none 0 0, .slice none 0 0, .slice none 0 0, .slice none 0 0, .slice none 0 0, .slice none 0 0, .slice none 0 0, .slice none 0 0, .slice none 0 0, .slice none 0 0, .slice none 0 0, .slice none 0 0, .slice none 0 0, .slice none 0 0, .slice none 0 0, .slice none 0 0, .slice none 0 0, .slice none 0 0, .slice none 0 0, .slice none 0 0, .slice none 0 0, .slice none 0 0, .slice none 0 0] := by rfl

/-- A graph in a box, and all that may be asked of it later. -/
structure GBox (B : Nat) (W : World) (gv : Nat → Value) (g : GraphL) (gr : Array Value) : Prop where
  row : W.heap[B]? = some (.cells gr 26 (0, 0))
  eq : gr = rowF 64 gv
  lists : GraphC W.heap.size W gv g
theorem GBox.lt {B : Nat} {W : World} {gv : Nat → Value} {g : GraphL} {gr : Array Value} (h : GBox B W gv g gr) : B < W.heap.size := by
  have := (Array.getElem?_eq_some_iff.1 h.row).1
  exact this
theorem GBox.later {B : Nat} {W W' : World} {gv : Nat → Value} {g : GraphL} {gr : Array Value} (h : GBox B W gv g gr) (hb : Below W.heap.size W W') : GBox B W' gv g gr :=
  ⟨by rw [hb.block B h.lt]; exact h.row, h.eq, (h.lists.later hb).mono hb.size⟩
theorem GBox.order {B : Nat} {W : World} {gv : Nat → Value} {g : GraphL} {gr : Array Value} (h : GBox B W gv g gr) (n : Int) :
    Calls Try.prog 6 #[.agg gr, .int .i64 n] W fun e w' => ∃ v, e = .returned v ∧ w'.ownsRow W.heap.size 3 1 v (ints (orderI g n)).length (intCells (ints (orderI g n))) ∧ Below W.heap.size W w' := by
  rw [h.eq]; exact order_any gv g n W h.lists
theorem GBox.ready {B : Nat} {W : World} {gv : Nat → Value} {g : GraphL} {gr : Array Value} (h : GBox B W gv g gr) (n : Int) :
    Calls Try.prog 7 #[.agg gr, .int .i64 n] W fun e w' => e = .returned (.bool (readyI g n)) ∧ Below W.heap.size W w' := by
  rw [h.eq]; exact ready_any gv g n W h.lists
theorem GBox.reach {B : Nat} {W : World} {gv : Nat → Value} {g : GraphL} {gr : Array Value} (h : GBox B W gv g gr) (n : Int) :
    Calls Try.prog 9 #[.agg gr, .int .i64 n] W fun e w' => e = .returned (.agg (bools 32 (reachI g n))) ∧ Below W.heap.size W w' := by
  rw [h.eq]; exact reach_any gv g n W h.lists
theorem GBox.size {B : Nat} {W : World} {gv : Nat → Value} {g : GraphL} {gr : Array Value} (h : GBox B W gv g gr) : (Try.prog.info? 26).map (·.size) = some gr.size := by rw [h.eq]; exact Try.sizeGraph gv

theorem two_box (w : World) : GBox w.heap.size (((w.alloc (.cells (rowF 64 (gvTwo w.heap.size)) 26)).alloc (.cells #[.int .i64 2] 3)).alloc (.cells #[.int .i64 1] 3)) (gvTwo w.heap.size) gTwo (rowF 64 (gvTwo w.heap.size)) := by
  generalize hr : rowF 64 (gvTwo w.heap.size) = gr
  have hz : (((w.alloc (.cells gr 26)).alloc (.cells #[.int .i64 2] 3)).alloc (.cells #[.int .i64 1] 3)).heap.size = w.heap.size + 3 := by rw [size_push, size_push, size_push]
  have h2 : ((w.alloc (.cells gr 26)).alloc (.cells #[.int .i64 2] 3)).heap.size = w.heap.size + 2 := by rw [size_push, size_push]
  have h1 : (w.alloc (.cells gr 26)).heap.size = w.heap.size + 1 := size_push _ _
  have b2 : (((w.alloc (.cells gr 26)).alloc (.cells #[.int .i64 2] 3)).alloc (.cells #[.int .i64 1] 3)).heap[w.heap.size + 1 + 1]? = some (.cells #[.int .i64 1] 3 (0, 0)) := by
    rw [show w.heap.size + 1 + 1 = ((w.alloc (.cells gr 26)).alloc (.cells #[.int .i64 2] 3)).heap.size by omega]
    exact heap_new _ _
  have b1 : (((w.alloc (.cells gr 26)).alloc (.cells #[.int .i64 2] 3)).alloc (.cells #[.int .i64 1] 3)).heap[w.heap.size + 1]? = some (.cells #[.int .i64 2] 3 (0, 0)) := by
    rw [Below.heap_alloc _ _ _ (by omega), show w.heap.size + 1 = (w.alloc (.cells gr 26)).heap.size by omega]
    exact heap_new _ _
  refine ⟨?_, hr.symm, ⟨fun i hi => ?_, fun i hi => ?_⟩⟩
  · rw [Below.heap_alloc _ _ _ (by omega), Below.heap_alloc _ _ _ (by omega)]
    exact heap_new _ _
  · unfold gvTwo
    rw [if_pos hi]
    rfl
  · rw [hz]
    by_cases e1 : i = 1
    · subst e1
      refine ⟨some ⟨w.heap.size + 1, 0, none⟩, 1, rfl, Or.inr ⟨w.heap.size + 1, 0, rfl, by omega, fun k hk => ?_⟩, by decide⟩
      have hk' : k < 1 := hk
      obtain rfl : k = 0 := by omega
      rw [cell_of_row _ _ _ _ _ _ b1]
      rfl
    · by_cases e2 : i = 2
      · subst e2
        refine ⟨some ⟨w.heap.size + 1 + 1, 0, none⟩, 1, rfl, Or.inr ⟨w.heap.size + 1 + 1, 0, rfl, by omega, fun k hk => ?_⟩, by decide⟩
        have hk' : k < 1 := hk
        obtain rfl : k = 0 := by omega
        rw [cell_of_row _ _ _ _ _ _ b2]
        rfl
      · have ed : gTwo.deps i = [] := by unfold gTwo; simp [e1, e2]
        refine ⟨none, 0, ?_, ?_, ?_⟩
        · rw [ed]
          unfold gvTwo
          rw [if_neg (by omega), if_neg (by omega), if_neg (by omega)]
          rfl
        · rw [ed]; exact Or.inl rfl
        · rw [ed]; exact Nat.zero_le _

set_option maxRecDepth 100000 in
set_option maxHeartbeats 1000000 in
theorem keep_orders (w : World) : Calls Try.prog 8 #[] w fun e w' => e = .returned (.bool true) ∧ Below w.heap.size w w' := by
  have hbox := two_box w
  have hrow := two_row w.heap.size
  go_enter Try.func8, Try.ntmps8
  go_upto_region 4 with fail
  rw [← hrow]
  clear hrow
  have hb0 : Below w.heap.size w (((w.alloc (.cells (rowF 64 (gvTwo w.heap.size)) 26)).alloc (.cells #[.int .i64 2] 3)).alloc (.cells #[.int .i64 1] 3)) := (((Below.refl _ _).alloc (Nat.le_refl _) _).alloc (by rw [size_push]; omega) _).alloc (by rw [size_push, size_push]; omega) _
  obtain ⟨W, hW⟩ : ∃ W, W = (((w.alloc (.cells (rowF 64 (gvTwo w.heap.size)) 26)).alloc (.cells #[.int .i64 2] 3)).alloc (.cells #[.int .i64 1] 3)) := ⟨_, rfl⟩
  rw [← hW] at hbox hb0 ⊢
  clear hW
  generalize hgr : rowF 64 (gvTwo w.heap.size) = gr at hbox
  clear hgr
  have hsz := hbox.size
  have hbl := hbox.lt
  have hr0 := hbox.row
  have hor := hbox.order 2
  rw [two_order] at hor
  have HBX : Hid (GBox w.heap.size W (gvTwo w.heap.size) gTwo gr) := hbox
  clear hbox
  go_wp2_with (first
    | (refine wpList_load_row rfl 26 _ rfl w.heap.size rfl 26 gr (0, 0) _ hr0 Try.underlying26 rfl hsz ?_))
  refine hor.mono ?_
  rintro e w1 ⟨v, rfl, ho, hb1⟩
  have ho' : Own w1 (W.heap.size - 1) v [1, 2] := own_mono ho (by omega)
  obtain ⟨g8, cap8, hv8, _, _, _, _, hcell⟩ := ho'.form (by decide)
  rw [hv8]
  have c0 : w1.cell? ⟨g8, 0, none⟩ = some (.int .i64 1) := hcell 0 (by decide)
  have hl2 : (ints [1, 2]).length = 2 := rfl
  rw [hl2]
  have hbox1 := HBX.out.later hb1
  have hr1 := hbox1.row
  have hre := hbox1.ready 1
  rw [two_ready] at hre
  have HBX1 : Hid (GBox w.heap.size w1 (gvTwo w.heap.size) gTwo gr) := hbox1
  have hb2 : Below w.heap.size w w1 := hb0.trans (hb1.mono (by omega))
  clear hor ho ho' hcell hv8 hl2 hbox1 hr0 hb0
  go_wp2_with (first
    | (refine wpList_wanted (by rfl) fun K hK => wp_load_row 26 _ rfl w.heap.size rfl 26 gr (0, 0) _ hr1 Try.underlying26 rfl hsz (hK _ _ ?_)))
  refine hre.mono ?_
  rintro e w2 ⟨rfl, hb3⟩
  have hbox2 := HBX1.out.later hb3
  have hr2 := hbox2.row
  have hrc := hbox2.reach 1
  have hz1 := hb2.size
  have hb4 : Below w.heap.size w w2 := hb2.trans (hb3.mono (by omega))
  have hz2 := hb4.size
  have hix : ∀ wx, (Instr.index 22 (.agg (bools 32 (reachI gTwo 1))) (.int .i64 2)).run Try.prog wx = .ok (.bool true) wx := fun wx => by
    have := run_index_bools Try.underlying22 Try.underlying4 Try.infoBool (reachI gTwo 1) (k := 2) (by decide) wx
    rw [two_reach] at this
    exact this
  clear hre hbox2 hr1 c0 hb2
  go_wp2_with (first
    | (refine wpList_wanted (by rfl) fun K hK => wp_load_row 26 _ rfl w.heap.size rfl 26 gr (0, 0) _ hr2 Try.underlying26 rfl hsz (hK _ _ ?_)))
  refine hrc.mono ?_
  rintro e w3 ⟨rfl, hb5⟩
  go_wp2_with fail
  go_ret
  exact ⟨rfl, hb4.trans (hb5.mono (by omega))⟩

end Go.Proofs.Ytgfpdgolojopdab
