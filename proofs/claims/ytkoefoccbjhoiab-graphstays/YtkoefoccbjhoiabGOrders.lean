/-
  The statements' own question whether graph answers at all.
-/
import Derived.Test.YtkoefoccbjhoiabGTwo
set_option linter.unusedVariables false
set_option linter.unusedSimpArgs false
namespace Go.Proofs.Ytkoefoccbjhoiab
open Go.RowKit

set_option maxRecDepth 100000 in
set_option maxHeartbeats 1000000 in
theorem keep_orders (w : World) : Calls Try.prog 17 #[] w fun e w' => e = .returned (.bool true) ∧ Below w.heap.size w w' := by
  have hbox := two_box w
  have hrow := two_row w.heap.size
  go_enter Try.func17, Try.ntmps17
  go_upto_region 4 with fail
  rw [← hrow]
  clear hrow
  have hb0 : Below w.heap.size w (((w.alloc (.cells (rowF 64 (gvTwo w.heap.size)) 26)).alloc (.cells #[.int .i64 2] 3)).alloc (.cells #[.int .i64 1] 3)) := (((Below.refl _ _).alloc (Nat.le_refl _) _).alloc (by rw [size_push]; omega) _).alloc (by rw [size_push, size_push]; omega) _
  obtain ⟨W, hW⟩ : ∃ W, W = (((w.alloc (.cells (rowF 64 (gvTwo w.heap.size)) 26)).alloc (.cells #[.int .i64 2] 3)).alloc (.cells #[.int .i64 1] 3)) := ⟨_, rfl⟩
  rw [← hW] at hbox hb0 ⊢
  clear hW
  generalize hgr : rowF 64 (gvTwo w.heap.size) = gr at hbox
  clear hgr
  have hsz := hbox.size
  have hbl := hbox.lt
  have hr0 := hbox.row
  have hor := hbox.order 2
  rw [two_order] at hor
  have HBX : Hid (GBox w.heap.size W (gvTwo w.heap.size) gTwo gr) := hbox
  clear hbox
  go_wp2_with (first
    | (refine wpList_load_row rfl 26 _ rfl w.heap.size rfl 26 gr (0, 0) _ hr0 Try.underlying26 rfl hsz ?_))
  refine hor.mono ?_
  rintro e w1 ⟨v, rfl, ho, hb1⟩
  have ho' : Own w1 (W.heap.size - 1) v [1, 2] := own_mono ho (by omega)
  obtain ⟨g8, cap8, hv8, _, _, _, _, hcell⟩ := ho'.form (by decide)
  rw [hv8]
  have c0 : w1.cell? ⟨g8, 0, none⟩ = some (.int .i64 1) := hcell 0 (by decide)
  have hl2 : (ints [1, 2]).length = 2 := rfl
  rw [hl2]
  have hbox1 := HBX.out.later hb1
  have hr1 := hbox1.row
  have hre := hbox1.ready 1
  rw [two_ready] at hre
  have HBX1 : Hid (GBox w.heap.size w1 (gvTwo w.heap.size) gTwo gr) := hbox1
  have hb2 : Below w.heap.size w w1 := hb0.trans (hb1.mono (by omega))
  clear hor ho ho' hcell hv8 hl2 hbox1 hr0 hb0
  go_wp2_with (first
    | (refine wpList_wanted (by rfl) fun K hK => wp_load_row 26 _ rfl w.heap.size rfl 26 gr (0, 0) _ hr1 Try.underlying26 rfl hsz (hK _ _ ?_)))
  refine hre.mono ?_
  rintro e w2 ⟨rfl, hb3⟩
  have hbox2 := HBX1.out.later hb3
  have hr2 := hbox2.row
  have hrc := hbox2.reach 1
  have hz1 := hb2.size
  have hb4 : Below w.heap.size w w2 := hb2.trans (hb3.mono (by omega))
  have hz2 := hb4.size
  have hix : ∀ wx, (Instr.index 22 (.agg (bools 32 (reachI gTwo 1))) (.int .i64 2)).run Try.prog wx = .ok (.bool true) wx := fun wx => by
    have := run_index_bools Try.underlying22 Try.underlying4 Try.infoBool (reachI gTwo 1) (k := 2) (by decide) wx
    rw [two_reach] at this
    exact this
  clear hre hbox2 hr1 c0 hb2
  go_wp2_with (first
    | (refine wpList_wanted (by rfl) fun K hK => wp_load_row 26 _ rfl w.heap.size rfl 26 gr (0, 0) _ hr2 Try.underlying26 rfl hsz (hK _ _ ?_)))
  refine hrc.mono ?_
  rintro e w3 ⟨rfl, hb5⟩
  go_wp2_with fail
  go_ret
  exact ⟨rfl, hb4.trans (hb5.mono (by omega))⟩

end Go.Proofs.Ytkoefoccbjhoiab
