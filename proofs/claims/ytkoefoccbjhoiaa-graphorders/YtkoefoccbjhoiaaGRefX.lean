/-
  The contract of the document's own ReachOf.
-/
import Derived.Test.YtkoefoccbjhoiaaGRefR
import Derived.Deep.WholeRow
set_option linter.unusedVariables false
set_option linter.unusedSimpArgs false
namespace Go.Proofs.Ytkoefoccbjhoiaa
open Go.RowKit

set_option maxRecDepth 100000 in
set_option maxHeartbeats 1000000 in
theorem reachOf_any (gv : Nat → Value) (g : GraphL) (n : Int) (w : World) (hg : GraphC w.heap.size w gv g) :
    Calls Try.prog 57 #[.agg (rowF 64 gv), .int .i64 n] w fun e w' => e = .returned (.agg (bools 32 (reachI g n))) ∧ Below w.heap.size w w' := by
  obtain ⟨gr, hgr⟩ : ∃ gr, gr = rowF 64 gv := ⟨_, rfl⟩
  rw [← hgr]
  have hsg := Try.sizeGraph gv
  rw [← hgr] at hsg
  have HGR : Hid (gr = rowF 64 gv) := hgr
  clear hgr
  have hr := two_rows w (.cells gr 63) (.cells (bools 32 fun _ => false) 60)
  have hb : Below w.heap.size w ((w.alloc (.cells gr 63)).alloc (.cells (bools 32 fun _ => false) 60)) := ((Below.refl _ _).alloc (Nat.le_refl _) _).alloc (by rw [size_push]; omega) _
  have hz : ((w.alloc (.cells gr 63)).alloc (.cells (bools 32 fun _ => false) 60)).heap.size = w.heap.size + 2 := by rw [size_push, size_push]
  go_enter Try.func57, Try.ntmps57
  go_upto_region 1 with fail
  rw [← Try.zero60]
  obtain ⟨W, hW⟩ : ∃ W, W = (w.alloc (.cells gr 63)).alloc (.cells (bools 32 fun _ => false) 60) := ⟨_, rfl⟩
  rw [← hW] at hr hb hz ⊢
  clear hW
  obtain ⟨hr1, hr2⟩ := hr
  have hre := reaches_any gv g n W ((hg.later hb).mono (by omega))
  rw [← HGR.out] at hre
  obtain ⟨row, hrow⟩ : ∃ row, row = bools 32 (reachI g n) := ⟨_, rfl⟩
  rw [← hrow] at hre
  have HROW : Hid (row = bools 32 (reachI g n)) := hrow
  have z2 : (Try.prog.info? 60).map (·.size) = some row.size := by rw [hrow]; exact Try.sizeSet' _
  have ha : row.all (·.oneCell') = true := by rw [hrow]; exact bools_all _ _
  have hsr : (bools 32 fun _ => false).size = row.size := by rw [hrow, bools_size, bools_size]
  clear hrow
  go_wp2_with (first
    | (refine wpList_load_row rfl 63 _ rfl w.heap.size rfl 63 gr (0, 0) _ hr1 Try.underlying63 rfl hsg ?_))
  refine hre.mono ?_
  rintro e w1 ⟨rfl, hb1⟩
  have hr3 : w1.heap[w.heap.size + 1]? = some (.cells (bools 32 fun _ => false) 60 (0, 0)) := by rw [hb1.block _ (by omega)]; exact hr2
  have hb2 : Below w.heap.size w w1 := hb.trans (hb1.mono (by omega))
  clear hr1 hr2 hb hb1 hre
  go_wp2_with (first
    | (refine wpList_store_row rfl 60 _ _ rfl (w.heap.size + 1) row rfl rfl 60 _ hr3 z2 hsr ha ?_))
  refine bodyPost_ret (v := .agg row) (results_cell_row Try.results57 _ _ (w.heap.size + 1) 60 _ (0, 0) _ rfl (heap_setRow hr3) Try.underlying60 rfl z2) rfl ⟨by rw [HROW.out], setRow_below hb2 (by omega) _⟩


end Go.Proofs.Ytkoefoccbjhoiaa
