/-
  The walk of WireReads: it answers true at all bytes, and writes nothing that was there.
-/
import Derived.Test.YtkoefoccbjhoiaaRDecode
import Derived.Test.YtkoefoccbjhoiaaLFrame
set_option linter.unusedVariables false
set_option linter.unusedSimpArgs false
namespace Go.Proofs.Ytkoefoccbjhoiaa
open Go.RowKit

set_option maxRecDepth 100000 in
set_option maxHeartbeats 1000000 in
theorem reads_walk (l : List UInt8) (w : World) (hl : (str l).size ≤ maxLen) :
    Calls Try.prog 8 #[.string (str l)] w fun e w' => e = .returned (.bool true) ∧ Below w.heap.size w w' := by
  rw [str_size] at hl
  go_enter Try.func8, Try.ntmps8
  go_wp2_with fail
  refine (decode_any l _).mono ?_
  rintro e w1 ⟨v, rfl, hv, hb1⟩
  obtain ⟨a3, c3, a4, c4, a5, c5, a6, c6, hvv, _⟩ := id hv
  have hv1 := fun o => hv.later (frame_box w1 o)
  have hb2 := fun o => hb1.alloc (o := o) hb1.size
  subst hvv
  obtain ⟨W, hW⟩ : ∃ W, W = w1.alloc (.cells #[.int .i64 (decL l).kind, .int .i64 (decL l).node, .int .i64 (decL l).id, .slice a3 (decL l).ops.length c3, .slice a4 (decL l).deps.length c4, .slice a5 (decL l).ats.length c5, .slice a6 (decL l).vals.length c6] 39) := ⟨_, rfl⟩
  have f1 : FAt W w1.heap.size (decL l).kind (decL l).node (decL l).id (.slice a3 (decL l).ops.length c3) (.slice a4 (decL l).deps.length c4) (.slice a5 (decL l).ats.length c5) (.slice a6 (decL l).vals.length c6) := by rw [hW]; exact ⟨_, heap_new _ _⟩
  have hv2 := hv1 (.cells #[.int .i64 (decL l).kind, .int .i64 (decL l).node, .int .i64 (decL l).id, .slice a3 (decL l).ops.length c3, .slice a4 (decL l).deps.length c4, .slice a5 (decL l).ats.length c5, .slice a6 (decL l).vals.length c6] 39)
  have hb3 := hb2 (.cells #[.int .i64 (decL l).kind, .int .i64 (decL l).node, .int .i64 (decL l).id, .slice a3 (decL l).ops.length c3, .slice a4 (decL l).deps.length c4, .slice a5 (decL l).ats.length c5, .slice a6 (decL l).vals.length c6] 39)
  rw [← hW] at hv2 hb3
  have te : (decE l == decE l) = true := by simp
  clear hv1 hb2 hv
  go_wp2_with fail
  rw [← hW]
  clear hW hb1
  refine (refDecode_any l _ hl).mono ?_
  rintro e w3 ⟨v', rfl, hg3, _, hc⟩
  have hb4 := hb3.trans (hc.mono hb3.size)
  have f2 := f1.block (hc.block _ f1.lt)
  have hv3 := hv2.later hc
  clear hc f1 hv2 hb3
  obtain ⟨e3, d3, e4, d4, e5, d5, e6, d6, hvv, _⟩ := id hg3
  subst hvv
  obtain ⟨X, hX⟩ : ∃ X, X = w3.alloc (.cells #[.int .i64 (decL l).kind, .int .i64 (decL l).node, .int .i64 (decL l).id, .slice e3 (decL l).ops.length d3, .slice e4 (decL l).deps.length d4, .slice e5 (decL l).ats.length d5, .slice e6 (decL l).vals.length d6] 39) := ⟨_, rfl⟩
  have hc : Below w3.heap.size w3 X := by rw [hX]; exact frame_box w3 _
  have g4 : FAt X w3.heap.size (decL l).kind (decL l).node (decL l).id (.slice e3 (decL l).ops.length d3) (.slice e4 (decL l).deps.length d4) (.slice e5 (decL l).ats.length d5) (.slice e6 (decL l).vals.length d6) := by rw [hX]; exact ⟨_, heap_new _ _⟩
  have hb5 := hb4.trans (hc.mono hb4.size)
  have f4 := f2.block (hc.block _ f2.lt)
  have hv4 := hv3.later hc
  have hg4 := hg3.later hc
  clear hc f2 hv3 hg3 hb4
  obtain ⟨i0, i1, i2, i3, i4, i5, i6⟩ := f4.cell
  obtain ⟨j0, j1, j2, j3, j4, j5, j6⟩ := g4.cell
  rw [hX] at i0 i1 i2 i3 i4 i5 i6 j0 j1 j2 j3 j4 j5 j6
  go_wp2_with fail
  rw [← hX]
  clear hX i0 i1 i2 i3 i4 i5 i6 j0 j1 j2 j3 j4 j5 j6
  refine (ref_sameFrame_any _ _ _ _ hv4 hg4).mono ?_
  rintro e w5 ⟨rfl, hc⟩
  have hb6 := hb5.trans (hc.mono hb5.size)
  clear hc hb5 f4 g4 hv4 hg4
  go_wp2_with fail
  refine (law_frames_any _).mono ?_
  rintro e w6 ⟨rfl, hc⟩
  have hb7 := hb6.trans (hc.mono hb6.size)
  clear hc hb6
  go_wp2
  go_ret
  exact ⟨rfl, hb7⟩

end Go.Proofs.Ytkoefoccbjhoiaa
