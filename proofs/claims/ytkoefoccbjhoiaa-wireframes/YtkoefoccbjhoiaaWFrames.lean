/-
  The walk of WireFrames: it answers true at every frame, and writes nothing that was there.
-/
import Derived.Test.YtkoefoccbjhoiaaWRoom
import Derived.Test.YtkoefoccbjhoiaaREncode
import Derived.Test.YtkoefoccbjhoiaaLFrame
set_option linter.unusedVariables false
set_option linter.unusedSimpArgs false
namespace Go.Proofs.Ytkoefoccbjhoiaa
open Go.RowKit
attribute [local go_sem ↓] Go.wp_at_zero Go.wp_at_succ


set_option maxRecDepth 100000 in
set_option maxHeartbeats 2000000 in
theorem frames_walk (v : Value) (f : FrameL) (w : World) (hv : FrameV w v f) (r3 : f.ops.length * 24 ≤ 140737488355328) (r4 : f.deps.length * 8 ≤ 140737488355328) (r5 : f.ats.length * 8 ≤ 140737488355328) (r6 : f.vals.length * 8 ≤ 140737488355328) :
    Calls Try.prog 7 #[v] w fun e w' => e = .returned (.bool true) ∧ Below w.heap.size w w' := by
  obtain ⟨a3, c3, a4, c4, a5, c5, a6, c6, hvv, _⟩ := id hv
  have hb0 := frame_box w
  have hv0 := fun o => hv.later (hb0 o)
  obtain ⟨kind, node, id, ops, deps, ats, vals⟩ := f
  simp only at hvv
  subst hvv
  obtain ⟨W, hW⟩ : ∃ W, W = w.alloc (.cells #[.int .i64 kind, .int .i64 node, .int .i64 id, .slice a3 ops.length c3, .slice a4 deps.length c4, .slice a5 ats.length c5, .slice a6 vals.length c6] 39) := ⟨_, rfl⟩
  have f1 : FAt W w.heap.size kind node id (.slice a3 ops.length c3) (.slice a4 deps.length c4) (.slice a5 ats.length c5) (.slice a6 vals.length c6) := by rw [hW]; exact ⟨_, heap_new _ _⟩
  have hv1 := hv0 (.cells #[.int .i64 kind, .int .i64 node, .int .i64 id, .slice a3 ops.length c3, .slice a4 deps.length c4, .slice a5 ats.length c5, .slice a6 vals.length c6] 39)
  have hb1 := hb0 (.cells #[.int .i64 kind, .int .i64 node, .int .i64 id, .slice a3 ops.length c3, .slice a4 deps.length c4, .slice a5 ats.length c5, .slice a6 vals.length c6] 39)
  rw [← hW] at hv1 hb1
  clear hv0 hb0 hv
  have R : Room ⟨kind, node, id, ops, deps, ats, vals⟩ := ⟨r3, r4, r5, r6⟩
  clear r3 r4 r5 r6
  go_enter Try.func7, Try.ntmps7
  go_wp2_with fail
  rw [← hW]
  clear hW
  generalize hf : (⟨kind, node, id, ops, deps, ats, vals⟩ : FrameL) = f at *
  refine (lawFrame_any _ _ _ hv1 R.1 R.2.1 R.2.2.1 R.2.2.2).mono ?_
  rintro e w2 ⟨v2, rfl, hg2, hc⟩
  have hb2 := hb1.trans (hc.mono hb1.size)
  have f2 := f1.block (hc.block _ f1.lt)
  have hv2 := hv1.later hc
  clear hc f1 hv1 hb1
  go_wp2_with fail
  refine (encode_any _ _ _ hg2).mono ?_
  rintro e w3 ⟨rfl, hc⟩
  have hb3 := hb2.trans (hc.mono hb2.size)
  have f3 := f2.block (hc.block _ f2.lt)
  have hv3 := hv2.later hc
  clear hc f2 hv2 hb2 hg2
  obtain ⟨q0, q1, q2, q3, q4, q5, q6⟩ := f3.cell
  go_wp2_with fail
  refine (encodeFrame_any _ _ _ hv3).mono ?_
  rintro e w4 ⟨rfl, hc⟩
  have hb4 := hb3.trans (hc.mono hb3.size)
  have f4 := f3.block (hc.block _ f3.lt)
  have hv4 := hv3.later hc
  clear hc f3 hv3 hb3 q0 q1 q2 q3 q4 q5 q6
  obtain ⟨q0, q1, q2, q3, q4, q5, q6⟩ := f4.cell
  have tl : ((str (encE f)).toList == (str (encE f)).toList) = true := by simp
  have tg : (goodL f == goodL f) = true := by simp
  go_wp2_with fail
  go_region_held3 (fun w' => w'.cell? ⟨w.heap.size, 0, none⟩ = some (.int .i64 kind) ∧ w'.cell? ⟨w.heap.size, 1, none⟩ = some (.int .i64 node) ∧ w'.cell? ⟨w.heap.size, 2, none⟩ = some (.int .i64 id) ∧ w'.cell? ⟨w.heap.size, 3, none⟩ = some (.slice a3 ops.length c3) ∧
      w'.cell? ⟨w.heap.size, 4, none⟩ = some (.slice a4 deps.length c4) ∧ w'.cell? ⟨w.heap.size, 5, none⟩ = some (.slice a5 ats.length c5) ∧ w'.cell? ⟨w.heap.size, 6, none⟩ = some (.slice a6 vals.length c6))
    (first
      | exact F1.cell
      | exact F2.cell
      | exact F3.cell
      | exact F4.cell
      | go_keep)
    ((first
      | (go_at_call 36; refine (lawFrame_any _ f _ ?_ R.1 R.2.1 R.2.2.1 R.2.2.2).mono ?_; exact FrameV.later (w := w4) hv4 ⟨rfl, rfl, rfl, Nat.le_refl _, fun _ _ => rfl⟩; rintro e x1 ⟨v5, rfl, hg5, hc1⟩; have F1 := FAt.block (w := w4.drew) f4 (hc1.block _ f4.lt); have B1 := hb4.drew.trans (hc1.mono hb4.size); have V1 := FrameV.later (w := w4.drew) hv4 hc1)
      | (go_at_call 38; refine (wgood_any _ f _ ?_).mono ?_; exact hg5; rintro e x2 ⟨rfl, hc2⟩; have F2 := F1.block (hc2.block _ F1.lt); have B2 := B1.trans (hc2.mono B1.size); have V2 := V1.later hc2)
      | (go_at_call 39; refine (isFrame_any _ f _ ?_).mono ?_; exact V2; rintro e x3 ⟨rfl, hc3⟩; have F3 := F2.block (hc3.block _ F2.lt); have B3 := B2.trans (hc3.mono B2.size))
      | (go_at_call 40; refine (law_frames_any _).mono ?_; rintro e x4 ⟨rfl, hc4⟩; have F4 := F3.block (hc4.block _ F3.lt); have B4 := B3.trans (hc4.mono B3.size))
      | fail))
  go_wp2
  go_ret
  exact ⟨rfl, B4⟩

end Go.Proofs.Ytkoefoccbjhoiaa
