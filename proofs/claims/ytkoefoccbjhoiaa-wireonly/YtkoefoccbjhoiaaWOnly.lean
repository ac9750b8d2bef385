/-
  The walk of WireOnly: it answers true at all bytes, and writes nothing that was there.
-/
import Derived.Test.YtkoefoccbjhoiaaKSmall
import Derived.Test.YtkoefoccbjhoiaaWDecode
set_option linter.unusedVariables false
set_option linter.unusedSimpArgs false
namespace Go.Proofs.Ytkoefoccbjhoiaa
open Go.RowKit

set_option maxRecDepth 100000 in
set_option maxHeartbeats 1000000 in
theorem only_walk (l : List UInt8) (w : World) :
    Calls Try.prog 10 #[.string (str l)] w fun e w' => e = .returned (.bool true) ∧ Below w.heap.size w w' := by
  go_enter Try.func10, Try.ntmps10
  go_wp2_with fail
  refine (decode_any l _).mono ?_
  rintro e w1 ⟨v, rfl, hv, hb1⟩
  have hv1 := fun o => hv.later (frame_box w1 o)
  have hb2 := fun o => hb1.alloc (o := o) hb1.size
  have HO : Hid (okL l = true → goodL (decL l) = 0 ∧ encL (decL l) = l) := ok_sound
  have HD : Hid (okL l = false → decL l = zeroF) := fun h => by unfold decL; rw [h]; rfl
  have HE : Hid (decE l = if okL l = true then 0 else 1) := rfl
  cases tk : okL l
  · rw [HD.out tk] at hv hv1
    have E1 : decE l = 1 := by rw [HE.out, tk]; rfl
    rw [E1]
    obtain ⟨a3, c3, a4, c4, a5, c5, a6, c6, rfl, _⟩ := hv
    clear HO HD HE E1 tk
    unfold zeroF at hv1
    simp only at hv1
    go_wp2_with fail
    refine (keep_sameFrame_any _ _ _ _ (hv1 _) (zero_frame _)).mono ?_
    rintro e w2 ⟨rfl, hc⟩
    have hb3 := (hb2 _).trans (hc.mono (hb2 _).size)
    clear hc hb2 hv1
    go_wp2_with fail
    refine (keep_frames_any _).mono ?_
    rintro e w3 ⟨rfl, hc⟩
    have hb4 := hb3.trans (hc.mono hb3.size)
    go_wp2
    go_ret
    exact ⟨rfl, hb4⟩
  · obtain ⟨o1, o2⟩ := HO.out tk
    have E1 : decE l = 0 := by rw [HE.out, tk]; rfl
    have E2 : encE (decL l) = l := by unfold encE; rw [if_pos o1, o2]
    rw [E1]
    clear HO HD HE E1 tk o2
    generalize decL l = f at *
    have HF : Hid (encE f = l) := E2
    have HG : Hid (goodL f = 0) := o1
    clear E2 o1
    obtain ⟨a3, c3, a4, c4, a5, c5, a6, c6, hvv, _⟩ := id hv
    obtain ⟨kind, node, id, ops, deps, ats, vals⟩ := f
    simp only at hvv
    subst hvv
    obtain ⟨W, hW⟩ : ∃ W, W = w1.alloc (.cells #[.int .i64 kind, .int .i64 node, .int .i64 id, .slice a3 ops.length c3, .slice a4 deps.length c4, .slice a5 ats.length c5, .slice a6 vals.length c6] 39) := ⟨_, rfl⟩
    have f1 : FAt W w1.heap.size kind node id (.slice a3 ops.length c3) (.slice a4 deps.length c4) (.slice a5 ats.length c5) (.slice a6 vals.length c6) := by rw [hW]; exact ⟨_, heap_new _ _⟩
    have hv2 := hv1 (.cells #[.int .i64 kind, .int .i64 node, .int .i64 id, .slice a3 ops.length c3, .slice a4 deps.length c4, .slice a5 ats.length c5, .slice a6 vals.length c6] 39)
    have hb3 := hb2 (.cells #[.int .i64 kind, .int .i64 node, .int .i64 id, .slice a3 ops.length c3, .slice a4 deps.length c4, .slice a5 ats.length c5, .slice a6 vals.length c6] 39)
    rw [← hW] at hv2 hb3
    clear hv1 hb2 hv
    go_wp2_with fail
    rw [← hW]
    clear hW
    refine (keep_frames_any _).mono ?_
    rintro e w3 ⟨rfl, hc⟩
    have hb4 := hb3.trans (hc.mono hb3.size)
    have f2 := f1.block (hc.block _ f1.lt)
    have hv3 := hv2.later hc
    clear hc f1 hv2 hb3
    obtain ⟨q0, q1, q2, q3, q4, q5, q6⟩ := f2.cell
    go_wp2_with fail
    refine (encode_any _ _ _ hv3).mono ?_
    rintro e w4 ⟨rfl, hc⟩
    have hb5 := hb4.trans (hc.mono hb4.size)
    rw [HF.out, HG.out]
    have hs := str_list l
    clear hc f2 hv3 q0 q1 q2 q3 q4 q5 q6
    go_wp2
    go_ret
    exact ⟨rfl, hb5⟩

end Go.Proofs.Ytkoefoccbjhoiaa
