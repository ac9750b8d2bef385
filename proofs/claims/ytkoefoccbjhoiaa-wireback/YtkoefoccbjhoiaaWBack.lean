/-
  The walk of WireBack: it answers true at every frame and number, and writes nothing that was there.
-/
import Derived.Test.YtkoefoccbjhoiaaKSmall
import Derived.Test.YtkoefoccbjhoiaaWDecode
set_option linter.unusedVariables false
set_option linter.unusedSimpArgs false
namespace Go.Proofs.Ytkoefoccbjhoiaa
open Go.RowKit

theorem str_take (l : List UInt8) (p : Nat) : (str l).extract 0 p = str (l.take p) := by
  apply ByteArray.ext
  apply Array.toList_inj.1
  rw [Lib.extract_data]
  simp [str]
theorem str_app (l m : List UInt8) : str l ++ str m = str (l ++ m) := by
  apply ByteArray.ext
  simp [str]

set_option maxRecDepth 100000 in
set_option maxHeartbeats 1000000 in
theorem back_walk (v : Value) (f : FrameL) (a : Int) (w : World) (hv : FrameV w v f) :
    Calls Try.prog 9 #[v, .int .i64 a] w fun e w' => e = .returned (.bool true) ∧ Below w.heap.size w w' := by
  have HO : Hid (goodL f = 0 → okL (encL f) = true ∧ decL (encL f) = f) := ok_put
  have HM : Hid (goodL f = 0 → okL (encL f ++ [120]) = false) := fun h => ok_more h 120 []
  have HC : Hid (goodL f = 0 → ∀ n, n < (encL f).length → okL ((encL f).take n) = false) := fun h n hn => ok_cut h hn
  have HL : Hid (goodL f = 0 → (encL f).length ≤ 98 ∧ 6 ≤ (encL f).length) := enc_len
  have HE : Hid (encE f = if goodL f = 0 then encL f else []) := rfl
  obtain ⟨a3, c3, a4, c4, a5, c5, a6, c6, hvv, _⟩ := id hv
  have hb0 := frame_box w
  have hv0 := fun o => hv.later (hb0 o)
  obtain ⟨kind, node, id, ops, deps, ats, vals⟩ := f
  simp only at hvv
  subst hvv
  obtain ⟨W, hW⟩ : ∃ W, W = w.alloc (.cells #[.int .i64 kind, .int .i64 node, .int .i64 id, .slice a3 ops.length c3, .slice a4 deps.length c4, .slice a5 ats.length c5, .slice a6 vals.length c6] 39) := ⟨_, rfl⟩
  have f1 : FAt W w.heap.size kind node id (.slice a3 ops.length c3) (.slice a4 deps.length c4) (.slice a5 ats.length c5) (.slice a6 vals.length c6) := by rw [hW]; exact ⟨_, heap_new _ _⟩
  have hv1 := hv0 (.cells #[.int .i64 kind, .int .i64 node, .int .i64 id, .slice a3 ops.length c3, .slice a4 deps.length c4, .slice a5 ats.length c5, .slice a6 vals.length c6] 39)
  have hb1 := hb0 (.cells #[.int .i64 kind, .int .i64 node, .int .i64 id, .slice a3 ops.length c3, .slice a4 deps.length c4, .slice a5 ats.length c5, .slice a6 vals.length c6] 39)
  rw [← hW] at hv1 hb1
  clear hv0 hb0 hv
  go_enter Try.func9, Try.ntmps9
  go_wp2_with fail
  rw [← hW]
  clear hW
  generalize hf : (⟨kind, node, id, ops, deps, ats, vals⟩ : FrameL) = f at *
  refine (encode_any _ _ _ hv1).mono ?_
  rintro e w2 ⟨rfl, hc⟩
  have hb2 := hb1.trans (hc.mono hb1.size)
  have f2 := f1.block (hc.block _ f1.lt)
  have hv2 := hv1.later hc
  clear hc f1 hv1 hb1
  obtain ⟨q0, q1, q2, q3, q4, q5, q6⟩ := f2.cell
  cases tg : goodL f != 0
  · have tg' : goodL f = 0 := by simpa using tg
    have E0 : encE f = encL f := by rw [HE.out, if_pos tg']
    obtain ⟨o1, o2⟩ := HO.out tg'
    obtain ⟨l1, l2⟩ := HL.out tg'
    have hm := HM.out tg'
    have hcut := HC.out tg'
    rw [E0, tg']
    clear HO HM HC HL HE E0 tg
    have HG : Hid (goodL f = 0) := tg'
    have HO2 : Hid (decL (encL f) = f) := o2
    have HC : Hid (∀ n, n < (encL f).length → okL ((encL f).take n) = false) := hcut
    have HM : Hid (okL (encL f ++ [120]) = false) := hm
    have HK : Hid (okL (encL f) = true) := o1
    clear tg' o2 o1 hcut hm
    generalize encL f = l at *
    have e0 := str_empty l
    have le : l.isEmpty = false := by cases l with | nil => simp at l2 | cons => rfl
    rw [le] at e0
    have hsz := str_size l
    clear le
    go_wp2_with fail
    refine (keep_frames_any _).mono ?_
    rintro e w3 ⟨rfl, hc⟩
    have hb3 := hb2.trans (hc.mono hb2.size)
    have f3 := f2.block (hc.block _ f2.lt)
    have hv3 := hv2.later hc
    clear hc f2 hv2 hb2 q0 q1 q2 q3 q4 q5 q6
    go_wp2_with fail
    refine (decode_any l _).mono ?_
    rintro e w4 ⟨v4, rfl, hg4, hc⟩
    have hb4 := hb3.trans (hc.mono hb3.size)
    have f4 := f3.block (hc.block _ f3.lt)
    have hv4 := hv3.later hc
    clear hc f3 hv3 hb3
    rw [HO2.out] at hg4
    have E1 : decE l = 0 := by unfold decE; rw [HK.out]; rfl
    rw [E1]
    clear E1
    subst hf
    obtain ⟨b3, d3, b4, d4, b5, d5, b6, d6, hvv, _⟩ := (show _ from hg4)
    simp only at hvv
    subst hvv
    obtain ⟨W5, hW⟩ : ∃ W5, W5 = w4.alloc (.cells #[.int .i64 kind, .int .i64 node, .int .i64 id, .slice b3 ops.length d3, .slice b4 deps.length d4, .slice b5 ats.length d5, .slice b6 vals.length d6] 39) := ⟨_, rfl⟩
    have hc : Below w4.heap.size w4 W5 := by rw [hW]; exact frame_box w4 _
    have g5 : FAt W5 w4.heap.size kind node id (.slice b3 ops.length d3) (.slice b4 deps.length d4) (.slice b5 ats.length d5) (.slice b6 vals.length d6) := by rw [hW]; exact ⟨_, heap_new _ _⟩
    have hb5 := hb4.trans (hc.mono hb4.size)
    have f5 := f4.block (hc.block _ f4.lt)
    have hv5 := hv4.later hc
    have hg5 := hg4.later hc
    have lw : w.heap.size < w4.heap.size := f4.lt
    clear hc f4 hv4 hg4
    go_wp2_with fail
    rw [← hW]
    clear hW hb4
    refine (keep_pick_any a l.length _ (by omega) (by omega)).mono ?_
    rintro e w6 ⟨⟨p, hp, rfl⟩, hw⟩
    subst hw
    have ep := str_take l p
    have hp' : (p : Int) ≤ (l.length : Int) := by omega
    go_wp2_with fail
    refine (decode_any (l.take p) _).mono ?_
    rintro e w7 ⟨v7, rfl, hh7, hc⟩
    have hb7 := hb5.trans (hc.mono hb5.size)
    have f7 := f5.block (hc.block _ f5.lt)
    have g7 := g5.block (hc.block _ g5.lt)
    have hv7 := hv5.later hc
    have hg7 := hg5.later hc
    obtain ⟨x3, y3, x4, y4, x5, y5, x6, y6, hvv, _⟩ := hh7
    have E1 : decE (l.take p) = 1 := by unfold decE; rw [HC.out p hp]; rfl
    have E2 : decL (l.take p) = zeroF := by unfold decL; rw [HC.out p hp]; rfl
    rw [E2] at hvv
    subst hvv
    rw [E1]
    clear hc f5 g5 hv5 hg5 hb5 E1 E2 HC hp ep hp'
    simp only [zeroF]
    obtain ⟨W8, hW⟩ : ∃ W8, W8 = w7.alloc (.cells #[.int .i64 0, .int .i64 0, .int .i64 0, .slice x3 0 y3, .slice x4 0 y4, .slice x5 0 y5, .slice x6 0 y6] 39) := ⟨_, rfl⟩
    have hc : Below w7.heap.size w7 W8 := by rw [hW]; exact frame_box w7 _
    have hb8 := hb7.trans (hc.mono hb7.size)
    have f8 := f7.block (hc.block _ f7.lt)
    have g8 := g7.block (hc.block _ g7.lt)
    have hv8 := hv7.later hc
    have hg8 := hg7.later hc
    clear hc f7 g7 hv7 hg7
    go_wp2_with fail
    rw [← hW]
    clear hW hb7
    have ex : str l ++ { data := #[120] } = str (l ++ [120]) := str_app l [120]
    rw [ex]
    refine (decode_any (l ++ [120]) _).mono ?_
    rintro e w9 ⟨v9, rfl, hh9, hc⟩
    have hb9 := hb8.trans (hc.mono hb8.size)
    have f9 := f8.block (hc.block _ f8.lt)
    have g9 := g8.block (hc.block _ g8.lt)
    have hv9 := hv8.later hc
    have hg9 := hg8.later hc
    obtain ⟨z3, u3, z4, u4, z5, u5, z6, u6, hvv, _⟩ := hh9
    have E1 : decE (l ++ [120]) = 1 := by unfold decE; rw [HM.out]; rfl
    have E2 : decL (l ++ [120]) = zeroF := by unfold decL; rw [HM.out]; rfl
    rw [E2] at hvv
    subst hvv
    rw [E1]
    clear hc f8 g8 hv8 hg8 hb8 E1 E2 HM ex
    simp only [zeroF]
    obtain ⟨WA, hW⟩ : ∃ WA, WA = w9.alloc (.cells #[.int .i64 0, .int .i64 0, .int .i64 0, .slice z3 0 u3, .slice z4 0 u4, .slice z5 0 u5, .slice z6 0 u6] 39) := ⟨_, rfl⟩
    have hc : Below w9.heap.size w9 WA := by rw [hW]; exact frame_box w9 _
    have hbA := hb9.trans (hc.mono hb9.size)
    have fA := f9.block (hc.block _ f9.lt)
    have gA := g9.block (hc.block _ g9.lt)
    have hvA := hv9.later hc
    have hgA := hg9.later hc
    clear hc f9 g9 hv9 hg9
    obtain ⟨i0, i1, i2, i3, i4, i5, i6⟩ := fA.cell
    obtain ⟨j0, j1, j2, j3, j4, j5, j6⟩ := gA.cell
    rw [hW] at i0 i1 i2 i3 i4 i5 i6 j0 j1 j2 j3 j4 j5 j6
    go_wp2_with fail
    rw [← hW]
    clear hW hb9 i0 i1 i2 i3 i4 i5 i6 j0 j1 j2 j3 j4 j5 j6
    refine (keep_sameFrame_any _ _ _ _ hvA hgA).mono ?_
    rintro e wB ⟨rfl, hc⟩
    have hbB := hbA.trans (hc.mono hbA.size)
    have hl400 : (l.length : Int) ≤ 400 := by omega
    clear hc hbA fA gA hvA hgA
    go_wp2
    go_ret
    exact ⟨rfl, hbB⟩
  · have tg' : ¬ goodL f = 0 := by simpa using tg
    have E0 : encE f = [] := by rw [HE.out, if_neg tg']
    have tt : (goodL f == goodL f) = true := by simp
    have te : str [] = ⟨#[]⟩ := rfl
    rw [E0, te]
    clear HO HM HC HL HE E0 tg' te
    go_wp2_with fail
    refine (wgood_any _ _ _ hv2).mono ?_
    rintro e w3 ⟨rfl, hc⟩
    have hb3 := hb2.trans (hc.mono hb2.size)
    clear hc f2 hv2 hb2 q0 q1 q2 q3 q4 q5 q6
    go_wp2_with fail
    refine (keep_frames_any _).mono ?_
    rintro e w4 ⟨rfl, hc⟩
    have hb4 := hb3.trans (hc.mono hb3.size)
    clear hc hb3
    go_wp2
    go_ret
    exact ⟨rfl, hb4⟩

end Go.Proofs.Ytkoefoccbjhoiaa
