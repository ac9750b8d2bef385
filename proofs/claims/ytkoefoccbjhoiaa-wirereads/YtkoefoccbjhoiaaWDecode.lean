/-
  The contract of package wire's Decode.
-/
import Derived.Test.YtkoefoccbjhoiaaWEncode
import Derived.Test.YtkoefoccbjhoiaaRFrame
set_option linter.unusedVariables false
set_option linter.unusedSimpArgs false
namespace Go.Proofs.Ytkoefoccbjhoiaa
open Go.RowKit

theorem SlInts.beside {w w' : World} {b : Nat} {a : Option Addr} {cap : Nat} {zs : List Int} (h : SlInts w a cap zs) (hf : ∀ x, a = some x → b < x.block) (hs : w.heap.size ≤ w'.heap.size) (hb : ∀ k, b < k → k < w.heap.size → w'.heap[k]? = w.heap[k]?) : SlInts w' a cap zs := by
  refine ⟨?_, h.2⟩
  rcases h.1 with h1 | ⟨g, off, ha, hg, hc⟩
  · exact Or.inl h1
  · have := hf _ ha
    refine Or.inr ⟨g, off, ha, Nat.lt_of_lt_of_le hg hs, fun i hi => ?_⟩
    rw [World.cell?_of_block (w := w) (a := ⟨g, off + i, none⟩) (hb g this hg)]
    exact hc i hi
theorem SlOps.beside {w w' : World} {b : Nat} {a : Option Addr} {cap : Nat} {zs : List OpL} (h : SlOps w a cap zs) (hf : ∀ x, a = some x → b < x.block) (hs : w.heap.size ≤ w'.heap.size) (hb : ∀ k, b < k → k < w.heap.size → w'.heap[k]? = w.heap[k]?) : SlOps w' a cap zs := by
  refine ⟨?_, h.2⟩
  rcases h.1 with h1 | ⟨g, off, ha, hg, hc⟩
  · exact Or.inl h1
  · have := hf _ ha
    refine Or.inr ⟨g, off, ha, Nat.lt_of_lt_of_le hg hs, fun i hi => ?_⟩
    rw [World.cell?_of_block (w := w) (a := ⟨g, off + i * 3, none⟩) (hb g this hg), World.cell?_of_block (w := w) (a := ⟨g, off + i * 3 + 1, none⟩) (hb g this hg), World.cell?_of_block (w := w) (a := ⟨g, off + i * 3 + 2, none⟩) (hb g this hg)]
    exact hc i hi
theorem FrameV.beside {w w' : World} {b : Nat} {v : Value} {f : FrameL} (h : FrameV w v f) (hf : FarV (b + 1) v) (hs : w.heap.size ≤ w'.heap.size) (hb : ∀ k, b < k → k < w.heap.size → w'.heap[k]? = w.heap[k]?) : FrameV w' v f := by
  obtain ⟨a3, c3, a4, c4, a5, c5, a6, c6, e, h3, h4, h5, h6⟩ := h
  have g := hf _ e
  exact ⟨a3, c3, a4, c4, a5, c5, a6, c6, e, h3.beside (fun x hx => g 3 x _ _ (by rw [hx]; rfl)) hs hb, h4.beside (fun x hx => g 4 x _ _ (by rw [hx]; rfl)) hs hb, h5.beside (fun x hx => g 5 x _ _ (by rw [hx]; rfl)) hs hb, h6.beside (fun x hx => g 6 x _ _ (by rw [hx]; rfl)) hs hb⟩

theorem put7_below {w w1 : World} {b B : Nat} {x0 x1 x2 x3 x4 x5 x6 : Value} (h : Below B w w1) (hb : B ≤ b) : Below B w (put7 w1 b x0 x1 x2 x3 x4 x5 x6) :=
  ((((((h.setCell hb _).setCell hb _).setCell hb _).setCell hb _).setCell hb _).setCell hb _).setCell hb _
theorem zero_frame (w : World) : FrameV w (.agg #[.int .i64 0, .int .i64 0, .int .i64 0, .slice none 0 0, .slice none 0 0, .slice none 0 0, .slice none 0 0]) zeroF :=
  ⟨none, 0, none, 0, none, 0, none, 0, rfl, ⟨Or.inl rfl, Nat.zero_le _, Nat.le_refl _, fun _ => ⟨rfl, rfl⟩⟩, ⟨Or.inl rfl, Nat.zero_le _, Nat.le_refl _, fun _ => ⟨rfl, rfl⟩⟩, ⟨Or.inl rfl, Nat.zero_le _, Nat.le_refl _, fun _ => ⟨rfl, rfl⟩⟩, ⟨Or.inl rfl, Nat.zero_le _, Nat.le_refl _, fun _ => ⟨rfl, rfl⟩⟩⟩

set_option maxRecDepth 100000 in
set_option maxHeartbeats 2000000 in
theorem decode_any (l : List UInt8) (w : World) :
    Calls Try.prog 41 #[.string (str l)] w fun e w' => ∃ v, e = .returned (.tuple #[v, .int .i64 (decE l)]) ∧ FrameV w' v (decL l) ∧ Below w.heap.size w w' := by
  have HK : Hid (okL l = (!((⟨l, false⟩ : Rd).end_.short || !(⟨l, false⟩ : Rd).end_.rest.isEmpty) && (goodL (⟨l, false⟩ : Rd).frame == 0))) := rfl
  have HD : Hid (decL l = if okL l = true then (⟨l, false⟩ : Rd).frame else zeroF) := rfl
  have HE : Hid (decE l = if okL l = true then 0 else 1) := rfl
  obtain ⟨r, hr⟩ : ∃ r : Rd, r = ⟨l, false⟩ := ⟨_, rfl⟩
  rw [← hr] at HK HD
  go_enter Try.func41, Try.ntmps41
  go_wp2_with fail
  have hrd : RdAt ((w.alloc (.cells #[.int .i64 0, .int .i64 0, .int .i64 0, .slice none 0 0, .slice none 0 0, .slice none 0 0, .slice none 0 0] 39)).alloc (.cells #[.string (str l), .bool false] 78)) (w.heap.size + 1) r := by rw [hr]; exact ⟨_, heap_new2 _ _ _⟩
  refine (frame_any (w.heap.size + 1) r _ hrd).mono ?_
  rintro e w1 ⟨v1, rfl, hv1, hr1, hg1, hfar⟩
  have hz1 : FAt w1 w.heap.size 0 0 0 (.slice none 0 0) (.slice none 0 0) (.slice none 0 0) (.slice none 0 0) :=
    ⟨39, by rw [hg1.block w.heap.size (by rw [alloc_size, alloc_size]; omega) (by simp), Below.heap_alloc _ _ _ (by rw [alloc_size]; omega), heap_new]⟩
  have hB1 : Below w.heap.size w w1 := (((Below.refl w.heap.size w).alloc (Nat.le_refl _) _).alloc (by rw [alloc_size]; omega) _).grown hg1 (by rw [alloc_size, alloc_size]; omega) (by simp)
  have hl1 : w.heap.size + 1 + 1 ≤ w1.heap.size := by have := hg1.size; rw [alloc_size, alloc_size] at this; exact this
  have hfar1 : FarV (w.heap.size + 1) v1 := fun cs h i x n c hx => by have := hfar cs h i x n c hx; rw [alloc_size, alloc_size] at this; omega
  clear hg1 hfar hrd
  generalize r.frame = f at *
  generalize r.end_ = rn at *
  obtain ⟨a3, c3, a4, c4, a5, c5, a6, c6, e1, hs⟩ := id hv1
  obtain ⟨kind, node, id, ops, deps, ats, vals⟩ := f
  simp only at e1
  subst e1
  clear hs hr
  have hr2 := fun o => hr1.alloc o
  have hv2 := fun o => hv1.later (frame_box w1 o)
  have hz2 := fun o => hz1.block (w' := w1.alloc o) (Below.heap_alloc _ _ _ hz1.lt)
  have hB2 := fun o => hB1.alloc (o := o) (by omega)
  have hne : ¬ w.heap.size + 1 = w1.heap.size := by omega
  have hne' : ¬ w.heap.size = w1.heap.size := by omega
  have s2 := fun o => (hr2 o).short
  have t2 := fun o => (hr2 o).rest
  have g0 := fun o => (hz2 o).cell.1
  have g1 := fun o => (hz2 o).cell.2.1
  have g2 := fun o => (hz2 o).cell.2.2.1
  have g3 := fun o => (hz2 o).cell.2.2.2.1
  have g4 := fun o => (hz2 o).cell.2.2.2.2.1
  have g5 := fun o => (hz2 o).cell.2.2.2.2.2.1
  have g6 := fun o => (hz2 o).cell.2.2.2.2.2.2
  have y0 := fun o => (hz2 o).frozen 0
  have y1 := fun o => (hz2 o).frozen 1
  have y2 := fun o => (hz2 o).frozen 2
  have y3 := fun o => (hz2 o).frozen 3
  have y4 := fun o => (hz2 o).frozen 4
  have y5 := fun o => (hz2 o).frozen 5
  have y6 := fun o => (hz2 o).frozen 6
  obtain ⟨rest, short⟩ := rn
  clear hr2 hr1
  cases short with
  | true =>
    have E : Hid (okL l = false) := by unfold Hid; rw [HK.out]; rfl
    have E1 : Hid (decE l = 1) := by unfold Hid; rw [HE.out, E.out]; rfl
    have E2 : Hid (decL l = zeroF) := by unfold Hid; rw [HD.out, E.out]; rfl
    clear HK HD HE
    go_wp2
    refine bodyPost_ret (v := .tuple #[.agg #[.int .i64 0, .int .i64 0, .int .i64 0, .slice none 0 0, .slice none 0 0, .slice none 0 0, .slice none 0 0], .int .i64 1]) (by simp [results, Try.results41, go_sem, *]) rfl ⟨_, by rw [E1.out], by rw [E2.out]; exact zero_frame _, ?_⟩
    exact put7_below (hB2 _) (Nat.le_refl _)
  | false =>
    cases rest with
    | cons x t =>
      have E : Hid (okL l = false) := by unfold Hid; rw [HK.out]; rfl
      have E1 : Hid (decE l = 1) := by unfold Hid; rw [HE.out, E.out]; rfl
      have E2 : Hid (decL l = zeroF) := by unfold Hid; rw [HD.out, E.out]; rfl
      have e0 := str_empty (x :: t)
      clear HK HD HE
      go_wp2
      refine bodyPost_ret (v := .tuple #[.agg #[.int .i64 0, .int .i64 0, .int .i64 0, .slice none 0 0, .slice none 0 0, .slice none 0 0, .slice none 0 0], .int .i64 1]) (by simp [results, Try.results41, go_sem, *]) rfl ⟨_, by rw [E1.out], by rw [E2.out]; exact zero_frame _, ?_⟩
      exact put7_below (hB2 _) (Nat.le_refl _)
    | nil =>
      have e0 := str_empty []
      have f2 : FAt (w1.alloc (.cells #[.int .i64 kind, .int .i64 node, .int .i64 id, .slice a3 ops.length c3, .slice a4 deps.length c4, .slice a5 ats.length c5, .slice a6 vals.length c6] 39)) w1.heap.size kind node id (.slice a3 ops.length c3) (.slice a4 deps.length c4) (.slice a5 ats.length c5) (.slice a6 vals.length c6) := ⟨_, heap_new _ _⟩
      go_wp2_with fail
      refine (wgood_any _ _ _ (hv2 _)).mono ?_
      rintro e w3 ⟨rfl, hc⟩
      have hB3 := (hB2 (.cells #[.int .i64 kind, .int .i64 node, .int .i64 id, .slice a3 ops.length c3, .slice a4 deps.length c4, .slice a5 ats.length c5, .slice a6 vals.length c6] 39)).trans (hc.mono (by rw [alloc_size]; omega))
      have hz3 := (hz2 (.cells #[.int .i64 kind, .int .i64 node, .int .i64 id, .slice a3 ops.length c3, .slice a4 deps.length c4, .slice a5 ats.length c5, .slice a6 vals.length c6] 39)).block (hc.block _ (by rw [alloc_size]; omega))
      have hv3 := (hv2 (.cells #[.int .i64 kind, .int .i64 node, .int .i64 id, .slice a3 ops.length c3, .slice a4 deps.length c4, .slice a5 ats.length c5, .slice a6 vals.length c6] 39)).later hc
      have f3 := f2.block (hc.block _ f2.lt)
      clear hc f2 hB2 hz2 hv2 g0 g1 g2 g3 g4 g5 g6 y0 y1 y2 y3 y4 y5 y6 s2 t2 hB1 hz1 hv1
      obtain ⟨q0, q1, q2, q3, q4, q5, q6⟩ := f3.cell
      obtain ⟨g0, g1, g2, g3, g4, g5, g6⟩ := hz3.cell
      have y0 := hz3.frozen 0
      have y1 := hz3.frozen 1
      have y2 := hz3.frozen 2
      have y3 := hz3.frozen 3
      have y4 := hz3.frozen 4
      have y5 := hz3.frozen 5
      have y6 := hz3.frozen 6
      clear e0
      cases tg : goodL ⟨kind, node, id, ops, deps, ats, vals⟩ != 0
      · have E : Hid (okL l = true) := by unfold Hid; rw [HK.out]; simp at tg; simp [tg]
        have E1 : Hid (decE l = 0) := by unfold Hid; rw [HE.out, E.out]; rfl
        have E2 : Hid (decL l = ⟨kind, node, id, ops, deps, ats, vals⟩) := by unfold Hid; rw [HD.out, E.out]; rfl
        have HV : Hid (∀ x0 x1 x2 x3 x4 x5 x6, FrameV (put7 w3 w.heap.size x0 x1 x2 x3 x4 x5 x6) _ _) := fun x0 x1 x2 x3 x4 x5 x6 => hv3.beside (b := w.heap.size) hfar1 (by simp [put7, World.setCell]) (fun k hk _ => put7_block (by omega))
        clear HK HD HE hv3 hfar1
        go_wp2
        refine bodyPost_ret (v := .tuple #[.agg #[.int .i64 kind, .int .i64 node, .int .i64 id, .slice a3 ops.length c3, .slice a4 deps.length c4, .slice a5 ats.length c5, .slice a6 vals.length c6], .int .i64 0]) (by simp [results, Try.results41, go_sem, *]) rfl ⟨_, by rw [E1.out], by rw [E2.out]; exact HV.out _ _ _ _ _ _ _, ?_⟩
        exact put7_below hB3 (Nat.le_refl _)
      · have E : Hid (okL l = false) := by unfold Hid; rw [HK.out]; simp at tg; simp [tg]
        have E1 : Hid (decE l = 1) := by unfold Hid; rw [HE.out, E.out]; rfl
        have E2 : Hid (decL l = zeroF) := by unfold Hid; rw [HD.out, E.out]; rfl
        clear HK HD HE hv3 hfar1
        go_wp2
        refine bodyPost_ret (v := .tuple #[.agg #[.int .i64 0, .int .i64 0, .int .i64 0, .slice none 0 0, .slice none 0 0, .slice none 0 0, .slice none 0 0], .int .i64 1]) (by simp [results, Try.results41, go_sem, *]) rfl ⟨_, by rw [E1.out], by rw [E2.out]; exact zero_frame _, ?_⟩
        exact put7_below hB3 (Nat.le_refl _)

end Go.Proofs.Ytkoefoccbjhoiaa
