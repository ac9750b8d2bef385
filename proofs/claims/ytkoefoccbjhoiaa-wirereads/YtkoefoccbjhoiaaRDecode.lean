/-
  The contract of the document's own DecodeFrame.
-/
import Derived.Test.YtkoefoccbjhoiaaRSame
import Derived.Test.YtkoefoccbjhoiaaRIsFrame
import Derived.Test.YtkoefoccbjhoiaaWDecode
import Derived.Deep.RegionLaw
import Derived.Deep.RegionHeld3
import Derived.Deep.DrawnRows
import Derived.Deep.Cut
set_option linter.unusedVariables false
set_option linter.unusedSimpArgs false
namespace Go.Proofs.Ytkoefoccbjhoiaa
open Go.RowKit
attribute [local go_sem ↓] Go.wp_at_zero Go.wp_at_succ

/-- The state of the cutting: the result's cells at w.heap.size, the frame under way behind it. -/
structure Dp (w : World) (a0 a1 a2 : Int) (wr : World) (v3 v4 v5 v6 : Value) : Prop where
  f : FAt wr (w.heap.size + 1) a0 a1 a2 v3 v4 v5 v6
  z : FAt wr w.heap.size 0 0 0 (.slice none 0 0) (.slice none 0 0) (.slice none 0 0) (.slice none 0 0)
  b : Below w.heap.size w wr
section
variable {w wr w1 : World} {a0 a1 a2 : Int} {v3 v4 v5 v6 : Value}
theorem Dp.grown (h : Dp w a0 a1 a2 wr v3 v4 v5 v6) {row : Option Nat} (hg : wr.grownBy w1 row) (hr : ∀ g, row = some g → w.heap.size + 2 ≤ g) : Dp w a0 a1 a2 w1 v3 v4 v5 v6 :=
  have n : ∀ k, k ≤ w.heap.size + 1 → some k ≠ row := fun k hk e => by have := hr k e.symm; omega
  ⟨h.f.block (hg.block _ h.f.lt (n _ (by omega))), h.z.block (hg.block _ h.z.lt (n _ (by omega))), h.b.grown hg h.b.size (fun k e => by have := hr k e; omega)⟩
theorem Dp.alloc (h : Dp w a0 a1 a2 wr v3 v4 v5 v6) (o : Obj) : Dp w a0 a1 a2 (wr.alloc o) v3 v4 v5 v6 := h.grown (World.grownBy_alloc wr o none) (by simp)
theorem Dp.drew (h : Dp w a0 a1 a2 wr v3 v4 v5 v6) : Dp w a0 a1 a2 wr.drew v3 v4 v5 v6 := ⟨h.f, h.z, h.b.drew⟩
theorem Dp.put3 (h : Dp w a0 a1 a2 wr v3 v4 v5 v6) (v : Value) : Dp w a0 a1 a2 (wr.setCell ⟨w.heap.size + 1, 3, none⟩ v) v v4 v5 v6 :=
  ⟨h.f.put3 v, h.z.block (Below.heap_setCell _ _ _ _ (by simp)), h.b.setCell (by simp) _⟩
theorem Dp.put4 (h : Dp w a0 a1 a2 wr v3 v4 v5 v6) (v : Value) : Dp w a0 a1 a2 (wr.setCell ⟨w.heap.size + 1, 4, none⟩ v) v3 v v5 v6 :=
  ⟨h.f.put4 v, h.z.block (Below.heap_setCell _ _ _ _ (by simp)), h.b.setCell (by simp) _⟩
theorem Dp.put5 (h : Dp w a0 a1 a2 wr v3 v4 v5 v6) (v : Value) : Dp w a0 a1 a2 (wr.setCell ⟨w.heap.size + 1, 5, none⟩ v) v3 v4 v v6 :=
  ⟨h.f.put5 v, h.z.block (Below.heap_setCell _ _ _ _ (by simp)), h.b.setCell (by simp) _⟩
theorem Dp.put6 (h : Dp w a0 a1 a2 wr v3 v4 v5 v6) (v : Value) : Dp w a0 a1 a2 (wr.setCell ⟨w.heap.size + 1, 6, none⟩ v) v3 v4 v5 v :=
  ⟨h.f.put6 v, h.z.block (Below.heap_setCell _ _ _ _ (by simp)), h.b.setCell (by simp) _⟩
theorem Dp.after {v : Value} {o : Obj} {e : TypeId} {size n b : Nat} {xs : List Value} (F : Dp w a0 a1 a2 wr v3 v4 v5 v6) (hown : wr.ownsRow b e size v n xs) (hb : w.heap.size + 2 ≤ b) (hg : (wr.alloc o).grownBy w1 v.ownBlock) : Dp w a0 a1 a2 w1 v3 v4 v5 v6 :=
  (F.alloc o).grown hg (fun g h => by have := (hown.lt g h).1; omega)
theorem Dp.start (w : World) (a0 a1 a2 : Int) : Dp w a0 a1 a2 ((w.alloc (.cells #[.int .i64 0, .int .i64 0, .int .i64 0, .slice none 0 0, .slice none 0 0, .slice none 0 0, .slice none 0 0] 39)).alloc
    (.cells #[.int .i64 a0, .int .i64 a1, .int .i64 a2, .slice none 0 0, .slice none 0 0, .slice none 0 0, .slice none 0 0] 39)) (.slice none 0 0) (.slice none 0 0) (.slice none 0 0) (.slice none 0 0) :=
  ⟨⟨_, heap_new2 _ _ _⟩, ⟨39, by rw [Below.heap_alloc _ _ _ (by rw [alloc_size]; omega), heap_new]⟩, ((Below.refl _ w).alloc (Nat.le_refl _) _).alloc (by rw [alloc_size]; omega) _⟩
end

theorem str_drop (l : List UInt8) (p : Nat) : (str l).extract p l.length = str (l.drop p) := by
  apply ByteArray.ext
  apply Array.toList_inj.1
  rw [Lib.extract_data, str_data, List.take_of_length_le (by simp), str_data]
theorem iwrap {x : Int} (h0 : 0 ≤ x) (h1 : x < 100000) : IntKind.i64.wrap x = x := by rw [IntKind.wrap_i64]; omega

theorem ops_pos {l : List UInt8} {R : List OpL × Rd} {n k a : Nat} {zs : List OpL} (h : k < n) (ha : a + 8 ≤ l.length) (HR : Hid (R = (zs ++ (Rd.ops (n - k) (pos l a)).1, (Rd.ops (n - k) (pos l a)).2))) :
    Hid (R = (zs ++ [((bAt l a : Int), (bAt l (a + 1) : Int), (pos l (a + 2)).wide)] ++ (Rd.ops (n - (k + 1)) (pos l (a + 8))).1, (Rd.ops (n - (k + 1)) (pos l (a + 8))).2)) := by
  have := ops_go h HR
  rwa [pos_one (by omega), pos_next (by omega), pos_one (by omega), pos_next (by omega), pos_six (by omega)] at this
theorem nums_pos {l : List UInt8} {R : List Int × Rd} {n k a : Nat} {zs : List Int} (h : k < n) (ha : a < l.length) (HR : Hid (R = (zs ++ (Rd.nums (n - k) (pos l a)).1, (Rd.nums (n - k) (pos l a)).2))) :
    Hid (R = (zs ++ [(bAt l a : Int)] ++ (Rd.nums (n - (k + 1)) (pos l (a + 1))).1, (Rd.nums (n - (k + 1)) (pos l (a + 1))).2)) := by
  have := nums_go h HR
  rwa [pos_one (by omega), pos_next (by omega)] at this
theorem told_pos {l : List UInt8} {R : List Int × List Int × Rd} {n k a : Nat} {xs ys : List Int} (h : k < n) (ha : a + 7 ≤ l.length) (HR : Hid (R = (xs ++ (Rd.told (n - k) (pos l a)).1, ys ++ (Rd.told (n - k) (pos l a)).2.1, (Rd.told (n - k) (pos l a)).2.2))) :
    Hid (R = (xs ++ [(bAt l a : Int)] ++ (Rd.told (n - (k + 1)) (pos l (a + 7))).1, ys ++ [(pos l (a + 1)).wide] ++ (Rd.told (n - (k + 1)) (pos l (a + 7))).2.1, (Rd.told (n - (k + 1)) (pos l (a + 7))).2.2)) := by
  have := told_go h HR
  rwa [pos_one (by omega), pos_next (by omega), pos_six (by omega)] at this

theorem six_room {a k n : Nat} (h : a + 1 + 7 * k + 7 ≤ n) : a + 2 + 7 * k + 6 ≤ n := by omega
theorem put7_lo {w w1 : World} {b B : Nat} {x0 x1 x2 x3 x4 x5 x6 : Value} (h : Below B w w1) (hb : B ≤ b) : Below B w (put7 w1 b x0 x1 x2 x3 x4 x5 x6) :=
  ((((((h.setCell hb _).setCell hb _).setCell hb _).setCell hb _).setCell hb _).setCell hb _).setCell hb _

theorem FarV.less {b : Nat} {v : Value} (h : FarV (b + 1) v) : FarV b v := fun cs e i x n c hx => Nat.le_of_succ_le (h cs e i x n c hx)
theorem far_zero (b : Nat) : FarV b (.agg #[.int .i64 0, .int .i64 0, .int .i64 0, .slice none 0 0, .slice none 0 0, .slice none 0 0, .slice none 0 0]) := by
  intro cs hcs i x n cc hi
  cases hcs
  match i, hi with
  | 0, hi => simp at hi
  | 1, hi => simp at hi
  | 2, hi => simp at hi
  | 3, hi => simp at hi
  | 4, hi => simp at hi
  | 5, hi => simp at hi
  | 6, hi => simp at hi
  | n + 7, hi => simp at hi

set_option maxRecDepth 100000 in
set_option maxHeartbeats 20000000 in
theorem refDecode_any (l : List UInt8) (w : World) (hl : l.length ≤ maxLen) :
    Calls Try.prog 42 #[.string (str l)] w fun e w' => ∃ v, e = .returned (.tuple #[v, .int .i64 (decE l)]) ∧ FrameV w' v (decL l) ∧ FarV w.heap.size v ∧ Below w.heap.size w w' := by
  obtain ⟨io, hio, oz0, oz1, oz2⟩ := info_parts Try.infoOp
  obtain ⟨i0, hi0, iz0, iz1, iz2⟩ := info_parts Try.infoInt
  unfold maxLen at hl
  have hsz := str_size l
  by_cases h6 : l.length < 6
  · have E : Hid (okL l = false) := not_ok (by omega)
    have E1 : Hid (decE l = 1) := by unfold Hid decE; rw [E.out]; rfl
    have E2 : Hid (decL l = zeroF) := by unfold Hid decL; rw [E.out]; rfl
    have hz := fun o => (Below.refl w.heap.size w).alloc (Nat.le_refl _) o
    go_enter Try.func42, Try.ntmps42
    go_wp2_with fail
    refine (no_any _).mono ?_
    rintro e w1 ⟨rfl, hc⟩
    have hb1 := (hz _).trans (hc.mono (hz _).size)
    have hz1 : FAt w1 w.heap.size 0 0 0 (.slice none 0 0) (.slice none 0 0) (.slice none 0 0) (.slice none 0 0) := ⟨39, by rw [hc.block _ (by rw [alloc_size]; omega), heap_new]⟩
    obtain ⟨g0, g1, g2, g3, g4, g5, g6⟩ := hz1.cell
    have y0 := hz1.frozen 0
    have y1 := hz1.frozen 1
    have y2 := hz1.frozen 2
    have y3 := hz1.frozen 3
    have y4 := hz1.frozen 4
    have y5 := hz1.frozen 5
    have y6 := hz1.frozen 6
    clear hc hz
    go_wp2
    refine bodyPost_ret (v := .tuple #[.agg #[.int .i64 0, .int .i64 0, .int .i64 0, .slice none 0 0, .slice none 0 0, .slice none 0 0, .slice none 0 0], .int .i64 1]) (by simp [results, Try.results42, go_sem, *]) rfl ⟨_, by rw [E1.out], by rw [E2.out]; exact zero_frame' _, far_zero _, ?_⟩
    exact put7_lo hb1 (Nat.le_refl _)
  have x0 : 0 < l.length := by omega
  have x1 : 1 < l.length := by omega
  have x2 : 2 < l.length := by omega
  have x3 : 3 < l.length := by omega
  have z0 : (0 : Int) < (l.length : Int) := by omega
  have z1 : (1 : Int) < (l.length : Int) := by omega
  have z2 : (2 : Int) < (l.length : Int) := by omega
  have z3 : (3 : Int) < (l.length : Int) := by omega
  have wa : ∀ (k : Nat) (h : k < (str l).size), wrap64 (((str l)[k]'h).toNat : Int) = (bAt l k : Int) := fun k h => by rw [str_at]; have := bAt_lt l k; unfold wrap64; omega
  have wb : ∀ (k : Nat) (h : k < (str l).size), IntKind.i64.wrap (((str l)[k]'h).toNat : Int) = (bAt l k : Int) := fun k h => by rw [str_at]; have := bAt_lt l k; rw [IntKind.wrap_i64]; omega
  have ex : ∀ p, (str l).extract p l.length = str (l.drop p) := str_drop l
  have C0 := Dp.start w (bAt l 0) (bAt l 1) (bAt l 2)
  go_enter Try.func42, Try.ntmps42
  go_upto_region 4 with fail
  go_cut [5] from 9 (fun s wc => s = .pointer (some ⟨w.heap.size + 1, 0, none⟩) ∧ Dp w (bAt l 0) (bAt l 1) (bAt l 2) wc (.slice none 0 0) (.slice none 0 0) (.slice none 0 0) (.slice none 0 0))
  case first =>
    go_region
    all_goals
      go_wp2
      go_meet
      case rel => exact ⟨rfl, C0.drew⟩
  case rest =>
    obtain ⟨hcs, C1⟩ := hcut
    subst hcs
    clear C0
    have hn256 := bAt_lt l 3
    obtain ⟨n, hn⟩ : ∃ n, n = bAt l 3 := ⟨_, rfl⟩
    rw [← hn] at hn256
    have HN : Hid (n = bAt l 3) := hn
    clear hn
    go_wp2_with fail
    rw [show bAt l 3 = n from HN.out.symm]
    go_loopw [6, 29] (fun s6 i wr => ∃ (k a : Nat) (zs : List OpL) (v3 : Value), k ≤ n ∧ i = .int .i64 k ∧ s6 = .int .i64 a ∧ Hid (a = 4 + 8 * k) ∧ a ≤ l.length ∧ Hid (zs.length = k) ∧ Hid (Rd.ops n (pos l 4) = (zs ++ (Rd.ops (n - k) (pos l a)).1, (Rd.ops (n - k) (pos l a)).2)) ∧
        Dp w (bAt l 0) (bAt l 1) (bAt l 2) wr v3 (.slice none 0 0) (.slice none 0 0) (.slice none 0 0) ∧ wr.ownsRow (w.heap.size + 2) 28 3 v3 k (opsCells zs)) (fun _ i _ => n - (intOf i).toNat)
    case atStart => exact ⟨0, 4, [], _, Nat.zero_le _, rfl, rfl, rfl, by omega, rfl, rfl, C1, World.ownsRow_nil _ _ _ _⟩
    case round =>
      obtain ⟨k, a, zs, v3, hk, rfl, rfl, HA, hal, hzk, HR, F, hown⟩ := hrel
      have hab : (a : Int) ≤ 3000 := by have := HA.out; omega
      by_cases hlt : k < n
      · by_cases h8 : (l.length : Int) < (a : Int) + 8
        · have E : Hid (okL l = false) := not_ok (by have := HA.out; rw [← HN.out]; omega)
          have E1 : Hid (decE l = 1) := by unfold Hid decE; rw [E.out]; rfl
          have E2 : Hid (decL l = zeroF) := by unfold Hid decL; rw [E.out]; rfl
          have F2 := F
          go_wp2_with fail
          refine (no_any _).mono ?_
          rintro e wn ⟨rfl, hc⟩
          have hbn := F2.b.trans (hc.mono F2.b.size)
          have hzn := F2.z.block (hc.block _ F2.z.lt)
          obtain ⟨g0, g1, g2, g3, g4, g5, g6⟩ := hzn.cell
          have y0 := hzn.frozen 0
          have y1 := hzn.frozen 1
          have y2 := hzn.frozen 2
          have y3 := hzn.frozen 3
          have y4 := hzn.frozen 4
          have y5 := hzn.frozen 5
          have y6 := hzn.frozen 6
          clear hc
          go_wp2
          refine bodyPost_ret (v := .tuple #[.agg #[.int .i64 0, .int .i64 0, .int .i64 0, .slice none 0 0, .slice none 0 0, .slice none 0 0, .slice none 0 0], .int .i64 1]) (by simp [results, Try.results42, go_sem, *]) rfl ⟨_, by rw [E1.out], by rw [E2.out]; exact zero_frame' _, far_zero _, ?_⟩
          exact put7_lo hbn (Nat.le_refl _)
        · have b1 : (0 : Int) ≤ (a : Int) := by omega
          have b2 : (a : Int) < (l.length : Int) := by omega
          have b3 : (a : Int) + 1 < (l.length : Int) := by omega
          have b4 : (a : Int) + 2 ≤ (l.length : Int) := by omega
          have b5 : (0 : Int) ≤ (a : Int) + 1 := by omega
          have b6 : (0 : Int) ≤ (a : Int) + 2 := by omega
          have w1 : IntKind.i64.wrap ((a : Int) + 1) = (a : Int) + 1 := iwrap (by omega) (by omega)
          have w2 : IntKind.i64.wrap ((a : Int) + 2) = (a : Int) + 2 := iwrap (by omega) (by omega)
          have w0 : IntKind.i64.wrap (a : Int) = (a : Int) := iwrap (by omega) (by omega)
          have q3 := F.f.cell.2.2.2.1
          have q3a := fun o => (F.alloc o).f.cell.2.2.2.1
          have y3 := F.f.frozen 3
          go_wp2_with fail
          go_region_law
            ((first
              | (go_simp; go_at_call 78; refine (fromSix_any l (a + 2) _ ?_).mono ?_; omega; rintro e x2 ⟨rfl, hw⟩; subst hw)
              | (refine step_append_lies _ (by rfl) _ _ _ (by rfl) (w.heap.size + 2) 28 io _ 3 24 Try.underlying22 hio oz0 oz1 oz2 rfl (by decide) v3 k (opsCells zs) (by rfl) (hown.drew.alloc _)
                  ⟨wr.heap.size, 0, none⟩ 1 1 (opCells (bAt l a, bAt l (a + 1), (pos l (a + 2)).wide)) (by rfl) (by rfl) (World.news_of_block (cs := #[.int .i64 (bAt l a), .int .i64 (bAt l (a + 1)), .int .i64 (pos l (a + 2)).wide]) (t := 28) (fr := (0, 0)) (heap_new wr.drew _)) ?_
                  (by decide) ?_ ?_ ?_ (wr.heap.size + 1) ?_ ?_
                 exact one_op _
                 exact len_ok hlt hn256
                 exact len24_ok hlt hn256
                 exact le_alloc F.f.lt
                 exact alloc_size _ _
                 intro gg cap x5 hown5 hgrow hat hlt5
                 have F5 := F.drew.after hown.drew (Nat.le_refl _) hgrow
                 have q5 := F5.f.cell.2.2.2.1
                 have z5 := F5.f.frozen 3)
              | fail))
          all_goals
            go_wp2
            go_roundw
            case rel => exact ⟨k + 1, a + 8, zs ++ [((bAt l a : Int), (bAt l (a + 1) : Int), (pos l (a + 2)).wide)], _, by omega, by go_num, by go_num, by have := HA.out; unfold Hid; omega, by omega, by unfold Hid; rw [List.length_append, hzk.out]; rfl, ops_pos hlt (by omega) HR, F5.put3 _, by rw [opsCells_snoc]; exact own_put hown5 (by omega)⟩
            case measure => simp [intOf]; omega
      · have ek : k = n := by omega
        subst ek
        have Eo : Hid (Rd.ops k (pos l 4) = (zs, pos l a)) := ops_end hlt HR
        clear HR hlt hk
        have hd256 := bAt_lt l a
        by_cases c1 : (l.length : Int) ≤ (a : Int)
        · have F2 := F
          have E : Hid (okL l = false) := not_ok (by have := HA.out; rw [← HN.out]; omega)
          have E1 : Hid (decE l = 1) := by unfold Hid decE; rw [E.out]; rfl
          have E2 : Hid (decL l = zeroF) := by unfold Hid decL; rw [E.out]; rfl
          go_wp2_with fail
          refine (no_any _).mono ?_
          rintro e wn ⟨rfl, hc⟩
          have hbn := F2.b.trans (hc.mono F2.b.size)
          have hzn := F2.z.block (hc.block _ F2.z.lt)
          obtain ⟨g0, g1, g2, g3, g4, g5, g6⟩ := hzn.cell
          have y0 := hzn.frozen 0
          have y1 := hzn.frozen 1
          have y2 := hzn.frozen 2
          have y3 := hzn.frozen 3
          have y4 := hzn.frozen 4
          have y5 := hzn.frozen 5
          have y6 := hzn.frozen 6
          clear hc
          go_wp2
          refine bodyPost_ret (v := .tuple #[.agg #[.int .i64 0, .int .i64 0, .int .i64 0, .slice none 0 0, .slice none 0 0, .slice none 0 0, .slice none 0 0], .int .i64 1]) (by simp [results, Try.results42, go_sem, *]) rfl ⟨_, by rw [E1.out], by rw [E2.out]; exact zero_frame' _, far_zero _, ?_⟩
          exact put7_lo hbn (Nat.le_refl _)
        · have b1 : (0 : Int) ≤ (a : Int) := by omega
          have b2 : (a : Int) < (l.length : Int) := by omega
          have w0 : IntKind.i64.wrap (a : Int) = (a : Int) := iwrap (by omega) (by omega)
          by_cases c2 : (l.length : Int) ≤ (a : Int) + 1 + (bAt l a : Int)
          · have F2 := F
            have E : Hid (okL l = false) := not_ok (by have := HA.out; rw [← HN.out]; rw [show 4 + 8 * k = a by omega]; omega)
            have E1 : Hid (decE l = 1) := by unfold Hid decE; rw [E.out]; rfl
            have E2 : Hid (decL l = zeroF) := by unfold Hid decL; rw [E.out]; rfl
            go_wp2_with fail
            refine (no_any _).mono ?_
            rintro e wn ⟨rfl, hc⟩
            have hbn := F2.b.trans (hc.mono F2.b.size)
            have hzn := F2.z.block (hc.block _ F2.z.lt)
            obtain ⟨g0, g1, g2, g3, g4, g5, g6⟩ := hzn.cell
            have y0 := hzn.frozen 0
            have y1 := hzn.frozen 1
            have y2 := hzn.frozen 2
            have y3 := hzn.frozen 3
            have y4 := hzn.frozen 4
            have y5 := hzn.frozen 5
            have y6 := hzn.frozen 6
            clear hc
            go_wp2
            refine bodyPost_ret (v := .tuple #[.agg #[.int .i64 0, .int .i64 0, .int .i64 0, .slice none 0 0, .slice none 0 0, .slice none 0 0, .slice none 0 0], .int .i64 1]) (by simp [results, Try.results42, go_sem, *]) rfl ⟨_, by rw [E1.out], by rw [E2.out]; exact zero_frame' _, far_zero _, ?_⟩
            exact put7_lo hbn (Nat.le_refl _)
          · obtain ⟨nd, hnd⟩ : ∃ nd, nd = bAt l a := ⟨_, rfl⟩
            rw [← hnd] at hd256 c2
            have HND : Hid (nd = bAt l a) := hnd
            have c2' : ¬ (l.length : Int) ≤ (a : Int) + 1 + (bAt l a : Int) := by rw [← hnd]; exact c2
            clear hnd
            obtain ⟨wo, hwo⟩ : ∃ wo, wo = wr := ⟨_, rfl⟩
            subst hwo
            go_wp2_with fail
            rw [show bAt l a = nd from HND.out.symm]
            clear c2'
            have lb : w.heap.size + 2 ≤ wo.heap.size := F.f.lt
            have lv3 : ∀ g, v3.ownBlock = some g → g < wo.heap.size := fun g h => (hown.lt g h).2
            obtain ⟨b4, hb4⟩ : ∃ b4, b4 = wo.heap.size := ⟨_, rfl⟩
            rw [← hb4] at lb lv3
            have hb4' : b4 ≤ wo.heap.size := by omega
            clear hb4
            go_loopw [87] (fun i wr => ∃ (k2 : Nat) (ds : List Int) (v4 : Value), k2 ≤ nd ∧ i = .int .i64 k2 ∧ Hid (ds.length = k2) ∧ Hid (Rd.nums nd (pos l (a + 1)) = (ds ++ (Rd.nums (nd - k2) (pos l (a + 1 + k2))).1, (Rd.nums (nd - k2) (pos l (a + 1 + k2))).2)) ∧
                Dp w (bAt l 0) (bAt l 1) (bAt l 2) wr v3 v4 (.slice none 0 0) (.slice none 0 0) ∧ wr.ownsRow b4 3 1 v4 k2 (intCells ds) ∧ wr.ownsRow (w.heap.size + 2) 28 3 v3 k (opsCells zs) ∧ b4 ≤ wr.heap.size) (fun i _ => nd - (intOf i).toNat)
            case atStart => exact ⟨0, [], _, Nat.zero_le _, rfl, rfl, rfl, F, World.ownsRow_nil _ _ _ _, hown, hb4'⟩
            case round =>
              clear F hown C1
              obtain ⟨k2, ds, v4, hk2, rfl, hdk, HR, F, hown4, hown3, hbs⟩ := hrel
              by_cases hlt2 : k2 < nd
              · have q4 := F.f.cell.2.2.2.2.1
                have q4a := fun o => (F.alloc o).f.cell.2.2.2.2.1
                have y4 := F.f.frozen 4
                have w1 : IntKind.i64.wrap ((a : Int) + 1) = (a : Int) + 1 := iwrap (by omega) (by omega)
                have w3 : IntKind.i64.wrap ((a : Int) + 1 + (k2 : Int)) = (a : Int) + 1 + (k2 : Int) := iwrap (by omega) (by omega)
                have b5 : (0 : Int) ≤ (a : Int) + 1 + (k2 : Int) := by omega
                have b6 : (a : Int) + 1 + (k2 : Int) < (l.length : Int) := by omega
                have tn : ((a : Int) + 1 + (k2 : Int)).toNat = a + 1 + k2 := by omega
                go_wp2_with fail
                go_region_law
                  ((first
                    | (refine step_append_lies _ (by rfl) _ _ _ (by rfl) b4 3 i0 _ 1 8 Try.underlying32 hi0 iz0 iz1 iz2 rfl (by decide) v4 k2 (intCells ds) (by rfl) (hown4.drew.alloc _)
                        ⟨wr.heap.size, 0, none⟩ 1 1 [.int .i64 (bAt l (a + 1 + k2))] (by rfl) (by rfl) (World.news_of_block (cs := #[.int .i64 (bAt l (a + 1 + k2))]) (t := 3) (fr := (0, 0)) (heap_new wr.drew _)) ?_
                        (by decide) ?_ ?_ ?_ (wr.heap.size + 1) ?_ ?_
                       exact one_int _
                       exact len_ok hlt2 hd256
                       exact len8_ok hlt2 hd256
                       exact le_alloc hbs
                       exact alloc_size _ _
                       intro gg cap x5 hown5 hgrow hat hlt5
                       have F5 := F.drew.after hown4.drew lb hgrow
                       have hown6 := own_far hown3.drew lv3 hown4.drew hgrow
                       have lb5 := le_grown (w := wr.drew) hbs hgrow
                       have q5 := F5.f.cell.2.2.2.2.1
                       have z5 := F5.f.frozen 4)
                    | fail))
                all_goals
                  go_wp2
                  go_roundw
                  case rel => exact ⟨k2 + 1, ds ++ [(bAt l (a + 1 + k2) : Int)], _, by omega, by go_num, by unfold Hid; rw [List.length_append, hdk.out]; rfl, nums_pos hlt2 (by omega) HR, F5.put4 _, by rw [intCells_snoc]; exact own_put hown5 (by omega), own_put hown6 (by omega), le_put lb5⟩
                  case measure => simp [intOf]; omega
              · have ek2 : k2 = nd := by omega
                subst ek2
                have En : Hid (Rd.nums k2 (pos l (a + 1)) = (ds, pos l (a + 1 + k2))) := nums_end hlt2 HR
                clear HR hlt2 hk2
                obtain ⟨wq, hwq⟩ : ∃ wq, wq = wr := ⟨_, rfl⟩
                subst hwq
                obtain ⟨a2, ha2⟩ : ∃ a2, a2 = a + 1 + k2 := ⟨_, rfl⟩
                have HA2 : Hid (a2 = a + 1 + k2) := ha2
                have hk2b : (k2 : Int) < 256 := by omega
                have ebk : (bAt l a : Int) = (k2 : Int) := by rw [HND.out]
                clear ha2
                go_upto_region 20 with fail
                go_cut [6] from 103 (fun s wc' => s = .int .i64 a2 ∧ wc' = wq)
                case first =>
                  go_wp2
                  go_meet
                  case rel =>
                    refine ⟨?_, rfl⟩
                    congr 1
                    have := HA2.out
                    omega
                case rest =>
                  obtain ⟨hcs, hcw⟩ := hcut
                  subst hcs hcw
                  have ha256 := bAt_lt l a2
                  have d1 : (0 : Int) ≤ (a2 : Int) := by omega
                  have d2 : (a2 : Int) < (l.length : Int) := by have := HA2.out; omega
                  have d3 : (a2 : Int) ≤ 4000 := by have := HA2.out; omega
                  have w4 : IntKind.i64.wrap (a2 : Int) = (a2 : Int) := iwrap (by omega) (by omega)
                  cases tq : (l.length : Int) != (a2 : Int) + 1 + 7 * (bAt l a2 : Int)
                  · obtain ⟨na, hna⟩ : ∃ na, na = bAt l a2 := ⟨_, rfl⟩
                    have HNA : Hid (na = bAt l a2) := hna
                    have hlen : Hid (l.length = a2 + 1 + 7 * na) := by unfold Hid; simp at tq; rw [hna]; omega
                    rw [← hna] at ha256
                    clear hna
                    have ha256b := bAt_lt l a2
                    have lb5 : b4 ≤ wc.heap.size := hbs
                    go_wp2_with fail
                    clear ha256b
                    rw [show bAt l a2 = na from HNA.out.symm]
                    have hl2 : (l.length : Int) = (a2 : Int) + 1 + 7 * (na : Int) := by have := hlen.out; omega
                    have HL2 : Hid ((l.length : Int) = (a2 : Int) + 1 + 7 * (na : Int)) := hl2
                    clear hl2 tq
                    have lv3' : ∀ g, v3.ownBlock = some g → g < wc.heap.size := fun g h => (hown3.lt g h).2
                    have lv4 : ∀ g, v4.ownBlock = some g → g < wc.heap.size := fun g h => (hown4.lt g h).2
                    obtain ⟨b5, hb5⟩ : ∃ b5, b5 = wc.heap.size := ⟨_, rfl⟩
                    rw [← hb5] at lv3' lv4 lb5
                    have hb5' : b5 ≤ wc.heap.size := by omega
                    have hBb5 : w.heap.size + 2 ≤ b5 := by omega
                    clear hb5
                    go_loopw [129] (fun i wr => ∃ (k3 : Nat) (xs ys : List Int) (v5 v6 : Value), k3 ≤ na ∧ i = .int .i64 k3 ∧ Hid (xs.length = k3) ∧ Hid (ys.length = k3) ∧ Hid (Rd.told na (pos l (a2 + 1)) = (xs ++ (Rd.told (na - k3) (pos l (a2 + 1 + 7 * k3))).1, ys ++ (Rd.told (na - k3) (pos l (a2 + 1 + 7 * k3))).2.1, (Rd.told (na - k3) (pos l (a2 + 1 + 7 * k3))).2.2)) ∧
                        Dp w (bAt l 0) (bAt l 1) (bAt l 2) wr v3 v4 v5 v6 ∧ wr.ownsRow b5 3 1 v5 k3 (intCells xs) ∧ wr.ownsRow b5 3 1 v6 k3 (intCells ys) ∧ Hid (∀ g, v5.ownBlock = some g → v6.ownBlock ≠ some g) ∧
                        wr.ownsRow b4 3 1 v4 k2 (intCells ds) ∧ wr.ownsRow (w.heap.size + 2) 28 3 v3 k (opsCells zs) ∧ b5 ≤ wr.heap.size) (fun i _ => na - (intOf i).toNat)
                    case atStart => exact ⟨0, [], [], _, _, Nat.zero_le _, rfl, rfl, rfl, rfl, F, World.ownsRow_nil _ _ _ _, World.ownsRow_nil _ _ _ _, by simp [Hid, Value.ownBlock], hown4, hown3, hb5'⟩
                    case round =>
                      clear F hown4 hown3 hbs
                      obtain ⟨k3, xs, ys, v5, v6, hk3, rfl, hxk, hyk, HR, F, hown5, hown6, HQ, hown4, hown3, hbs⟩ := hrel
                      by_cases hlt3 : k3 < na
                      · have q5 := F.f.cell.2.2.2.2.2.1
                        have q5a := fun o => (F.alloc o).f.cell.2.2.2.2.2.1
                        have y5 := F.f.frozen 5
                        have l7 := HL2.out
                        have w1 : IntKind.i64.wrap ((a2 : Int) + 1) = (a2 : Int) + 1 := iwrap (by omega) (by omega)
                        have w2 : IntKind.i64.wrap ((a2 : Int) + 2) = (a2 : Int) + 2 := iwrap (by omega) (by omega)
                        have w5 : IntKind.i64.wrap (7 * (k3 : Int)) = 7 * (k3 : Int) := iwrap (by omega) (by omega)
                        have w6 : IntKind.i64.wrap ((a2 : Int) + 1 + 7 * (k3 : Int)) = (a2 : Int) + 1 + 7 * (k3 : Int) := iwrap (by omega) (by omega)
                        have w7 : IntKind.i64.wrap ((a2 : Int) + 2 + 7 * (k3 : Int)) = (a2 : Int) + 2 + 7 * (k3 : Int) := iwrap (by omega) (by omega)
                        have e1 : (0 : Int) ≤ (a2 : Int) + 1 + 7 * (k3 : Int) := by omega
                        have e2 : (a2 : Int) + 1 + 7 * (k3 : Int) < (l.length : Int) := by omega
                        have e3 : (0 : Int) ≤ (a2 : Int) + 2 + 7 * (k3 : Int) := by omega
                        have e4 : (a2 : Int) + 2 + 7 * (k3 : Int) ≤ (l.length : Int) := by omega
                        have t1 : ((a2 : Int) + 1 + 7 * (k3 : Int)).toNat = a2 + 1 + 7 * k3 := by omega
                        have t2 : ((a2 : Int) + 2 + 7 * (k3 : Int)).toNat = a2 + 2 + 7 * k3 := by omega
                        have HB : Hid (a2 + 1 + 7 * k3 + 7 ≤ l.length) := by unfold Hid; omega
                        clear l7
                        go_wp2_with fail
                        go_region_law
                          ((first
                            | (refine step_append_lies _ (by rfl) _ _ _ (by rfl) b5 3 i0 _ 1 8 Try.underlying32 hi0 iz0 iz1 iz2 rfl (by decide) v5 k3 (intCells xs) (by rfl) (hown5.drew.alloc _)
                                ⟨wr.heap.size, 0, none⟩ 1 1 [.int .i64 (bAt l (a2 + 1 + 7 * k3))] (by rfl) (by rfl) (World.news_of_block (cs := #[.int .i64 (bAt l (a2 + 1 + 7 * k3))]) (t := 3) (fr := (0, 0)) (heap_new wr.drew _)) ?_
                                (by decide) ?_ ?_ ?_ (wr.heap.size + 1) ?_ ?_
                               exact one_int _
                               exact len_ok hlt3 ha256
                               exact len8_ok hlt3 ha256
                               exact le_alloc hbs
                               exact alloc_size _ _
                               intro gg cap x5 hown7 hgrow hat hlt5
                               have F5 := F.drew.after hown5.drew hBb5 hgrow
                               have hown7a := own_far hown3.drew lv3' hown5.drew hgrow
                               have hown7b := own_far hown4.drew lv4 hown5.drew hgrow
                               have hown7c := own_apart hown6.drew HQ.out hgrow
                               have HG : Hid (v6.ownBlock ≠ some gg) := apart_new HQ.out hown6.drew hat
                               have lb7 := le_grown (w := wr.drew) hbs hgrow
                               have q5' := F5.f.cell.2.2.2.2.2.1
                               have z5 := F5.f.frozen 5
                               clear hgrow hat HQ)
                            | fail))
                        all_goals
                          have F6 := F5.put5 (.slice (some ⟨gg, 0, none⟩) (k3 + 1) cap)
                          have o7 := own_put (c := w.heap.size + 1) (o := 5) (u := .slice (some ⟨gg, 0, none⟩) (k3 + 1) cap) hown7 (by omega)
                          have o7a := own_put (c := w.heap.size + 1) (o := 5) (u := .slice (some ⟨gg, 0, none⟩) (k3 + 1) cap) hown7a (by omega)
                          have o7b := own_put (c := w.heap.size + 1) (o := 5) (u := .slice (some ⟨gg, 0, none⟩) (k3 + 1) cap) hown7b (by omega)
                          have o7c := own_put (c := w.heap.size + 1) (o := 5) (u := .slice (some ⟨gg, 0, none⟩) (k3 + 1) cap) hown7c (by omega)
                          have l7 := le_put (a := ⟨w.heap.size + 1, 5, none⟩) (v := .slice (some ⟨gg, 0, none⟩) (k3 + 1) cap) lb7
                          clear hown7 hown7a hown7b hown7c lb7 hown5 hown6 hown4 hown3 q5 q5a q5' z5 F5 F y5
                          go_wp2_with fail
                          generalize x5.setCell ⟨w.heap.size + 1, 5, none⟩ (.slice (some ⟨gg, 0, none⟩) (k3 + 1) cap) = x6 at *
                          have q6 := F6.f.cell.2.2.2.2.2.2
                          have q6a := fun o => (F6.alloc o).f.cell.2.2.2.2.2.2
                          have y6 := F6.f.frozen 6
                          go_region_law
                            ((first
                              | (go_simp; go_at_call 78; refine (fromSix_any l (a2 + 2 + 7 * k3) _ ?_).mono ?_; exact six_room HB.out; rintro e x7 ⟨rfl, hw⟩; subst hw)
                              | (refine step_append_lies _ (by rfl) _ _ _ (by rfl) b5 3 i0 _ 1 8 Try.underlying32 hi0 iz0 iz1 iz2 rfl (by decide) v6 k3 (intCells ys) (by rfl) (o7c.drew.alloc _)
                                  ⟨x6.heap.size, 0, none⟩ 1 1 [.int .i64 (pos l (a2 + 2 + 7 * k3)).wide] (by rfl) (by rfl) (World.news_of_block (cs := #[.int .i64 (pos l (a2 + 2 + 7 * k3)).wide]) (t := 3) (fr := (0, 0)) (heap_new x6.drew _)) ?_
                                  (by decide) ?_ ?_ ?_ (x6.heap.size + 1) ?_ ?_
                                 exact one_int _
                                 exact len_ok hlt3 ha256
                                 exact len8_ok hlt3 ha256
                                 exact le_alloc l7
                                 exact alloc_size _ _
                                 intro gh cap2 x8 hown8 hgrow hat hlt8
                                 have F8 := F6.drew.after o7c.drew hBb5 hgrow
                                 have hown8a := own_far o7a.drew lv3' o7c.drew hgrow
                                 have hown8b := own_far o7b.drew lv4 o7c.drew hgrow
                                 have hown8c := own_apart o7.drew (apart_flip HG.out) hgrow
                                 have HP : Hid (∀ g, (Value.slice (some ⟨gg, 0, none⟩) (k3 + 1) cap).ownBlock = some g → (Value.slice (some ⟨gh, 0, none⟩) (k3 + 1) cap2).ownBlock ≠ some g) := apart_both HG.out o7.drew hat
                                 have lb8 := le_grown (w := x6.drew) l7 hgrow
                                 have q6' := F8.f.cell.2.2.2.2.2.2
                                 have z6 := F8.f.frozen 6
                                 clear hgrow hat HG)
                              | fail))
                          all_goals
                            go_wp2
                            go_roundw
                            case rel =>
                              refine ⟨k3 + 1, xs ++ [(bAt l (a2 + 1 + 7 * k3) : Int)], ys ++ [(pos l (a2 + 2 + 7 * k3)).wide], _, _, by omega, by go_num, by unfold Hid; rw [List.length_append, hxk.out]; rfl, by unfold Hid; rw [List.length_append, hyk.out]; rfl, ?_, F8.put6 _, by rw [intCells_snoc]; exact own_put hown8c (by omega), by rw [intCells_snoc]; exact own_put hown8 (by omega), HP, own_put hown8b (by omega), own_put hown8a (by omega), le_put lb8⟩
                              have := told_pos hlt3 HB.out HR
                              rwa [show a2 + 1 + 7 * k3 + 1 = a2 + 2 + 7 * k3 by omega, show a2 + 1 + 7 * k3 + 7 = a2 + 1 + 7 * (k3 + 1) by omega] at this
                            case measure => simp [intOf]; omega
                      · have ek3 : k3 = na := by omega
                        subst ek3
                        have Et : Hid (Rd.told k3 (pos l (a2 + 1)) = (xs, ys, pos l (a2 + 1 + 7 * k3))) := told_end hlt3 HR
                        have RP : Hid (okL l = (goodL ⟨bAt l 0, bAt l 1, bAt l 2, zs, ds, xs, ys⟩ == 0) ∧ (okL l = true → decL l = ⟨bAt l 0, bAt l 1, bAt l 2, zs, ds, xs, ys⟩)) := by
                          have h1 := HA.out
                          have h2 := HA2.out
                          have h3 := hlen.out
                          refine read_pos (n := k) (nd := k2) (na := k3) HN.out.symm ?_ ?_ (by omega) ?_ ?_ ?_
                          · rw [show 4 + 8 * k = a by omega]; exact HND.out.symm
                          · rw [show 5 + 8 * k + k2 = a2 by omega]; exact HNA.out.symm
                          · rw [show 4 + 8 * k = a by omega]; exact Eo.out
                          · rw [show 5 + 8 * k = a + 1 by omega]; exact En.out
                          · rw [show 6 + 8 * k + k2 = a2 + 1 by omega]; exact Et.out
                        clear HR hlt3 hk3 Et Eo En
                        have g3 := hzk.out
                        have g4 := hdk.out
                        have g5 := hxk.out
                        have g6 := hyk.out
                        obtain ⟨b3', d3', e3, _⟩ := own_form hown3
                        obtain ⟨b4', d4', e4, _⟩ := own_form hown4
                        obtain ⟨b5', d5', e5, _⟩ := own_form hown5
                        obtain ⟨b6', d6', e6, _⟩ := own_form hown6
                        subst e3 e4 e5 e6
                        have HV : FrameV wr (.agg #[.int .i64 (bAt l 0), .int .i64 (bAt l 1), .int .i64 (bAt l 2), .slice b3' k d3', .slice b4' k2 d4', .slice b5' k3 d5', .slice b6' k3 d6']) ⟨bAt l 0, bAt l 1, bAt l 2, zs, ds, xs, ys⟩ := by
                          refine ⟨b3', d3', b4', d4', b5', d5', b6', d6', by simp [g3, g4, g5, g6], ?_, ?_, ?_, ?_⟩
                          · rw [← g3] at hown3; exact SlOps.of_owns hown3
                          · rw [← g4] at hown4; exact SlInts.of_owns hown4
                          · rw [← g5] at hown5; exact SlInts.of_owns hown5
                          · rw [← g6] at hown6; exact SlInts.of_owns hown6
                        have hfar : FarV (w.heap.size + 1) (.agg #[.int .i64 (bAt l 0), .int .i64 (bAt l 1), .int .i64 (bAt l 2), .slice b3' k d3', .slice b4' k2 d4', .slice b5' k3 d5', .slice b6' k3 d6']) := by
                          intro cs hcs i x n cc hi
                          cases hcs
                          match i, hi with
                          | 0, hi => simp at hi
                          | 1, hi => simp at hi
                          | 2, hi => simp at hi
                          | 3, hi => simp at hi; exact far_of hown3 (by omega) hi.1
                          | 4, hi => simp at hi; exact far_of hown4 (by omega) hi.1
                          | 5, hi => simp at hi; exact far_of hown5 (by omega) hi.1
                          | 6, hi => simp at hi; exact far_of hown6 (by omega) hi.1
                          | n + 7, hi => simp at hi
                        clear g3 g4 g5 g6 hown3 hown4 hown5 hown6 lv3 lv3' lv4
                        obtain ⟨q0, q1, q2, q3, q4, q5, q6⟩ := F.f.cell
                        go_wp2_with fail
                        refine (isFrame_any _ _ _ HV).mono ?_
                        rintro e w8 ⟨rfl, hc8⟩
                        have hB8 := F.b.trans (hc8.mono F.b.size)
                        have hz8 := F.z.block (hc8.block _ F.z.lt)
                        have hf8 := F.f.block (hc8.block _ F.f.lt)
                        have hv8 := HV.later hc8
                        clear hc8 HV q0 q1 q2 q3 q4 q5 q6 F
                        cases tg : goodL ⟨bAt l 0, bAt l 1, bAt l 2, zs, ds, xs, ys⟩ != 0
                        · have tg' : goodL ⟨bAt l 0, bAt l 1, bAt l 2, zs, ds, xs, ys⟩ = 0 := by simpa using tg
                          have E : Hid (okL l = true) := by unfold Hid; rw [RP.out.1, tg']; rfl
                          have E1 : Hid (decE l = 0) := by unfold Hid decE; rw [E.out]; rfl
                          have E2 : Hid (decL l = ⟨bAt l 0, bAt l 1, bAt l 2, zs, ds, xs, ys⟩) := RP.out.2 E.out
                          have HFar : Hid (FarV w.heap.size (.agg #[.int .i64 (bAt l 0), .int .i64 (bAt l 1), .int .i64 (bAt l 2), .slice b3' k d3', .slice b4' k2 d4', .slice b5' k3 d5', .slice b6' k3 d6'])) := hfar.less
                          have HF : Hid (∀ x0 x1 x2 x3 x4 x5 x6, FrameV (put7 w8 w.heap.size x0 x1 x2 x3 x4 x5 x6) _ _) := fun x0 x1 x2 x3 x4 x5 x6 => hv8.beside (b := w.heap.size) hfar (by simp [put7, World.setCell]) (fun k hk _ => put7_block (by omega))
                          obtain ⟨q0, q1, q2, q3, q4, q5, q6⟩ := hf8.cell
                          obtain ⟨g0, g1, g2, g3, g4, g5, g6⟩ := hz8.cell
                          have y0 := hz8.frozen 0
                          have y1 := hz8.frozen 1
                          have y2 := hz8.frozen 2
                          have y3 := hz8.frozen 3
                          have y4 := hz8.frozen 4
                          have y5 := hz8.frozen 5
                          have y6 := hz8.frozen 6
                          clear RP hv8 hfar tg'
                          go_wp2
                          refine bodyPost_ret (v := .tuple #[.agg #[.int .i64 (bAt l 0), .int .i64 (bAt l 1), .int .i64 (bAt l 2), .slice b3' k d3', .slice b4' k2 d4', .slice b5' k3 d5', .slice b6' k3 d6'], .int .i64 0]) (by simp [results, Try.results42, go_sem, *]) rfl ⟨_, by rw [E1.out], by rw [E2.out]; exact HF.out _ _ _ _ _ _ _, HFar.out, ?_⟩
                          exact put7_lo hB8 (Nat.le_refl _)
                        · have tg' : ¬ goodL ⟨bAt l 0, bAt l 1, bAt l 2, zs, ds, xs, ys⟩ = 0 := by simpa using tg
                          have E : Hid (okL l = false) := by unfold Hid; rw [RP.out.1]; simpa using tg'
                          have E1 : Hid (decE l = 1) := by unfold Hid decE; rw [E.out]; rfl
                          have E2 : Hid (decL l = zeroF) := by unfold Hid decL; rw [E.out]; rfl
                          clear tg' RP hv8 hfar
                          go_wp2_with fail
                          refine (no_any _).mono ?_
                          rintro e wn ⟨rfl, hc⟩
                          have hbn := hB8.trans (hc.mono hB8.size)
                          have hzn := hz8.block (hc.block _ hz8.lt)
                          obtain ⟨g0, g1, g2, g3, g4, g5, g6⟩ := hzn.cell
                          have y0 := hzn.frozen 0
                          have y1 := hzn.frozen 1
                          have y2 := hzn.frozen 2
                          have y3 := hzn.frozen 3
                          have y4 := hzn.frozen 4
                          have y5 := hzn.frozen 5
                          have y6 := hzn.frozen 6
                          clear hc
                          go_wp2
                          refine bodyPost_ret (v := .tuple #[.agg #[.int .i64 0, .int .i64 0, .int .i64 0, .slice none 0 0, .slice none 0 0, .slice none 0 0, .slice none 0 0], .int .i64 1]) (by simp [results, Try.results42, go_sem, *]) rfl ⟨_, by rw [E1.out], by rw [E2.out]; exact zero_frame' _, far_zero _, ?_⟩
                          exact put7_lo hbn (Nat.le_refl _)
                  · have F2 := F
                    have E : Hid (okL l = false) := not_ok (by have h1 := HA.out; have h2 := HA2.out; have h3 := HND.out; simp at tq; rw [← HN.out, show 4 + 8 * k = a by omega, ← h3, show 5 + 8 * k + k2 = a2 by omega]; omega)
                    have E1 : Hid (decE l = 1) := by unfold Hid decE; rw [E.out]; rfl
                    have E2 : Hid (decL l = zeroF) := by unfold Hid decL; rw [E.out]; rfl
                    go_wp2_with fail
                    refine (no_any _).mono ?_
                    rintro e wn ⟨rfl, hc⟩
                    have hbn := F2.b.trans (hc.mono F2.b.size)
                    have hzn := F2.z.block (hc.block _ F2.z.lt)
                    obtain ⟨g0, g1, g2, g3, g4, g5, g6⟩ := hzn.cell
                    have y0 := hzn.frozen 0
                    have y1 := hzn.frozen 1
                    have y2 := hzn.frozen 2
                    have y3 := hzn.frozen 3
                    have y4 := hzn.frozen 4
                    have y5 := hzn.frozen 5
                    have y6 := hzn.frozen 6
                    clear hc
                    go_wp2
                    refine bodyPost_ret (v := .tuple #[.agg #[.int .i64 0, .int .i64 0, .int .i64 0, .slice none 0 0, .slice none 0 0, .slice none 0 0, .slice none 0 0], .int .i64 1]) (by simp [results, Try.results42, go_sem, *]) rfl ⟨_, by rw [E1.out], by rw [E2.out]; exact zero_frame' _, far_zero _, ?_⟩
                    exact put7_lo hbn (Nat.le_refl _)

end Go.Proofs.Ytkoefoccbjhoiaa
