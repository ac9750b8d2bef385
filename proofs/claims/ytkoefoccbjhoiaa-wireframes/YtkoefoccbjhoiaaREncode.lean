/-
  The contract of the document's own EncodeFrame.
-/
import Derived.Test.YtkoefoccbjhoiaaRSix
import Derived.Test.YtkoefoccbjhoiaaRIsFrame
import Derived.Deep.RegionHeld3
import Derived.Deep.DrawnRows
set_option linter.unusedVariables false
set_option linter.unusedSimpArgs false
namespace Go.Proofs.Ytkoefoccbjhoiaa
open Go.RowKit
attribute [local go_sem ↓] Go.wp_at_zero Go.wp_at_succ

theorem cells3 {W x : World} {b : Nat} {v0 v1 v2 : Value} (h : W.cell? ⟨b, 0, none⟩ = some v0 ∧ W.cell? ⟨b, 1, none⟩ = some v1 ∧ W.cell? ⟨b, 2, none⟩ = some v2) (hc : Below W.heap.size W x) :
    x.cell? ⟨b, 0, none⟩ = some v0 ∧ x.cell? ⟨b, 1, none⟩ = some v1 ∧ x.cell? ⟨b, 2, none⟩ = some v2 := by
  have hb := World.block_lt_of_cell? W _ h.1
  rw [hc.cell (p := ⟨b, 0, none⟩) hb, hc.cell (p := ⟨b, 1, none⟩) hb, hc.cell (p := ⟨b, 2, none⟩) hb]
  exact h
theorem keep4 {W x : World} {p0 p1 p2 p3 : Addr} {v0 v1 v2 v3 : Value} (h : W.cell? p0 = some v0 ∧ W.cell? p1 = some v1 ∧ W.cell? p2 = some v2 ∧ W.cell? p3 = some v3) (hc : Below W.heap.size W x) :
    x.cell? p0 = some v0 ∧ x.cell? p1 = some v1 ∧ x.cell? p2 = some v2 ∧ x.cell? p3 = some v3 := by
  rw [hc.cell (World.block_lt_of_cell? W _ h.1), hc.cell (World.block_lt_of_cell? W _ h.2.1), hc.cell (World.block_lt_of_cell? W _ h.2.2.1), hc.cell (World.block_lt_of_cell? W _ h.2.2.2)]
  exact h
theorem FAt.cell4 {w : World} {b : Nat} {a0 a1 a2 : Int} {v3 v4 v5 v6 : Value} (h : FAt w b a0 a1 a2 v3 v4 v5 v6) :
    w.cell? ⟨b, 0, none⟩ = some (.int .i64 a0) ∧ w.cell? ⟨b, 1, none⟩ = some (.int .i64 a1) ∧ w.cell? ⟨b, 2, none⟩ = some (.int .i64 a2) ∧ w.cell? ⟨b, 3, none⟩ = some v3 :=
  ⟨h.cell.1, h.cell.2.1, h.cell.2.2.1, h.cell.2.2.2.1⟩

set_option maxRecDepth 100000 in
set_option maxHeartbeats 2000000 in
theorem encodeFrame_any (v : Value) (f : FrameL) (w : World) (hv : FrameV w v f) :
    Calls Try.prog 37 #[v] w fun e w' => e = .returned (.tuple #[.string (str (encE f)), .int .i64 (goodL f)]) ∧ Below w.heap.size w w' := by
  have hcat : ∀ a b, str a ++ str b = str (a ++ b) := str_cat
  have hlen : ∀ l, (str l).size = l.length := str_size
  have hvo := fun o => hv.later (frame_box w o)
  have hb0 := frame_box w
  obtain ⟨a3, c3, a4, c4, a5, c5, a6, c6, rfl, h3, h4, h5, h6⟩ := hv
  have HG : Hid (goodL f = 0 → _) := fun h => good_in h
  have HE : Hid (encE f = if goodL f = 0 then encL f else []) := rfl
  obtain ⟨kind, node, id, ops, deps, ats, vals⟩ := f
  simp only at hvo h3 h4 h5 h6
  go_enter Try.func37, Try.ntmps37
  go_wp2_with fail
  obtain ⟨wo, hwo⟩ : ∃ wo, wo = w.alloc (.cells #[.int .i64 kind, .int .i64 node, .int .i64 id, .slice a3 ops.length c3, .slice a4 deps.length c4, .slice a5 ats.length c5, .slice a6 vals.length c6] 39) := ⟨_, rfl⟩
  have hb1 := hb0 (.cells #[.int .i64 kind, .int .i64 node, .int .i64 id, .slice a3 ops.length c3, .slice a4 deps.length c4, .slice a5 ats.length c5, .slice a6 vals.length c6] 39)
  have hv1 := hvo (.cells #[.int .i64 kind, .int .i64 node, .int .i64 id, .slice a3 ops.length c3, .slice a4 deps.length c4, .slice a5 ats.length c5, .slice a6 vals.length c6] 39)
  have hf1 : FAt (w.alloc (.cells #[.int .i64 kind, .int .i64 node, .int .i64 id, .slice a3 ops.length c3, .slice a4 deps.length c4, .slice a5 ats.length c5, .slice a6 vals.length c6] 39)) w.heap.size kind node id (.slice a3 ops.length c3) (.slice a4 deps.length c4) (.slice a5 ats.length c5) (.slice a6 vals.length c6) := ⟨_, heap_new _ _⟩
  rw [← hwo] at hb1 hv1 hf1 ⊢
  clear hwo hvo hb0
  refine (isFrame_any _ _ _ hv1).mono ?_
  rintro e w1 ⟨rfl, hc⟩
  have hb2 := hb1.trans (hc.mono hb1.size)
  have hf2 := hf1.block (hc.block _ hf1.lt)
  have lf := hf2.lt
  clear hc hb1 hv1 hf1
  cases tg : goodL ⟨kind, node, id, ops, deps, ats, vals⟩ != 0
  · have tg' : goodL ⟨kind, node, id, ops, deps, ats, vals⟩ = 0 := by simpa using tg
    have HE2 : Hid (encE ⟨kind, node, id, ops, deps, ats, vals⟩ = encL ⟨kind, node, id, ops, deps, ats, vals⟩) := by unfold Hid encE; rw [if_pos tg']
    have HT : Hid (goodL ⟨kind, node, id, ops, deps, ats, vals⟩ = 0) := tg'
    obtain ⟨⟨k1, k2⟩, ⟨n1, n2⟩, ⟨i1, i2⟩, ⟨o1, o2⟩, ⟨d1, d2⟩, ⟨t1, t2⟩, hl, vv⟩ := HG.out tg'
    simp only at *
    have HL : Hid (vals.length = ats.length) := hl
    obtain ⟨q0, q1, q2, q3, q4, q5, q6⟩ := hf2.cell
    clear HG HE tg' hl tg
    rw [HT.out]
    go_wp2_with fail
    go_region_held3 (fun w' => w'.cell? ⟨w.heap.size, 0, none⟩ = some (.int .i64 kind) ∧ w'.cell? ⟨w.heap.size, 1, none⟩ = some (.int .i64 node) ∧ w'.cell? ⟨w.heap.size, 2, none⟩ = some (.int .i64 id) ∧ w'.cell? ⟨w.heap.size, 3, none⟩ = some (.slice a3 ops.length c3))
      (first
        | exact F1.cell4
        | exact F2.cell4
        | exact F3.cell4
        | exact F4.cell4
        | go_keep)
      ((first
        | (go_at_call 71; refine (byteOf_any kind _ ?_ ?_).mono ?_; omega; omega; rintro e x1 ⟨rfl, hc1⟩; have F1 := FAt.block (w := w1.drew) hf2 (hc1.block _ lf); have B1 := hb2.drew.trans (hc1.mono hb2.size))
        | (go_at_call 71; refine (byteOf_any node _ ?_ ?_).mono ?_; omega; omega; rintro e x2 ⟨rfl, hc2⟩; have F2 := F1.block (hc2.block _ F1.lt); have B2 := B1.trans (hc2.mono B1.size))
        | (go_at_call 71; refine (byteOf_any id _ ?_ ?_).mono ?_; omega; omega; rintro e x3 ⟨rfl, hc3⟩; have F3 := F2.block (hc3.block _ F2.lt); have B3 := B2.trans (hc3.mono B2.size))
        | (go_at_call 71; refine (byteOf_any ops.length _ ?_ ?_).mono ?_; omega; omega; rintro e x4 ⟨rfl, hc4⟩; have F4 := F3.block (hc4.block _ F3.lt); have B4 := B3.trans (hc4.mono B3.size))
        | fail))
    clear F1 F2 F3 B1 B2 B3 hc1 hc2 hc3 hc4 hf2 hb2 lf q0 q1 q2 q3 q4 q5 q6
    have HH : Hid (encHead ⟨kind, node, id, ops, deps, ats, vals⟩ = [byt kind, byt node, byt id, byt ops.length]) := rfl
    have q3 := F4.cell.2.2.2.1
    go_wp2_with fail
    go_loopw [5, 35] (fun u i wr => ∃ (k : Nat) (L : List UInt8), k ≤ ops.length ∧ i = .int .i64 k ∧ u = .string (str L) ∧ L.length = 4 + k * 8 ∧ Hid (L = encHead ⟨kind, node, id, ops, deps, ats, vals⟩ ++ encOps (ops.take k)) ∧ Below w.heap.size w wr ∧
        FAt wr w.heap.size kind node id (.slice a3 ops.length c3) (.slice a4 deps.length c4) (.slice a5 ats.length c5) (.slice a6 vals.length c6)) (fun _ i _ => ops.length - (intOf i).toNat)
    case atStart => exact ⟨0, _, Nat.zero_le _, rfl, rfl, rfl, by unfold Hid; rw [HH.out]; rfl, B4, F4⟩
    case round =>
      obtain ⟨k, L, hk, rfl, rfl, hLl, HLL, hB, hF⟩ := hrel
      by_cases hlt : k < ops.length
      · obtain ⟨x0, x1, x2, Hx, b, off, rfl, e0, e1, e2⟩ := h3.1.get hB hlt
        obtain ⟨y0, y0', y1, y1', y2, y2'⟩ := goodB_in (o2 _ (getD_mem hlt Hx.out))
        have HN : Hid (encOps (ops.take (k + 1)) = encOps (ops.take k) ++ (byt x0 :: byt x1 :: six x2)) := encOps_take hlt Hx.out
        have s6 := six_len x2
        have hL1 : L.length ≤ 1000 := by omega
        have hbig : ∀ m : Nat, m ≤ 1000 → ¬ 9223372036854775807 < L.length + m := fun m hm => by omega
        have HLl : Hid (L.length = 4 + k * 8) := hLl
        clear hLl
        go_wp2_with fail
        obtain ⟨X, hX⟩ : ∃ X, X = wr.alloc (.cells #[.int .i64 x0, .int .i64 x1, .int .i64 x2] 28) := ⟨_, rfl⟩
        have hc : Below wr.heap.size wr X := by rw [hX]; exact frame_box wr _
        have S0 : X.cell? ⟨wr.heap.size, 0, none⟩ = some (.int .i64 x0) ∧ X.cell? ⟨wr.heap.size, 1, none⟩ = some (.int .i64 x1) ∧ X.cell? ⟨wr.heap.size, 2, none⟩ = some (.int .i64 x2) := by rw [hX]; simp
        have hB1 := hB.trans (hc.mono hB.size)
        have hF1 := hF.block (hc.block _ hF.lt)
        rw [← hX]
        clear hX hc hB hF e0 e1 e2 q3
        obtain ⟨bx, hbx⟩ : ∃ bx, bx = wr.heap.size := ⟨_, rfl⟩
        rw [← hbx] at S0 ⊢
        clear hbx
        obtain ⟨c0, c1, c2⟩ := S0
        go_region_held3 (fun w' => w'.cell? ⟨bx, 0, none⟩ = some (.int .i64 x0) ∧ w'.cell? ⟨bx, 1, none⟩ = some (.int .i64 x1) ∧ w'.cell? ⟨bx, 2, none⟩ = some (.int .i64 x2))
          (first
            | exact S1
            | exact S2
            | exact S3
            | go_keep)
          ((first
            | (go_at_call 71; refine (byteOf_any x0 _ ?_ ?_).mono ?_; exact y0; exact y0'; rintro e z1 ⟨rfl, hc1⟩; have S1 := cells3 (W := X.drew) ⟨c0, c1, c2⟩ hc1; have F1 := FAt.block (w := X.drew) hF1 (hc1.block _ hF1.lt); have B1 := hB1.drew.trans (hc1.mono hB1.size))
            | (go_at_call 71; refine (byteOf_any x1 _ ?_ ?_).mono ?_; exact y1; exact y1'; rintro e z2 ⟨rfl, hc2⟩; have S2 := cells3 S1 hc2; have F2 := F1.block (hc2.block _ F1.lt); have B2 := B1.trans (hc2.mono B1.size))
            | (go_at_call 72; refine (sixBytes_any x2 _ ?_ ?_).mono ?_; exact y2; exact y2'; rintro e z3 ⟨rfl, hc3⟩; have S3 := cells3 S2 hc3; have F3 := F2.block (hc3.block _ F2.lt); have B3 := B2.trans (hc3.mono B2.size))
            | fail))
        go_wp2
        go_roundw
        case rel =>
          refine ⟨k + 1, _, by omega, by go_num, rfl, by have := HLl.out; simp [s6]; omega, ?_, B3, F3⟩
          unfold Hid
          rw [HN.out, HLL.out, List.append_assoc]
        case measure => simp [intOf]; omega
      · have ek : k = ops.length := by omega
        subst ek
        have HL2 : Hid (L ++ [byt deps.length] = encHead ⟨kind, node, id, ops, deps, ats, vals⟩ ++ encOps ops ++ [byt deps.length]) := by unfold Hid; rw [HLL.out, List.take_length]
        have p4 := hF.cell.2.2.2.2.1
        have hL1 : L.length ≤ 1000 := by omega
        have HLl : Hid (L.length = 4 + ops.length * 8) := hLl
        clear hk hlt HLL q3 F4 B4 hLl
        go_wp2_with fail
        refine (byteOf_any deps.length _ (by omega) (by omega)).mono ?_
        rintro e w3 ⟨rfl, hc⟩
        have hB3 := hB.trans (hc.mono hB.size)
        have hF3 := hF.block (hc.block _ hF.lt)
        clear hc hB hF p4
        have p4 := hF3.cell.2.2.2.2.1
        have hM0 : (L ++ [byt deps.length]).length = 5 + ops.length * 8 + 0 := by have := HLl.out; simp; omega
        go_wp2_with fail
        generalize L ++ [byt deps.length] = L2 at *
        go_loopw [5, 62] (fun u i wr => ∃ (k : Nat) (M : List UInt8), k ≤ deps.length ∧ i = .int .i64 k ∧ u = .string (str M) ∧ M.length = 5 + ops.length * 8 + k ∧ Hid (M = L2 ++ encNums (deps.take k)) ∧ Below w.heap.size w wr ∧
            FAt wr w.heap.size kind node id (.slice a3 ops.length c3) (.slice a4 deps.length c4) (.slice a5 ats.length c5) (.slice a6 vals.length c6)) (fun _ i _ => deps.length - (intOf i).toNat)
        case atStart => exact ⟨0, _, Nat.zero_le _, rfl, rfl, hM0, by simp [Hid, encNums], hB3, hF3⟩
        case round =>
          obtain ⟨k, M, hk, rfl, rfl, hMl, HMM, hB, hF⟩ := hrel
          have hM1 : M.length ≤ 1000 := by omega
          have HMl : Hid (M.length = 5 + ops.length * 8 + k) := hMl
          clear hMl
          by_cases hlt : k < deps.length
          · obtain ⟨x0, Hx, b, off, rfl, e0⟩ := h4.1.getL hB hlt
            obtain ⟨y0, y0'⟩ := d2 _ (getD_mem hlt Hx.out)
            have HN : Hid (encNums (deps.take (k + 1)) = encNums (deps.take k) ++ [byt x0]) := encNums_take hlt Hx.out
            go_wp2_with fail
            refine (byteOf_any x0 _ y0 y0').mono ?_
            rintro e w4 ⟨rfl, hc⟩
            have hB4 := hB.trans (hc.mono hB.size)
            have hF4 := hF.block (hc.block _ hF.lt)
            clear hc hB hF e0
            go_wp2
            go_roundw
            case rel =>
              refine ⟨k + 1, _, by omega, by go_num, rfl, by have := HMl.out; simp; omega, ?_, hB4, hF4⟩
              unfold Hid
              rw [HN.out, HMM.out, List.append_assoc]
            case measure => simp [intOf]; omega
          · have ek : k = deps.length := by omega
            subst ek
            have HM2 : Hid (M ++ [byt ats.length] = L2 ++ encNums deps ++ [byt ats.length]) := by unfold Hid; rw [HMM.out, List.take_length]
            have p5 := hF.cell.2.2.2.2.2.1
            clear hk hlt HMM p4 hF3 hB3
            go_wp2_with fail
            refine (byteOf_any ats.length _ (by omega) (by omega)).mono ?_
            rintro e w4 ⟨rfl, hc⟩
            have hB4 := hB.trans (hc.mono hB.size)
            have hF4 := hF.block (hc.block _ hF.lt)
            clear hc hB hF p5
            have p5 := hF4.cell.2.2.2.2.2.1
            have hN0 : (M ++ [byt ats.length]).length = 6 + ops.length * 8 + deps.length + 0 * 7 := by have := HMl.out; simp; omega
            go_wp2_with fail
            generalize M ++ [byt ats.length] = M2 at *
            go_loopw [5, 80] (fun u i wr => ∃ (k : Nat) (N : List UInt8), k ≤ ats.length ∧ i = .int .i64 k ∧ u = .string (str N) ∧ N.length = 6 + ops.length * 8 + deps.length + k * 7 ∧ Hid (N = M2 ++ encTold (ats.take k) (vals.take k)) ∧ Below w.heap.size w wr ∧
                FAt wr w.heap.size kind node id (.slice a3 ops.length c3) (.slice a4 deps.length c4) (.slice a5 ats.length c5) (.slice a6 vals.length c6)) (fun _ i _ => ats.length - (intOf i).toNat)
            case atStart => exact ⟨0, _, Nat.zero_le _, rfl, rfl, hN0, by simp [Hid, encTold], hB4, hF4⟩
            case round =>
              obtain ⟨k, N, hk, rfl, rfl, hNl, HNN, hB, hF⟩ := hrel
              have hN1 : N.length ≤ 1000 := by omega
              have HNl : Hid (N.length = 6 + ops.length * 8 + deps.length + k * 7) := hNl
              clear hNl
              by_cases hlt : k < ats.length
              · obtain ⟨x0, Hx, b, off, rfl, e0⟩ := h5.1.getL hB hlt
                obtain ⟨y0, y0'⟩ := t2 _ (getD_mem hlt Hx.out)
                have hltv : k < vals.length := by rw [HL.out]; exact hlt
                obtain ⟨x1, Hy, b', off', rfl, f0⟩ := h6.1.getL hB hltv
                obtain ⟨y1, y1'⟩ := vv _ (getD_mem hltv Hy.out)
                have HT2 : Hid (encTold (ats.take (k + 1)) (vals.take (k + 1)) = encTold (ats.take k) (vals.take k) ++ (byt x0 :: six x1)) := encTold_take hlt HL.out Hx.out Hy.out
                have s6 := six_len x1
                have hbig : ∀ m : Nat, m ≤ 1000 → ¬ 9223372036854775807 < N.length + m := fun m hm => by omega
                have hki : (0 : Int) ≤ (k : Int) := by omega
                have hka : (k : Int) < (ats.length : Int) := by omega
                have hkv : (k : Int) < (vals.length : Int) := by omega
                have r5 := hF.cell.2.2.2.2.2.1
                have r6 := hF.cell.2.2.2.2.2.2
                clear hB4 hF4 p5
                go_wp2_with fail
                go_region_held3 (fun w' => w'.cell? ⟨w.heap.size, 5, none⟩ = some (.slice (some ⟨b, off, none⟩) ats.length c5) ∧ w'.cell? ⟨w.heap.size, 6, none⟩ = some (.slice (some ⟨b', off', none⟩) vals.length c6) ∧ w'.cell? ⟨b, off + k, none⟩ = some (.int .i64 x0) ∧ w'.cell? ⟨b', off' + k, none⟩ = some (.int .i64 x1))
                  (first
                    | exact S1
                    | exact S2
                    | go_keep)
                  ((first
                    | (go_at_call 71; refine (byteOf_any x0 _ ?_ ?_).mono ?_; exact y0; exact y0'; rintro e z1 ⟨rfl, hc1⟩; have S1 := keep4 (W := wr.drew) ⟨r5, r6, e0, f0⟩ hc1; have F1 := FAt.block (w := wr.drew) hF (hc1.block _ hF.lt); have B1 := hB.drew.trans (hc1.mono hB.size))
                    | (go_at_call 72; refine (sixBytes_any x1 _ ?_ ?_).mono ?_; exact y1; exact y1'; rintro e z2 ⟨rfl, hc2⟩; have S2 := keep4 S1 hc2; have F2 := F1.block (hc2.block _ F1.lt); have B2 := B1.trans (hc2.mono B1.size))
                    | fail))
                go_wp2
                go_roundw
                case rel =>
                  refine ⟨k + 1, _, by omega, by go_num, rfl, by have := HNl.out; simp [s6]; omega, ?_, B2, F2⟩
                  unfold Hid
                  rw [HT2.out, HNN.out, List.append_assoc]
                case measure => simp [intOf]; omega
              · have ek : k = ats.length := by omega
                subst ek
                have HF : Hid (encE ⟨kind, node, id, ops, deps, ats, vals⟩ = N) := by
                  unfold Hid
                  rw [HE2.out, HNN.out, HM2.out, HL2.out, List.take_length, List.take_of_length_le (by rw [HL.out]; exact Nat.le_refl _)]
                  simp [encL, encHead]
                go_wp2
                go_ret2
                exact ⟨by rw [HF.out, HT.out]; rfl, hB⟩
  · have tg' : ¬ goodL ⟨kind, node, id, ops, deps, ats, vals⟩ = 0 := by simpa using tg
    have HE2 : Hid (encE ⟨kind, node, id, ops, deps, ats, vals⟩ = []) := by unfold Hid encE; rw [if_neg tg']
    clear tg'
    go_wp2
    go_ret2
    exact ⟨by rw [HE2.out]; rfl, hb2⟩

end Go.Proofs.Ytkoefoccbjhoiaa
