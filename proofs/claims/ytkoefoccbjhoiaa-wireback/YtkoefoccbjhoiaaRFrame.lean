/-
  The contract of the reader's frame: what it reads, good or not.
-/
import Derived.Test.YtkoefoccbjhoiaaRState
import Derived.Deep.RegionLaw
import Derived.Deep.DrawnRows
set_option linter.unusedVariables false
set_option linter.unusedSimpArgs false
namespace Go.Proofs.Ytkoefoccbjhoiaa
open Go.RowKit
attribute [local go_sem ↓] Go.wp_at_zero Go.wp_at_succ

set_option maxRecDepth 100000 in
set_option maxHeartbeats 1000000 in
theorem frame_any (c : Nat) (r : Rd) (w : World) (hr : RdAt w c r) :
    Calls Try.prog 76 #[.pointer (some ⟨c, 0, none⟩)] w fun e w' => ∃ v, e = .returned v ∧ FrameV w' v r.frame ∧ RdAt w' c r.end_ ∧ w.grownBy w' (some c) ∧ FarV w.heap.size v := by
  have hc := hr.lt
  obtain ⟨io, hio, oz0, oz1, oz2⟩ := info_parts Try.infoOp
  obtain ⟨i0, hi0, iz0, iz1, iz2⟩ := info_parts Try.infoInt
  go_enter Try.func76, Try.ntmps76
  go_wp2_with fail
  refine (small_any c r _ (hr.alloc _)).mono ?_
  rintro e w1 ⟨rfl, hr1, hb1⟩
  go_wp2_with fail
  refine (small_any c r.next _ hr1).mono ?_
  rintro e w2 ⟨rfl, hr2, hb2⟩
  go_wp2_with fail
  refine (small_any c r.next.next _ hr2).mono ?_
  rintro e w3 ⟨rfl, hr3, hb3⟩
  have F0 := Fr.start hr3 ((hb1.trans hb2).trans hb3) hc r.one r.next.one r.next.next.one
  clear hr1 hr2 hr3 hb1 hb2 hb3
  go_wp2_with fail
  generalize hB : w3.heap.size = B3 at *
  refine (small_any c r.r1 _ F0.rd).mono ?_
  rintro e w4 ⟨rfl, hr4, hb4⟩
  have F1 := F0.small hr4 hb4
  have lB : w.heap.size < B3 := F1.l3
  have hcB : c < B3 + 1 := by omega
  clear hr4 hb4 F0 hB
  have n1 : r.r1.one = ((r.r1.one.toNat : Nat) : Int) := by have := r.r1.one_lo; omega
  have n2 : r.r1.one.toNat < 256 := by have := r.r1.one_hi; omega
  have HO : Hid (Rd.ops r.r1.one.toNat r.r1.next = r.o1) := rfl
  rw [n1]
  clear n1
  generalize r.r1.one.toNat = n at *
  go_wp2_with fail
  go_loopw [13] (fun i wr => ∃ (k : Nat) (zs : List OpL) (rk : Rd) (v3 : Value), k ≤ n ∧ i = .int .i64 k ∧ zs.length = k ∧ Hid (r.o1 = (zs ++ (Rd.ops (n - k) rk).1, (Rd.ops (n - k) rk).2)) ∧
      Fr w c w.heap.size B3 r.one r.next.one r.next.next.one wr rk v3 (.slice none 0 0) (.slice none 0 0) (.slice none 0 0) ∧ wr.ownsRow (B3 + 1) 28 3 v3 k (opsCells zs)) (fun i _ => n - (intOf i).toNat)
  case atStart => exact ⟨0, [], r.r1.next, _, Nat.zero_le _, rfl, rfl, by unfold Hid; rw [← HO.out]; rfl, F1, World.ownsRow_nil _ _ _ _⟩
  case round =>
    obtain ⟨k, zs, rk, v3, hk, rfl, hzk, HR, F, hown⟩ := hrel
    have q3 := F.f.cell.2.2.2.1
    have z3 := F.f.frozen 3
    by_cases hlt : k < n
    · go_wp2_with fail
      go_region_law
        ((first
          | (go_simp; go_at_call 91; refine (small_any c rk _ ?_).mono ?_; exact F.drew.rd; rintro e x2 ⟨rfl, hr2, hb2⟩; have F2 := F.drew.small hr2 hb2; have hown2 := own_small hown.drew hb2 hcB; have q2 := F2.f.cell.2.2.2.1)
          | (go_simp; go_at_call 91; refine (small_any c rk.next _ ?_).mono ?_; exact F2.rd; rintro e x3 ⟨rfl, hr3, hb3⟩; have F3 := F2.small hr3 hb3; have hown3 := own_small hown2 hb3 hcB; have q3' := F3.f.cell.2.2.2.1)
          | (go_simp; go_at_call 92; refine (wide_any c rk.next.next _ ?_).mono ?_; exact F3.rd; rintro e x4 ⟨rfl, hr4, hb4⟩; have F4 := F3.small hr4 hb4; have hown4 := own_small hown3 hb4 hcB; have q4 := F4.f.cell.2.2.2.1; have q4a := fun o => (F4.alloc o).f.cell.2.2.2.1)
          | (refine step_append_lies _ (by rfl) _ _ _ (by rfl) (B3 + 1) 28 io _ 3 24 Try.underlying22 hio oz0 oz1 oz2 rfl (by decide) v3 k (opsCells zs) (by rfl) (hown4.alloc _)
              ⟨x4.heap.size, 0, none⟩ 1 1 (opCells (rk.one, rk.next.one, rk.next.next.wide)) (by rfl) (by rfl) (World.news_of_block (cs := #[.int .i64 rk.one, .int .i64 rk.next.one, .int .i64 rk.next.next.wide]) (t := 28) (fr := (0, 0)) (heap_new x4 _)) ?_
              (by decide) ?_ ?_ ?_ (x4.heap.size + 1) ?_ ?_
             exact one_op _
             exact len_ok hlt n2
             exact len24_ok hlt n2
             exact lt_ok F4.f.lt
             exact alloc_size _ _
             intro gg cap x5 hown5 hgrow hat hlt5
             have F5 := F4.after hown4 hgrow
             have q5 := F5.f.cell.2.2.2.1
             have z5 := F5.f.frozen 3)
          ))
      all_goals
        go_wp2
        go_roundw
        case rel =>
          exact ⟨k + 1, zs ++ [(rk.one, rk.next.one, rk.next.next.wide)], rk.next.next.next6, _, by omega, by go_num, by simp [hzk], ops_go hlt HR, F5.put3 _, by rw [opsCells_snoc]; exact ownsRow_setCell_below hown5 (by simp) _⟩
        case measure => simp [intOf]; omega
    · have E1 : Hid (r.o1 = (zs, rk)) := ops_end hlt HR
      have E2 : Hid (r.d1 = Rd.nums rk.one.toNat rk.next) := d1_start E1.out
      have ek : k = n := by omega
      have hlz : zs.length = n := by omega
      subst ek
      clear HR HO hk hlt q3 z3
      obtain ⟨wo, hwo⟩ : ∃ wo, wo = wr := ⟨_, rfl⟩
      subst hwo
      go_wp2_with fail
      refine (small_any c rk _ F.rd).mono ?_
      rintro e w5 ⟨rfl, hr5, hb5⟩
      have G0 := F.small hr5 hb5
      have own3 := own_small hown hb5 hcB
      have m1 : rk.one = ((rk.one.toNat : Nat) : Int) := by have := rk.one_lo; omega
      have m2 : rk.one.toNat < 256 := by have := rk.one_hi; omega
      rw [m1]
      clear m1 hr5 hb5 F hown
      generalize rk.one.toNat = m at *
      have lb : B3 + 1 ≤ w5.heap.size := G0.f.lt
      have lv3 : ∀ k, v3.ownBlock = some k → k < w5.heap.size := fun k h => (own3.lt k h).2
      obtain ⟨b4, hb4⟩ : ∃ b4, b4 = w5.heap.size := ⟨_, rfl⟩
      rw [← hb4] at lb lv3
      have hb4' : b4 ≤ w5.heap.size := by omega
      have hcb : c < b4 := by omega
      clear hb4
      go_wp2_with fail
      go_loopw [30] (fun i wr => ∃ (k : Nat) (ds : List Int) (rk : Rd) (v4 : Value), k ≤ m ∧ i = .int .i64 k ∧ ds.length = k ∧ Hid (r.d1 = (ds ++ (Rd.nums (m - k) rk).1, (Rd.nums (m - k) rk).2)) ∧
          Fr w c w.heap.size B3 r.one r.next.one r.next.next.one wr rk v3 v4 (.slice none 0 0) (.slice none 0 0) ∧ wr.ownsRow b4 3 1 v4 k (intCells ds) ∧ wr.ownsRow (B3 + 1) 28 3 v3 zs.length (opsCells zs) ∧ b4 ≤ wr.heap.size) (fun i _ => m - (intOf i).toNat)
      case atStart => exact ⟨0, [], rk.next, _, Nat.zero_le _, rfl, rfl, by unfold Hid; rw [E2.out]; rfl, G0, World.ownsRow_nil _ _ _ _, by rw [hlz]; exact own3, hb4'⟩
      case round =>
        obtain ⟨k2, ds, rk2, v4, hk, rfl, hzk2, HR, F, hown4, hown3, hbs⟩ := hrel
        have q3 := F.f.cell.2.2.2.2.1
        have z3 := F.f.frozen 4
        by_cases hlt : k2 < m
        · go_wp2_with fail
          go_region_law
            ((first
              | (go_simp; go_at_call 91; refine (small_any c rk2 _ ?_).mono ?_; exact F.drew.rd; rintro e x2 ⟨rfl, hr2, hb2⟩; have F2 := F.drew.small hr2 hb2; have hown2 := own_small hown4.drew hb2 hcb; have hown2' := own_small hown3.drew hb2 hcB; have q2 := F2.f.cell.2.2.2.2.1; have q2a := fun o => (F2.alloc o).f.cell.2.2.2.2.1; have lb2 := le_small hbs hb2)
              | (refine step_append_lies _ (by rfl) _ _ _ (by rfl) b4 3 i0 _ 1 8 Try.underlying32 hi0 iz0 iz1 iz2 rfl (by decide) v4 k2 (intCells ds) (by rfl) (hown2.alloc _)
                  ⟨x2.heap.size, 0, none⟩ 1 1 [.int .i64 rk2.one] (by rfl) (by rfl) (World.news_of_block (cs := #[.int .i64 rk2.one]) (t := 3) (fr := (0, 0)) (heap_new x2 _)) ?_
                  (by decide) ?_ ?_ ?_ (x2.heap.size + 1) ?_ ?_
                 exact one_int _
                 exact len_ok hlt m2
                 exact len8_ok hlt m2
                 exact le_alloc lb2
                 exact alloc_size _ _
                 intro gg cap x5 hown5 hgrow hat hlt5
                 have F5 := F2.after (own_mono hown2 lb) hgrow
                 have hown6 := own_far hown2' lv3 hown2 hgrow
                 have q5 := F5.f.cell.2.2.2.2.1
                 have z5 := F5.f.frozen 4)))
          all_goals
            go_wp2
            go_roundw
            case rel =>
              exact ⟨k2 + 1, ds ++ [rk2.one], rk2.next, _, by omega, by go_num, by simp [hzk2], nums_go hlt HR, F5.put4 _, by rw [intCells_snoc]; exact own_put hown5 (by omega), own_put hown6 (by omega), le_put (le_grown lb2 hgrow)⟩
            case measure => simp [intOf]; omega
        · have E3 : Hid (r.d1 = (ds, rk2)) := nums_end hlt HR
          have E4 : Hid (r.t1 = Rd.told rk2.one.toNat rk2.next) := t1_start E3.out
          have ek : k2 = m := by omega
          have hld : ds.length = m := by omega
          subst ek
          clear HR hk hlt q3 z3
          obtain ⟨wo2, hwo2⟩ : ∃ wo2, wo2 = wr := ⟨_, rfl⟩
          subst hwo2
          go_wp2_with fail
          refine (small_any c rk2 _ F.rd).mono ?_
          rintro e w6 ⟨rfl, hr6, hb6⟩
          have I0 := F.small hr6 hb6
          have own3' := own_small hown3 hb6 hcB
          have own4 := own_small hown4 hb6 hcb
          have m1 : rk2.one = ((rk2.one.toNat : Nat) : Int) := by have := rk2.one_lo; omega
          have p2 : rk2.one.toNat < 256 := by have := rk2.one_hi; omega
          rw [m1]
          have lb5 : b4 ≤ w6.heap.size := by rw [hb6.size]; exact hbs
          clear m1 hr6 hb6 F hown4 hown3 G0
          generalize rk2.one.toNat = p at *
          have lv3' : ∀ k, v3.ownBlock = some k → k < w6.heap.size := fun k h => (own3'.lt k h).2
          have lv4 : ∀ k, v4.ownBlock = some k → k < w6.heap.size := fun k h => (own4.lt k h).2
          obtain ⟨b5, hb5⟩ : ∃ b5, b5 = w6.heap.size := ⟨_, rfl⟩
          rw [← hb5] at lv3' lv4 lb5
          have hb5' : b5 ≤ w6.heap.size := by omega
          have hcb5 : c < b5 := by omega
          have hBb5 : B3 + 1 ≤ b5 := by omega
          clear hb5
          go_wp2_with fail
          go_loopw [42] (fun i wr => ∃ (k : Nat) (xs ys : List Int) (rk : Rd) (v5 v6 : Value), k ≤ p ∧ i = .int .i64 k ∧ xs.length = k ∧ ys.length = k ∧ Hid (r.t1 = (xs ++ (Rd.told (p - k) rk).1, ys ++ (Rd.told (p - k) rk).2.1, (Rd.told (p - k) rk).2.2)) ∧
              Fr w c w.heap.size B3 r.one r.next.one r.next.next.one wr rk v3 v4 v5 v6 ∧ wr.ownsRow b5 3 1 v5 k (intCells xs) ∧ wr.ownsRow b5 3 1 v6 k (intCells ys) ∧ (∀ k, v5.ownBlock = some k → v6.ownBlock ≠ some k) ∧
              wr.ownsRow b4 3 1 v4 ds.length (intCells ds) ∧ wr.ownsRow (B3 + 1) 28 3 v3 zs.length (opsCells zs) ∧ b5 ≤ wr.heap.size) (fun i _ => p - (intOf i).toNat)
          case atStart => exact ⟨0, [], [], rk2.next, _, _, Nat.zero_le _, rfl, rfl, rfl, by unfold Hid; rw [E4.out]; rfl, I0, World.ownsRow_nil _ _ _ _, World.ownsRow_nil _ _ _ _, by simp [Value.ownBlock], by rw [hld]; exact own4, own3', hb5'⟩
          case round =>
            obtain ⟨k3, xs, ys, rk3, v5, v6, hk, rfl, hx3, hy3, HR, F, hown5, hown6, hap, hown4, hown3, hbs5⟩ := hrel
            have q3 := F.f.cell.2.2.2.2.2.1
            have z3 := F.f.frozen 5
            have HQ : Hid (∀ k, v5.ownBlock = some k → v6.ownBlock ≠ some k) := hap
            clear hap
            by_cases hlt : k3 < p
            · go_wp2_with fail
              go_region_law
                ((first
                  | (go_simp; go_at_call 91; refine (small_any c rk3 _ ?_).mono ?_; exact F.drew.rd; rintro e x2 ⟨rfl, hr2, hb2⟩; have F2 := F.drew.small hr2 hb2; have hown2 := own_small hown5.drew hb2 hcb5; have hown2c := own_small hown6.drew hb2 hcb5; have hown2b := own_small hown4.drew hb2 hcb; have hown2a := own_small hown3.drew hb2 hcB; have q2 := F2.f.cell.2.2.2.2.2.1; have q2a := fun o => (F2.alloc o).f.cell.2.2.2.2.2.1; have lb2 := le_small hbs5 hb2)
                  | (refine step_append_lies _ (by rfl) _ _ _ (by rfl) b5 3 i0 _ 1 8 Try.underlying32 hi0 iz0 iz1 iz2 rfl (by decide) v5 k3 (intCells xs) (by rfl) (hown2.alloc _)
                      ⟨x2.heap.size, 0, none⟩ 1 1 [.int .i64 rk3.one] (by rfl) (by rfl) (World.news_of_block (cs := #[.int .i64 rk3.one]) (t := 3) (fr := (0, 0)) (heap_new x2 _)) ?_
                      (by decide) ?_ ?_ ?_ (x2.heap.size + 1) ?_ ?_
                     exact one_int _
                     exact len_ok hlt p2
                     exact len8_ok hlt p2
                     exact le_alloc lb2
                     exact alloc_size _ _
                     intro gg cap x5 hown7 hgrow hat hlt5
                     have F5 := F2.after (own_mono hown2 hBb5) hgrow
                     have hown7a := own_far hown2a lv3' hown2 hgrow
                     have hown7b := own_far hown2b lv4 hown2 hgrow
                     have hown7c := own_apart hown2c HQ.out hgrow
                     have HG : Hid (v6.ownBlock ≠ some gg) := apart_new HQ.out hown2c hat
                     have lb7 := le_grown lb2 hgrow
                     have q5 := F5.f.cell.2.2.2.2.2.1
                     have z5 := F5.f.frozen 5
                     clear hgrow hat HQ)))
              all_goals
                have F6 := F5.put5 (.slice (some ⟨gg, 0, none⟩) (k3 + 1) cap)
                have o7 := own_put (c := B3) (o := 5) (u := .slice (some ⟨gg, 0, none⟩) (k3 + 1) cap) hown7 (by omega)
                have o7a := own_put (c := B3) (o := 5) (u := .slice (some ⟨gg, 0, none⟩) (k3 + 1) cap) hown7a (by omega)
                have o7b := own_put (c := B3) (o := 5) (u := .slice (some ⟨gg, 0, none⟩) (k3 + 1) cap) hown7b (by omega)
                have o7c := own_put (c := B3) (o := 5) (u := .slice (some ⟨gg, 0, none⟩) (k3 + 1) cap) hown7c (by omega)
                have l7 := le_put (a := ⟨B3, 5, none⟩) (v := .slice (some ⟨gg, 0, none⟩) (k3 + 1) cap) lb7
                clear hown7 hown7a hown7b hown7c lb7 hown2 hown2a hown2b hown2c q2 q2a q5 z5 F5 F2 hr2 hb2 hown5 hown6 hown4 hown3 q3 z3 F
                go_wp2_with fail
                generalize x5.setCell ⟨B3, 5, none⟩ (.slice (some ⟨gg, 0, none⟩) (k3 + 1) cap) = x6 at *
                have q3 := F6.f.cell.2.2.2.2.2.2
                have z3 := F6.f.frozen 6
                go_region_law
                  ((first
                    | (go_simp; go_at_call 92; refine (wide_any c rk3.next _ ?_).mono ?_; exact F6.drew.rd; rintro e x7 ⟨rfl, hr2, hb2⟩; have F2 := F6.drew.small hr2 hb2; have hown2 := own_small o7.drew hb2 hcb5; have hown2c := own_small o7c.drew hb2 hcb5; have hown2b := own_small o7b.drew hb2 hcb; have hown2a := own_small o7a.drew hb2 hcB; have q2 := F2.f.cell.2.2.2.2.2.2; have q2a := fun o => (F2.alloc o).f.cell.2.2.2.2.2.2; have lb7 := le_small l7 hb2)
                    | (refine step_append_lies _ (by rfl) _ _ _ (by rfl) b5 3 i0 _ 1 8 Try.underlying32 hi0 iz0 iz1 iz2 rfl (by decide) v6 k3 (intCells ys) (by rfl) (hown2c.alloc _)
                        ⟨x7.heap.size, 0, none⟩ 1 1 [.int .i64 rk3.next.wide] (by rfl) (by rfl) (World.news_of_block (cs := #[.int .i64 rk3.next.wide]) (t := 3) (fr := (0, 0)) (heap_new x7 _)) ?_
                        (by decide) ?_ ?_ ?_ (x7.heap.size + 1) ?_ ?_
                       exact one_int _
                       exact len_ok hlt p2
                       exact len8_ok hlt p2
                       exact le_alloc lb7
                       exact alloc_size _ _
                       intro gh cap2 x8 hown8 hgrow hat hlt8
                       have F8 := F2.after (own_mono hown2c hBb5) hgrow
                       have hown8a := own_far hown2a lv3' hown2c hgrow
                       have hown8b := own_far hown2b lv4 hown2c hgrow
                       have hown8c := own_apart hown2 (apart_flip HG.out) hgrow
                       have HA : Hid (∀ k, (Value.slice (some ⟨gg, 0, none⟩) (k3 + 1) cap).ownBlock = some k → (Value.slice (some ⟨gh, 0, none⟩) (k3 + 1) cap2).ownBlock ≠ some k) := apart_both HG.out hown2 hat
                       have lb8 := le_grown lb7 hgrow
                       have q5 := F8.f.cell.2.2.2.2.2.2
                       have z5 := F8.f.frozen 6
                       clear hgrow hat HG)))
                all_goals
                  go_wp2
                  go_roundw
                  case rel =>
                    exact ⟨k3 + 1, xs ++ [rk3.one], ys ++ [rk3.next.wide], rk3.next.next6, _, _, by omega, by go_num, by simp [hx3], by simp [hy3], told_go hlt HR, F8.put6 _, by rw [intCells_snoc]; exact own_put hown8c (by omega), by rw [intCells_snoc]; exact own_put hown8 (by omega), HA.out, own_put hown8b (by omega), own_put hown8a (by omega), le_put lb8⟩
                  case measure => simp [intOf]; omega
            · have E5 : Hid (r.t1 = (xs, ys, rk3)) := told_end hlt HR
              have hlx : xs.length = p := by omega
              have hly : ys.length = p := by omega
              obtain ⟨a3, c3, f3, n3, o3⟩ := own_form hown3
              obtain ⟨a4, c4, f4, n4, o4⟩ := own_form hown4
              obtain ⟨a5, c5, f5, n5, o5⟩ := own_form hown5
              obtain ⟨a6, c6, f6, n6, o6⟩ := own_form hown6
              subst f3 f4 f5 f6
              obtain ⟨q0, q1, q2, q3, q4, q5, q6⟩ := F.f.cell
              obtain ⟨g0, g1, g2, g3, g4, g5, g6⟩ := F.z.cell
              have y0 := F.z.frozen 0
              have y1 := F.z.frozen 1
              have y2 := F.z.frozen 2
              have y3 := F.z.frozen 3
              have y4 := F.z.frozen 4
              have y5 := F.z.frozen 5
              have y6 := F.z.frozen 6
              have HG : Hid _ := (frame_fin F hown3 hown4 hown5 hown6 (by omega) (by omega) hx3 hy3 E1.out E3.out E5.out (x0 := .int .i64 r.one) (x1 := .int .i64 r.next.one) (x2 := .int .i64 r.next.next.one) (x3 := .slice a3 zs.length c3) (x4 := .slice a4 ds.length c4) (x5 := .slice a5 k3 c5) (x6 := .slice a6 k3 c6))
              go_wp2
              refine bodyPost_ret (v := .agg #[.int .i64 r.one, .int .i64 r.next.one, .int .i64 r.next.next.one, .slice a3 k c3, .slice a4 k2 c4, .slice a5 k3 c5, .slice a6 k3 c6]) (by simp [results, Try.results76, go_sem, *]) rfl ⟨_, rfl, ?_⟩
              have H := HG.out
              rw [hlz, hld] at H
              exact H

end Go.Proofs.Ytkoefoccbjhoiaa
