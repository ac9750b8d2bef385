/-
  The contract of the reader's frame: what it reads, good or not.
  The contract of package wire's Decode.
  The contract of node's Replay.
  What NodeLogs needs: a log is replayed, text by text; a list of texts that grows.
  How a frame that came in is read: its numbers, and where its lists lie.
  A list of frames that a call made, read one by one.
  A list of frames in memory.
  A list of frames that came in.
  The contract of the statements' own takes (januspostkeep): node answers at all.
-/
import Derived.Test.YtkoefoccbjhoiabNlo3
import Derived.Deep.RegionLaw
import Derived.Deep.DrawnRows
import Derived.Test.YtkoefoccbjhoiabNlo13
import Derived.Test.YtkoefoccbjhoiabNlo9
import Derived.Lib.SmallJoins
import Derived.ChangeMaps5
namespace Go.Proofs.Ytkoefoccbjhoiab
open Go.RowKit
attribute [local go_sem ↓] Go.wp_at_zero Go.wp_at_succ

set_option maxRecDepth 100000 in
set_option maxHeartbeats 1000000 in
theorem frame_any (c : Nat) (r : Rd) (w : World) (hr : RdAt w c r) :
    Calls Try.prog 118 #[.pointer (some ⟨c, 0, none⟩)] w fun e w' => ∃ v, e = .returned v ∧ FrameV w' v r.frame ∧ RdAt w' c r.end_ ∧ w.grownBy w' (some c) ∧ FarV w.heap.size v := by
  have hc := hr.lt
  obtain ⟨io, hio, oz0, oz1, oz2⟩ := info_parts Try.infoOp
  obtain ⟨i0, hi0, iz0, iz1, iz2⟩ := info_parts Try.infoInt
  go_enter Try.func118, Try.ntmps118
  go_wp2_with fail
  refine (small_any c r _ (hr.alloc _)).mono ?_
  rintro e w1 ⟨rfl, hr1, hb1⟩
  go_wp2_with fail
  refine (small_any c r.next _ hr1).mono ?_
  rintro e w2 ⟨rfl, hr2, hb2⟩
  go_wp2_with fail
  refine (small_any c r.next.next _ hr2).mono ?_
  rintro e w3 ⟨rfl, hr3, hb3⟩
  have F0 := Fr.start hr3 ((hb1.trans hb2).trans hb3) hc r.one r.next.one r.next.next.one
  clear hr1 hr2 hr3 hb1 hb2 hb3
  go_wp2_with fail
  generalize hB : w3.heap.size = B3 at *
  refine (small_any c r.r1 _ F0.rd).mono ?_
  rintro e w4 ⟨rfl, hr4, hb4⟩
  have F1 := F0.small hr4 hb4
  have lB : w.heap.size < B3 := F1.l3
  have hcB : c < B3 + 1 := by omega
  clear hr4 hb4 F0 hB
  have n1 : r.r1.one = ((r.r1.one.toNat : Nat) : Int) := by have := r.r1.one_lo; omega
  have n2 : r.r1.one.toNat < 256 := by have := r.r1.one_hi; omega
  have HO : Hid (Rd.ops r.r1.one.toNat r.r1.next = r.o1) := rfl
  rw [n1]
  clear n1
  generalize r.r1.one.toNat = n at *
  go_wp2_with fail
  go_loopw [13] (fun i wr => ∃ (k : Nat) (zs : List OpL) (rk : Rd) (v3 : Value), k ≤ n ∧ i = .int .i64 k ∧ zs.length = k ∧ Hid (r.o1 = (zs ++ (Rd.ops (n - k) rk).1, (Rd.ops (n - k) rk).2)) ∧
      Fr w c w.heap.size B3 r.one r.next.one r.next.next.one wr rk v3 (.slice none 0 0) (.slice none 0 0) (.slice none 0 0) ∧ wr.ownsRow (B3 + 1) 108 3 v3 k (opsCells zs)) (fun i _ => n - (intOf i).toNat)
  case atStart => exact ⟨0, [], r.r1.next, _, Nat.zero_le _, rfl, rfl, by unfold Hid; rw [← HO.out]; rfl, F1, World.ownsRow_nil _ _ _ _⟩
  case round =>
    obtain ⟨k, zs, rk, v3, hk, rfl, hzk, HR, F, hown⟩ := hrel
    have q3 := F.f.cell.2.2.2.1
    have z3 := F.f.frozen 3
    by_cases hlt : k < n
    · go_wp2_with fail
      go_region_law
        ((first
          | (go_simp; go_at_call 136; refine (small_any c rk _ ?_).mono ?_; exact F.drew.rd; rintro e x2 ⟨rfl, hr2, hb2⟩; have F2 := F.drew.small hr2 hb2; have hown2 := own_small hown.drew hb2 hcB; have q2 := F2.f.cell.2.2.2.1)
          | (go_simp; go_at_call 136; refine (small_any c rk.next _ ?_).mono ?_; exact F2.rd; rintro e x3 ⟨rfl, hr3, hb3⟩; have F3 := F2.small hr3 hb3; have hown3 := own_small hown2 hb3 hcB; have q3' := F3.f.cell.2.2.2.1)
          | (go_simp; go_at_call 137; refine (wide_any c rk.next.next _ ?_).mono ?_; exact F3.rd; rintro e x4 ⟨rfl, hr4, hb4⟩; have F4 := F3.small hr4 hb4; have hown4 := own_small hown3 hb4 hcB; have q4 := F4.f.cell.2.2.2.1; have q4a := fun o => (F4.alloc o).f.cell.2.2.2.1)
          | (refine step_append_lies _ (by rfl) _ _ _ (by rfl) (B3 + 1) 108 io _ 3 24 Try.underlying35 hio oz0 oz1 oz2 rfl (by decide) v3 k (opsCells zs) (by rfl) (hown4.alloc _)
              ⟨x4.heap.size, 0, none⟩ 1 1 (opCells (rk.one, rk.next.one, rk.next.next.wide)) (by rfl) (by rfl) (World.news_of_block (cs := #[.int .i64 rk.one, .int .i64 rk.next.one, .int .i64 rk.next.next.wide]) (t := 108) (fr := (0, 0)) (heap_new x4 _)) ?_
              (by decide) ?_ ?_ ?_ (x4.heap.size + 1) ?_ ?_
             exact one_op _
             exact len_ok hlt n2
             exact len24_ok hlt n2
             exact lt_ok F4.f.lt
             exact alloc_size _ _
             intro gg cap x5 hown5 hgrow hat hlt5
             have F5 := F4.after hown4 hgrow
             have q5 := F5.f.cell.2.2.2.1
             have z5 := F5.f.frozen 3)
          ))
      all_goals
        go_wp2
        go_roundw
        case rel =>
          exact ⟨k + 1, zs ++ [(rk.one, rk.next.one, rk.next.next.wide)], rk.next.next.next6, _, by omega, by go_num, by simp [hzk], ops_go hlt HR, F5.put3 _, by rw [opsCells_snoc]; exact ownsRow_setCell_below hown5 (by simp) _⟩
        case measure => simp [intOf]; omega
    · have E1 : Hid (r.o1 = (zs, rk)) := ops_end hlt HR
      have E2 : Hid (r.d1 = Rd.nums rk.one.toNat rk.next) := d1_start E1.out
      have ek : k = n := by omega
      have hlz : zs.length = n := by omega
      subst ek
      clear HR HO hk hlt q3 z3
      obtain ⟨wo, hwo⟩ : ∃ wo, wo = wr := ⟨_, rfl⟩
      subst hwo
      go_wp2_with fail
      refine (small_any c rk _ F.rd).mono ?_
      rintro e w5 ⟨rfl, hr5, hb5⟩
      have G0 := F.small hr5 hb5
      have own3 := own_small hown hb5 hcB
      have m1 : rk.one = ((rk.one.toNat : Nat) : Int) := by have := rk.one_lo; omega
      have m2 : rk.one.toNat < 256 := by have := rk.one_hi; omega
      rw [m1]
      clear m1 hr5 hb5 F hown
      generalize rk.one.toNat = m at *
      have lb : B3 + 1 ≤ w5.heap.size := G0.f.lt
      have lv3 : ∀ k, v3.ownBlock = some k → k < w5.heap.size := fun k h => (own3.lt k h).2
      obtain ⟨b4, hb4⟩ : ∃ b4, b4 = w5.heap.size := ⟨_, rfl⟩
      rw [← hb4] at lb lv3
      have hb4' : b4 ≤ w5.heap.size := by omega
      have hcb : c < b4 := by omega
      clear hb4
      go_wp2_with fail
      go_loopw [30] (fun i wr => ∃ (k : Nat) (ds : List Int) (rk : Rd) (v4 : Value), k ≤ m ∧ i = .int .i64 k ∧ ds.length = k ∧ Hid (r.d1 = (ds ++ (Rd.nums (m - k) rk).1, (Rd.nums (m - k) rk).2)) ∧
          Fr w c w.heap.size B3 r.one r.next.one r.next.next.one wr rk v3 v4 (.slice none 0 0) (.slice none 0 0) ∧ wr.ownsRow b4 3 1 v4 k (intCells ds) ∧ wr.ownsRow (B3 + 1) 108 3 v3 zs.length (opsCells zs) ∧ b4 ≤ wr.heap.size) (fun i _ => m - (intOf i).toNat)
      case atStart => exact ⟨0, [], rk.next, _, Nat.zero_le _, rfl, rfl, by unfold Hid; rw [E2.out]; rfl, G0, World.ownsRow_nil _ _ _ _, by rw [hlz]; exact own3, hb4'⟩
      case round =>
        obtain ⟨k2, ds, rk2, v4, hk, rfl, hzk2, HR, F, hown4, hown3, hbs⟩ := hrel
        have q3 := F.f.cell.2.2.2.2.1
        have z3 := F.f.frozen 4
        by_cases hlt : k2 < m
        · go_wp2_with fail
          go_region_law
            ((first
              | (go_simp; go_at_call 136; refine (small_any c rk2 _ ?_).mono ?_; exact F.drew.rd; rintro e x2 ⟨rfl, hr2, hb2⟩; have F2 := F.drew.small hr2 hb2; have hown2 := own_small hown4.drew hb2 hcb; have hown2' := own_small hown3.drew hb2 hcB; have q2 := F2.f.cell.2.2.2.2.1; have q2a := fun o => (F2.alloc o).f.cell.2.2.2.2.1; have lb2 := le_small hbs hb2)
              | (refine step_append_lies _ (by rfl) _ _ _ (by rfl) b4 3 i0 _ 1 8 Try.underlying23 hi0 iz0 iz1 iz2 rfl (by decide) v4 k2 (intCells ds) (by rfl) (hown2.alloc _)
                  ⟨x2.heap.size, 0, none⟩ 1 1 [.int .i64 rk2.one] (by rfl) (by rfl) (World.news_of_block (cs := #[.int .i64 rk2.one]) (t := 3) (fr := (0, 0)) (heap_new x2 _)) ?_
                  (by decide) ?_ ?_ ?_ (x2.heap.size + 1) ?_ ?_
                 exact one_int _
                 exact len_ok hlt m2
                 exact len8_ok hlt m2
                 exact le_alloc lb2
                 exact alloc_size _ _
                 intro gg cap x5 hown5 hgrow hat hlt5
                 have F5 := F2.after (own_mono hown2 lb) hgrow
                 have hown6 := own_far hown2' lv3 hown2 hgrow
                 have q5 := F5.f.cell.2.2.2.2.1
                 have z5 := F5.f.frozen 4)))
          all_goals
            go_wp2
            go_roundw
            case rel =>
              exact ⟨k2 + 1, ds ++ [rk2.one], rk2.next, _, by omega, by go_num, by simp [hzk2], nums_go hlt HR, F5.put4 _, by rw [intCells_snoc]; exact own_put hown5 (by omega), own_put hown6 (by omega), le_put (le_grown lb2 hgrow)⟩
            case measure => simp [intOf]; omega
        · have E3 : Hid (r.d1 = (ds, rk2)) := nums_end hlt HR
          have E4 : Hid (r.t1 = Rd.told rk2.one.toNat rk2.next) := t1_start E3.out
          have ek : k2 = m := by omega
          have hld : ds.length = m := by omega
          subst ek
          clear HR hk hlt q3 z3
          obtain ⟨wo2, hwo2⟩ : ∃ wo2, wo2 = wr := ⟨_, rfl⟩
          subst hwo2
          go_wp2_with fail
          refine (small_any c rk2 _ F.rd).mono ?_
          rintro e w6 ⟨rfl, hr6, hb6⟩
          have I0 := F.small hr6 hb6
          have own3' := own_small hown3 hb6 hcB
          have own4 := own_small hown4 hb6 hcb
          have m1 : rk2.one = ((rk2.one.toNat : Nat) : Int) := by have := rk2.one_lo; omega
          have p2 : rk2.one.toNat < 256 := by have := rk2.one_hi; omega
          rw [m1]
          have lb5 : b4 ≤ w6.heap.size := by rw [hb6.size]; exact hbs
          clear m1 hr6 hb6 F hown4 hown3 G0
          generalize rk2.one.toNat = p at *
          have lv3' : ∀ k, v3.ownBlock = some k → k < w6.heap.size := fun k h => (own3'.lt k h).2
          have lv4 : ∀ k, v4.ownBlock = some k → k < w6.heap.size := fun k h => (own4.lt k h).2
          obtain ⟨b5, hb5⟩ : ∃ b5, b5 = w6.heap.size := ⟨_, rfl⟩
          rw [← hb5] at lv3' lv4 lb5
          have hb5' : b5 ≤ w6.heap.size := by omega
          have hcb5 : c < b5 := by omega
          have hBb5 : B3 + 1 ≤ b5 := by omega
          clear hb5
          go_wp2_with fail
          go_loopw [42] (fun i wr => ∃ (k : Nat) (xs ys : List Int) (rk : Rd) (v5 v6 : Value), k ≤ p ∧ i = .int .i64 k ∧ xs.length = k ∧ ys.length = k ∧ Hid (r.t1 = (xs ++ (Rd.told (p - k) rk).1, ys ++ (Rd.told (p - k) rk).2.1, (Rd.told (p - k) rk).2.2)) ∧
              Fr w c w.heap.size B3 r.one r.next.one r.next.next.one wr rk v3 v4 v5 v6 ∧ wr.ownsRow b5 3 1 v5 k (intCells xs) ∧ wr.ownsRow b5 3 1 v6 k (intCells ys) ∧ (∀ k, v5.ownBlock = some k → v6.ownBlock ≠ some k) ∧
              wr.ownsRow b4 3 1 v4 ds.length (intCells ds) ∧ wr.ownsRow (B3 + 1) 108 3 v3 zs.length (opsCells zs) ∧ b5 ≤ wr.heap.size) (fun i _ => p - (intOf i).toNat)
          case atStart => exact ⟨0, [], [], rk2.next, _, _, Nat.zero_le _, rfl, rfl, rfl, by unfold Hid; rw [E4.out]; rfl, I0, World.ownsRow_nil _ _ _ _, World.ownsRow_nil _ _ _ _, by simp [Value.ownBlock], by rw [hld]; exact own4, own3', hb5'⟩
          case round =>
            obtain ⟨k3, xs, ys, rk3, v5, v6, hk, rfl, hx3, hy3, HR, F, hown5, hown6, hap, hown4, hown3, hbs5⟩ := hrel
            have q3 := F.f.cell.2.2.2.2.2.1
            have z3 := F.f.frozen 5
            have HQ : Hid (∀ k, v5.ownBlock = some k → v6.ownBlock ≠ some k) := hap
            clear hap
            by_cases hlt : k3 < p
            · go_wp2_with fail
              go_region_law
                ((first
                  | (go_simp; go_at_call 136; refine (small_any c rk3 _ ?_).mono ?_; exact F.drew.rd; rintro e x2 ⟨rfl, hr2, hb2⟩; have F2 := F.drew.small hr2 hb2; have hown2 := own_small hown5.drew hb2 hcb5; have hown2c := own_small hown6.drew hb2 hcb5; have hown2b := own_small hown4.drew hb2 hcb; have hown2a := own_small hown3.drew hb2 hcB; have q2 := F2.f.cell.2.2.2.2.2.1; have q2a := fun o => (F2.alloc o).f.cell.2.2.2.2.2.1; have lb2 := le_small hbs5 hb2)
                  | (refine step_append_lies _ (by rfl) _ _ _ (by rfl) b5 3 i0 _ 1 8 Try.underlying23 hi0 iz0 iz1 iz2 rfl (by decide) v5 k3 (intCells xs) (by rfl) (hown2.alloc _)
                      ⟨x2.heap.size, 0, none⟩ 1 1 [.int .i64 rk3.one] (by rfl) (by rfl) (World.news_of_block (cs := #[.int .i64 rk3.one]) (t := 3) (fr := (0, 0)) (heap_new x2 _)) ?_
                      (by decide) ?_ ?_ ?_ (x2.heap.size + 1) ?_ ?_
                     exact one_int _
                     exact len_ok hlt p2
                     exact len8_ok hlt p2
                     exact le_alloc lb2
                     exact alloc_size _ _
                     intro gg cap x5 hown7 hgrow hat hlt5
                     have F5 := F2.after (own_mono hown2 hBb5) hgrow
                     have hown7a := own_far hown2a lv3' hown2 hgrow
                     have hown7b := own_far hown2b lv4 hown2 hgrow
                     have hown7c := own_apart hown2c HQ.out hgrow
                     have HG : Hid (v6.ownBlock ≠ some gg) := apart_new HQ.out hown2c hat
                     have lb7 := le_grown lb2 hgrow
                     have q5 := F5.f.cell.2.2.2.2.2.1
                     have z5 := F5.f.frozen 5
                     clear hgrow hat HQ)))
              all_goals
                have F6 := F5.put5 (.slice (some ⟨gg, 0, none⟩) (k3 + 1) cap)
                have o7 := own_put (c := B3) (o := 5) (u := .slice (some ⟨gg, 0, none⟩) (k3 + 1) cap) hown7 (by omega)
                have o7a := own_put (c := B3) (o := 5) (u := .slice (some ⟨gg, 0, none⟩) (k3 + 1) cap) hown7a (by omega)
                have o7b := own_put (c := B3) (o := 5) (u := .slice (some ⟨gg, 0, none⟩) (k3 + 1) cap) hown7b (by omega)
                have o7c := own_put (c := B3) (o := 5) (u := .slice (some ⟨gg, 0, none⟩) (k3 + 1) cap) hown7c (by omega)
                have l7 := le_put (a := ⟨B3, 5, none⟩) (v := .slice (some ⟨gg, 0, none⟩) (k3 + 1) cap) lb7
                clear hown7 hown7a hown7b hown7c lb7 hown2 hown2a hown2b hown2c q2 q2a q5 z5 F5 F2 hr2 hb2 hown5 hown6 hown4 hown3 q3 z3 F
                go_wp2_with fail
                generalize x5.setCell ⟨B3, 5, none⟩ (.slice (some ⟨gg, 0, none⟩) (k3 + 1) cap) = x6 at *
                have q3 := F6.f.cell.2.2.2.2.2.2
                have z3 := F6.f.frozen 6
                go_region_law
                  ((first
                    | (go_simp; go_at_call 137; refine (wide_any c rk3.next _ ?_).mono ?_; exact F6.drew.rd; rintro e x7 ⟨rfl, hr2, hb2⟩; have F2 := F6.drew.small hr2 hb2; have hown2 := own_small o7.drew hb2 hcb5; have hown2c := own_small o7c.drew hb2 hcb5; have hown2b := own_small o7b.drew hb2 hcb; have hown2a := own_small o7a.drew hb2 hcB; have q2 := F2.f.cell.2.2.2.2.2.2; have q2a := fun o => (F2.alloc o).f.cell.2.2.2.2.2.2; have lb7 := le_small l7 hb2)
                    | (refine step_append_lies _ (by rfl) _ _ _ (by rfl) b5 3 i0 _ 1 8 Try.underlying23 hi0 iz0 iz1 iz2 rfl (by decide) v6 k3 (intCells ys) (by rfl) (hown2c.alloc _)
                        ⟨x7.heap.size, 0, none⟩ 1 1 [.int .i64 rk3.next.wide] (by rfl) (by rfl) (World.news_of_block (cs := #[.int .i64 rk3.next.wide]) (t := 3) (fr := (0, 0)) (heap_new x7 _)) ?_
                        (by decide) ?_ ?_ ?_ (x7.heap.size + 1) ?_ ?_
                       exact one_int _
                       exact len_ok hlt p2
                       exact len8_ok hlt p2
                       exact le_alloc lb7
                       exact alloc_size _ _
                       intro gh cap2 x8 hown8 hgrow hat hlt8
                       have F8 := F2.after (own_mono hown2c hBb5) hgrow
                       have hown8a := own_far hown2a lv3' hown2c hgrow
                       have hown8b := own_far hown2b lv4 hown2c hgrow
                       have hown8c := own_apart hown2 (apart_flip HG.out) hgrow
                       have HA : Hid (∀ k, (Value.slice (some ⟨gg, 0, none⟩) (k3 + 1) cap).ownBlock = some k → (Value.slice (some ⟨gh, 0, none⟩) (k3 + 1) cap2).ownBlock ≠ some k) := apart_both HG.out hown2 hat
                       have lb8 := le_grown lb7 hgrow
                       have q5 := F8.f.cell.2.2.2.2.2.2
                       have z5 := F8.f.frozen 6
                       clear hgrow hat HG)))
                all_goals
                  go_wp2
                  go_roundw
                  case rel =>
                    exact ⟨k3 + 1, xs ++ [rk3.one], ys ++ [rk3.next.wide], rk3.next.next6, _, _, by omega, by go_num, by simp [hx3], by simp [hy3], told_go hlt HR, F8.put6 _, by rw [intCells_snoc]; exact own_put hown8c (by omega), by rw [intCells_snoc]; exact own_put hown8 (by omega), HA.out, own_put hown8b (by omega), own_put hown8a (by omega), le_put lb8⟩
                  case measure => simp [intOf]; omega
            · have E5 : Hid (r.t1 = (xs, ys, rk3)) := told_end hlt HR
              have hlx : xs.length = p := by omega
              have hly : ys.length = p := by omega
              obtain ⟨a3, c3, f3, n3, o3⟩ := own_form hown3
              obtain ⟨a4, c4, f4, n4, o4⟩ := own_form hown4
              obtain ⟨a5, c5, f5, n5, o5⟩ := own_form hown5
              obtain ⟨a6, c6, f6, n6, o6⟩ := own_form hown6
              subst f3 f4 f5 f6
              obtain ⟨q0, q1, q2, q3, q4, q5, q6⟩ := F.f.cell
              obtain ⟨g0, g1, g2, g3, g4, g5, g6⟩ := F.z.cell
              have y0 := F.z.frozen 0
              have y1 := F.z.frozen 1
              have y2 := F.z.frozen 2
              have y3 := F.z.frozen 3
              have y4 := F.z.frozen 4
              have y5 := F.z.frozen 5
              have y6 := F.z.frozen 6
              have HG : Hid _ := (frame_fin F hown3 hown4 hown5 hown6 (by omega) (by omega) hx3 hy3 E1.out E3.out E5.out (x0 := .int .i64 r.one) (x1 := .int .i64 r.next.one) (x2 := .int .i64 r.next.next.one) (x3 := .slice a3 zs.length c3) (x4 := .slice a4 ds.length c4) (x5 := .slice a5 k3 c5) (x6 := .slice a6 k3 c6))
              go_wp2
              refine bodyPost_ret (v := .agg #[.int .i64 r.one, .int .i64 r.next.one, .int .i64 r.next.next.one, .slice a3 k c3, .slice a4 k2 c4, .slice a5 k3 c5, .slice a6 k3 c6]) (by simp [results, Try.results118, go_sem, *]) rfl ⟨_, rfl, ?_⟩
              have H := HG.out
              rw [hlz, hld] at H
              exact H

end Go.Proofs.Ytkoefoccbjhoiab

namespace Go.Proofs.Ytkoefoccbjhoiab
open Go.RowKit

theorem SlInts.beside {w w' : World} {b : Nat} {a : Option Addr} {cap : Nat} {zs : List Int} (h : SlInts w a cap zs) (hf : ∀ x, a = some x → b < x.block) (hs : w.heap.size ≤ w'.heap.size) (hb : ∀ k, b < k → k < w.heap.size → w'.heap[k]? = w.heap[k]?) : SlInts w' a cap zs := by
  refine ⟨?_, h.2⟩
  rcases h.1 with h1 | ⟨g, off, ha, hg, hc⟩
  · exact Or.inl h1
  · have := hf _ ha
    refine Or.inr ⟨g, off, ha, Nat.lt_of_lt_of_le hg hs, fun i hi => ?_⟩
    rw [World.cell?_of_block (w := w) (a := ⟨g, off + i, none⟩) (hb g this hg)]
    exact hc i hi
theorem SlOps.beside {w w' : World} {b : Nat} {a : Option Addr} {cap : Nat} {zs : List OpL} (h : SlOps w a cap zs) (hf : ∀ x, a = some x → b < x.block) (hs : w.heap.size ≤ w'.heap.size) (hb : ∀ k, b < k → k < w.heap.size → w'.heap[k]? = w.heap[k]?) : SlOps w' a cap zs := by
  refine ⟨?_, h.2⟩
  rcases h.1 with h1 | ⟨g, off, ha, hg, hc⟩
  · exact Or.inl h1
  · have := hf _ ha
    refine Or.inr ⟨g, off, ha, Nat.lt_of_lt_of_le hg hs, fun i hi => ?_⟩
    rw [World.cell?_of_block (w := w) (a := ⟨g, off + i * 3, none⟩) (hb g this hg), World.cell?_of_block (w := w) (a := ⟨g, off + i * 3 + 1, none⟩) (hb g this hg), World.cell?_of_block (w := w) (a := ⟨g, off + i * 3 + 2, none⟩) (hb g this hg)]
    exact hc i hi
theorem FrameV.beside {w w' : World} {b : Nat} {v : Value} {f : FrameL} (h : FrameV w v f) (hf : FarV (b + 1) v) (hs : w.heap.size ≤ w'.heap.size) (hb : ∀ k, b < k → k < w.heap.size → w'.heap[k]? = w.heap[k]?) : FrameV w' v f := by
  obtain ⟨a3, c3, a4, c4, a5, c5, a6, c6, e, h3, h4, h5, h6⟩ := h
  have g := hf _ e
  exact ⟨a3, c3, a4, c4, a5, c5, a6, c6, e, h3.beside (fun x hx => g 3 x _ _ (by rw [hx]; rfl)) hs hb, h4.beside (fun x hx => g 4 x _ _ (by rw [hx]; rfl)) hs hb, h5.beside (fun x hx => g 5 x _ _ (by rw [hx]; rfl)) hs hb, h6.beside (fun x hx => g 6 x _ _ (by rw [hx]; rfl)) hs hb⟩

theorem put7_below {w w1 : World} {b B : Nat} {x0 x1 x2 x3 x4 x5 x6 : Value} (h : Below B w w1) (hb : B ≤ b) : Below B w (put7 w1 b x0 x1 x2 x3 x4 x5 x6) :=
  ((((((h.setCell hb _).setCell hb _).setCell hb _).setCell hb _).setCell hb _).setCell hb _).setCell hb _
theorem zero_frame (w : World) : FrameV w (.agg #[.int .i64 0, .int .i64 0, .int .i64 0, .slice none 0 0, .slice none 0 0, .slice none 0 0, .slice none 0 0]) zeroF :=
  ⟨none, 0, none, 0, none, 0, none, 0, rfl, ⟨Or.inl rfl, Nat.zero_le _, Nat.le_refl _, fun _ => ⟨rfl, rfl⟩⟩, ⟨Or.inl rfl, Nat.zero_le _, Nat.le_refl _, fun _ => ⟨rfl, rfl⟩⟩, ⟨Or.inl rfl, Nat.zero_le _, Nat.le_refl _, fun _ => ⟨rfl, rfl⟩⟩, ⟨Or.inl rfl, Nat.zero_le _, Nat.le_refl _, fun _ => ⟨rfl, rfl⟩⟩⟩

set_option maxRecDepth 100000 in
set_option maxHeartbeats 2000000 in
theorem decode_any (l : List UInt8) (w : World) :
    Calls Try.prog 84 #[.string (str l)] w fun e w' => ∃ v, e = .returned (.tuple #[v, .int .i64 (decE l)]) ∧ FrameV w' v (decL l) ∧ Below w.heap.size w w' := by
  have HK : Hid (okL l = (!((⟨l, false⟩ : Rd).end_.short || !(⟨l, false⟩ : Rd).end_.rest.isEmpty) && (goodL (⟨l, false⟩ : Rd).frame == 0))) := rfl
  have HD : Hid (decL l = if okL l = true then (⟨l, false⟩ : Rd).frame else zeroF) := rfl
  have HE : Hid (decE l = if okL l = true then 0 else 1) := rfl
  obtain ⟨r, hr⟩ : ∃ r : Rd, r = ⟨l, false⟩ := ⟨_, rfl⟩
  rw [← hr] at HK HD
  go_enter Try.func84, Try.ntmps84
  go_wp2_with fail
  have hrd : RdAt ((w.alloc (.cells #[.int .i64 0, .int .i64 0, .int .i64 0, .slice none 0 0, .slice none 0 0, .slice none 0 0, .slice none 0 0] 43)).alloc (.cells #[.string (str l), .bool false] 134)) (w.heap.size + 1) r := by rw [hr]; exact ⟨_, heap_new2 _ _ _⟩
  refine (frame_any (w.heap.size + 1) r _ hrd).mono ?_
  rintro e w1 ⟨v1, rfl, hv1, hr1, hg1, hfar⟩
  have hz1 : FAt w1 w.heap.size 0 0 0 (.slice none 0 0) (.slice none 0 0) (.slice none 0 0) (.slice none 0 0) :=
    ⟨43, by rw [hg1.block w.heap.size (by rw [alloc_size, alloc_size]; omega) (by simp), Below.heap_alloc _ _ _ (by rw [alloc_size]; omega), heap_new]⟩
  have hB1 : Below w.heap.size w w1 := (((Below.refl w.heap.size w).alloc (Nat.le_refl _) _).alloc (by rw [alloc_size]; omega) _).grown hg1 (by rw [alloc_size, alloc_size]; omega) (by simp)
  have hl1 : w.heap.size + 1 + 1 ≤ w1.heap.size := by have := hg1.size; rw [alloc_size, alloc_size] at this; exact this
  have hfar1 : FarV (w.heap.size + 1) v1 := fun cs h i x n c hx => by have := hfar cs h i x n c hx; rw [alloc_size, alloc_size] at this; omega
  clear hg1 hfar hrd
  generalize r.frame = f at *
  generalize r.end_ = rn at *
  obtain ⟨a3, c3, a4, c4, a5, c5, a6, c6, e1, hs⟩ := id hv1
  obtain ⟨kind, node, id, ops, deps, ats, vals⟩ := f
  simp only at e1
  subst e1
  clear hs hr
  have hr2 := fun o => hr1.alloc o
  have hv2 := fun o => hv1.later (frame_box w1 o)
  have hz2 := fun o => hz1.block (w' := w1.alloc o) (Below.heap_alloc _ _ _ hz1.lt)
  have hB2 := fun o => hB1.alloc (o := o) (by omega)
  have hne : ¬ w.heap.size + 1 = w1.heap.size := by omega
  have hne' : ¬ w.heap.size = w1.heap.size := by omega
  have s2 := fun o => (hr2 o).short
  have t2 := fun o => (hr2 o).rest
  have g0 := fun o => (hz2 o).cell.1
  have g1 := fun o => (hz2 o).cell.2.1
  have g2 := fun o => (hz2 o).cell.2.2.1
  have g3 := fun o => (hz2 o).cell.2.2.2.1
  have g4 := fun o => (hz2 o).cell.2.2.2.2.1
  have g5 := fun o => (hz2 o).cell.2.2.2.2.2.1
  have g6 := fun o => (hz2 o).cell.2.2.2.2.2.2
  have y0 := fun o => (hz2 o).frozen 0
  have y1 := fun o => (hz2 o).frozen 1
  have y2 := fun o => (hz2 o).frozen 2
  have y3 := fun o => (hz2 o).frozen 3
  have y4 := fun o => (hz2 o).frozen 4
  have y5 := fun o => (hz2 o).frozen 5
  have y6 := fun o => (hz2 o).frozen 6
  obtain ⟨rest, short⟩ := rn
  clear hr2 hr1
  cases short with
  | true =>
    have E : Hid (okL l = false) := by unfold Hid; rw [HK.out]; rfl
    have E1 : Hid (decE l = 1) := by unfold Hid; rw [HE.out, E.out]; rfl
    have E2 : Hid (decL l = zeroF) := by unfold Hid; rw [HD.out, E.out]; rfl
    clear HK HD HE
    go_wp2
    refine bodyPost_ret (v := .tuple #[.agg #[.int .i64 0, .int .i64 0, .int .i64 0, .slice none 0 0, .slice none 0 0, .slice none 0 0, .slice none 0 0], .int .i64 1]) (by simp [results, Try.results84, go_sem, *]) rfl ⟨_, by rw [E1.out], by rw [E2.out]; exact zero_frame _, ?_⟩
    exact put7_below (hB2 _) (Nat.le_refl _)
  | false =>
    cases rest with
    | cons x t =>
      have E : Hid (okL l = false) := by unfold Hid; rw [HK.out]; rfl
      have E1 : Hid (decE l = 1) := by unfold Hid; rw [HE.out, E.out]; rfl
      have E2 : Hid (decL l = zeroF) := by unfold Hid; rw [HD.out, E.out]; rfl
      have e0 := str_empty (x :: t)
      clear HK HD HE
      go_wp2
      refine bodyPost_ret (v := .tuple #[.agg #[.int .i64 0, .int .i64 0, .int .i64 0, .slice none 0 0, .slice none 0 0, .slice none 0 0, .slice none 0 0], .int .i64 1]) (by simp [results, Try.results84, go_sem, *]) rfl ⟨_, by rw [E1.out], by rw [E2.out]; exact zero_frame _, ?_⟩
      exact put7_below (hB2 _) (Nat.le_refl _)
    | nil =>
      have e0 := str_empty []
      have f2 : FAt (w1.alloc (.cells #[.int .i64 kind, .int .i64 node, .int .i64 id, .slice a3 ops.length c3, .slice a4 deps.length c4, .slice a5 ats.length c5, .slice a6 vals.length c6] 43)) w1.heap.size kind node id (.slice a3 ops.length c3) (.slice a4 deps.length c4) (.slice a5 ats.length c5) (.slice a6 vals.length c6) := ⟨_, heap_new _ _⟩
      go_wp2_with fail
      refine (wgood_any _ _ _ (hv2 _)).mono ?_
      rintro e w3 ⟨rfl, hc⟩
      have hB3 := (hB2 (.cells #[.int .i64 kind, .int .i64 node, .int .i64 id, .slice a3 ops.length c3, .slice a4 deps.length c4, .slice a5 ats.length c5, .slice a6 vals.length c6] 43)).trans (hc.mono (by rw [alloc_size]; omega))
      have hz3 := (hz2 (.cells #[.int .i64 kind, .int .i64 node, .int .i64 id, .slice a3 ops.length c3, .slice a4 deps.length c4, .slice a5 ats.length c5, .slice a6 vals.length c6] 43)).block (hc.block _ (by rw [alloc_size]; omega))
      have hv3 := (hv2 (.cells #[.int .i64 kind, .int .i64 node, .int .i64 id, .slice a3 ops.length c3, .slice a4 deps.length c4, .slice a5 ats.length c5, .slice a6 vals.length c6] 43)).later hc
      have f3 := f2.block (hc.block _ f2.lt)
      clear hc f2 hB2 hz2 hv2 g0 g1 g2 g3 g4 g5 g6 y0 y1 y2 y3 y4 y5 y6 s2 t2 hB1 hz1 hv1
      obtain ⟨q0, q1, q2, q3, q4, q5, q6⟩ := f3.cell
      obtain ⟨g0, g1, g2, g3, g4, g5, g6⟩ := hz3.cell
      have y0 := hz3.frozen 0
      have y1 := hz3.frozen 1
      have y2 := hz3.frozen 2
      have y3 := hz3.frozen 3
      have y4 := hz3.frozen 4
      have y5 := hz3.frozen 5
      have y6 := hz3.frozen 6
      clear e0
      cases tg : goodL ⟨kind, node, id, ops, deps, ats, vals⟩ != 0
      · have E : Hid (okL l = true) := by unfold Hid; rw [HK.out]; simp at tg; simp [tg]
        have E1 : Hid (decE l = 0) := by unfold Hid; rw [HE.out, E.out]; rfl
        have E2 : Hid (decL l = ⟨kind, node, id, ops, deps, ats, vals⟩) := by unfold Hid; rw [HD.out, E.out]; rfl
        have HV : Hid (∀ x0 x1 x2 x3 x4 x5 x6, FrameV (put7 w3 w.heap.size x0 x1 x2 x3 x4 x5 x6) _ _) := fun x0 x1 x2 x3 x4 x5 x6 => hv3.beside (b := w.heap.size) hfar1 (by simp [put7, World.setCell]) (fun k hk _ => put7_block (by omega))
        clear HK HD HE hv3 hfar1
        go_wp2
        refine bodyPost_ret (v := .tuple #[.agg #[.int .i64 kind, .int .i64 node, .int .i64 id, .slice a3 ops.length c3, .slice a4 deps.length c4, .slice a5 ats.length c5, .slice a6 vals.length c6], .int .i64 0]) (by simp [results, Try.results84, go_sem, *]) rfl ⟨_, by rw [E1.out], by rw [E2.out]; exact HV.out _ _ _ _ _ _ _, ?_⟩
        exact put7_below hB3 (Nat.le_refl _)
      · have E : Hid (okL l = false) := by unfold Hid; rw [HK.out]; simp at tg; simp [tg]
        have E1 : Hid (decE l = 1) := by unfold Hid; rw [HE.out, E.out]; rfl
        have E2 : Hid (decL l = zeroF) := by unfold Hid; rw [HD.out, E.out]; rfl
        clear HK HD HE hv3 hfar1
        go_wp2
        refine bodyPost_ret (v := .tuple #[.agg #[.int .i64 0, .int .i64 0, .int .i64 0, .slice none 0 0, .slice none 0 0, .slice none 0 0, .slice none 0 0], .int .i64 1]) (by simp [results, Try.results84, go_sem, *]) rfl ⟨_, by rw [E1.out], by rw [E2.out]; exact zero_frame _, ?_⟩
        exact put7_below hB3 (Nat.le_refl _)

end Go.Proofs.Ytkoefoccbjhoiab

namespace Go.Proofs.Ytkoefoccbjhoiab
open Go.RowKit

/-- P5.4. -/
def replayFrom (who : Int) : NodeL → List (List UInt8) → NodeL × Int
  | s, [] => (s, 0)
  | s, t :: r => if decE t ≠ 0 then (zeroN, decE t) else if (takeN s who (decL t)).2.2 ≠ 0 then (zeroN, (takeN s who (decL t)).2.2) else replayFrom who (takeN s who (decL t)).1 r
def replayN (who : Int) (l : List (List UInt8)) : NodeL × Int := if nodeB who = false then (zeroN, 2) else replayFrom who zeroN l

/-- A list of texts in memory. -/
def TxIn (B : Nat) (w : World) (a : Option Addr) (zs : List (List UInt8)) : Prop := zs = [] ∨ ∃ b off, a = some ⟨b, off, none⟩ ∧ b < B ∧ ∀ i, i < zs.length → w.cell? ⟨b, off + i, none⟩ = some (.string (str (zs.getD i [])))
theorem drop_tx {zs : List (List UInt8)} {k : Nat} {t : List UInt8} (hk : k < zs.length) (ht : zs.getD k [] = t) : zs.drop k = t :: zs.drop (k + 1) := by
  rw [List.drop_eq_getElem_cons hk]
  have : zs[k] = t := by rw [← ht]; simp [List.getD, hk]
  rw [this]

theorem results_row1 {P : Program} {fn : Func} {p q : Tmp} {ty : TypeId} (h : fn.results = #[.cell p ty, .tmp q]) (tmps : Array Value) (w : World) (g : Nat) (t : TypeId) (cs : Array Value) (fr : Nat × Nat) (d : TypeDesc)
    (hp : tmps.getD p undef = .pointer (some ⟨g, 0, none⟩)) (hg : w.heap[g]? = some (.cells cs t fr)) (hu : P.underlying ty = some d) (hd : (match d with | .struct _ | .array _ _ => true | _ => false) = true) (hi : (P.info? ty).map (·.size) = some cs.size)
    (x : Value) (hx : tmps.getD q undef = x) : (results fn tmps).run P w = .ok (.tuple #[.agg cs, x]) w := by
  have hp' : tmps[p]?.getD undef = .pointer (some ⟨g, 0, none⟩) := by simpa using hp
  have hx' : tmps[q]?.getD undef = x := by simpa using hx
  simp [results, h, hp', hx', asAddr, run_loadVar_row w g t ty cs fr d hg hu hd hi]

set_option maxRecDepth 100000 in
set_option maxHeartbeats 2000000 in
theorem replay_new (who : Int) (a : Option Addr) (cap : Nat) (zs : List (List UInt8)) (w : World) (hl : zs.length ≤ maxLen) (hz : TxIn w.heap.size w a zs) :
    Calls Try.prog 31 #[.int .i64 who, .slice a zs.length cap] w fun r w' => ∃ nv', r = .returned (.tuple #[.agg (rowF 201 nv'), .int .i64 (replayN who zs).2]) ∧ NodeC (fun b => w.heap.size < b) w' nv' (replayN who zs).1 ∧ Below w.heap.size w w' := by
  unfold maxLen at hl
  obtain ⟨zr, hzr⟩ : ∃ zr, zr = rowF 201 zv := ⟨_, rfl⟩
  have hz0 := Try.zeroNode
  rw [← hzr] at hz0
  have hzc := Try.zcNode
  rw [← hzr] at hzc
  have hsz : (Try.prog.info? 41).map (·.size) = some zr.size := by rw [hzr, rowF_size]; exact Try.infoNode
  have honz : zr.all (·.oneCell') = true := by rw [hzr]; exact rowF_all (zero_node (fun _ => True) w).one
  have HZR : Hid (zr = rowF 201 zv) := hzr
  obtain ⟨R, hR⟩ : ∃ R, R = replayN who zs := ⟨_, rfl⟩
  have HR : Hid (R = replayN who zs) := hR
  rw [← hR]
  have HZ : Hid (TxIn w.heap.size w a zs) := hz
  clear hzr hR hz
  cases tn : nodeB who
  · have E : Hid (R = (zeroN, 2)) := by unfold Hid; rw [HR.out]; unfold replayN; rw [if_pos tn]
    have r0 : (w.alloc (.cells zr 41)).heap[w.heap.size]? = some (.cells zr 41 (0, 0)) := heap_new _ _
    have hb : Below w.heap.size w ((w.alloc (.cells zr 41)).setRow w.heap.size zr) := setRow_below ((Below.refl _ _).alloc (Nat.le_refl _) _) (Nat.le_refl _) _
    go_enter Try.func31, Try.ntmps31
    go_wp2_with (first
      | (go_at_call 83; refine (isNode_any _ _).mono ?_; rintro e w' ⟨rfl, hw⟩; rw [hw]; clear hw)
      | (refine wpList_alloc_as rfl 41 rfl zr hz0 ?_)
      | (refine wpList_store_row rfl 41 _ _ rfl w.heap.size zr rfl rfl 41 _ r0 hsz rfl honz ?_))
    refine bodyPost_ret (v := .tuple #[.agg zr, .int .i64 2]) (results_row1 Try.results31 _ _ w.heap.size 41 zr (0, 0) _ rfl (heap_setRow r0) Try.underlying41 rfl hsz _ rfl) rfl ⟨zv, by rw [HZR.out, E.out], by rw [E.out]; exact zero_node _ _, hb⟩
  · have E : Hid (R = replayFrom who zeroN zs) := by unfold Hid; rw [HR.out]; unfold replayN; rw [if_neg (by rw [tn]; decide)]
    obtain ⟨W, hW⟩ : ∃ W, W = (w.alloc (.cells zr 41)).alloc (.cells zr 41) := ⟨_, rfl⟩
    obtain ⟨r0, r1⟩ := two_rows w (.cells zr 41) (.cells zr 41)
    rw [← hW] at r0 r1
    have hbW : Below w.heap.size w W := by rw [hW]; exact ((Below.refl _ _).alloc (Nat.le_refl _) _).alloc (by rw [size_push]; omega) _
    have HW : Hid (W = (w.alloc (.cells zr 41)).alloc (.cells zr 41)) := hW
    have hzW : W.heap.size = w.heap.size + 2 := by rw [hW, size_push, size_push]
    have HN0 : Hid (NodeC (fun b => w.heap.size + 1 < b) W zv zeroN) := zero_node _ _
    clear hW
    go_enter Try.func31, Try.ntmps31
    go_upto_region 4 with (first
      | (go_at_call 83; refine (isNode_any _ _).mono ?_; rintro e w' ⟨rfl, hw⟩; rw [hw]; clear hw)
      | (refine wpList_alloc_as rfl 41 rfl zr hz0 ?_))
    rw [← HW.out]
    clear HW
    go_wp2_with fail
    go_loopw [17] (fun i wr => ∃ (k : Nat) (mv : Nat → Value) (s : NodeL), k ≤ zs.length ∧ i = .int .i64 k ∧ wr.heap[w.heap.size]? = some (.cells zr 41 (0, 0)) ∧ Hid (wr.heap[w.heap.size + 1]? = some (.cells (rowF 201 mv) 41 (0, 0))) ∧
        Hid (NodeC (fun b => w.heap.size + 1 < b) wr mv s) ∧ Below w.heap.size w wr ∧ Hid (R = replayFrom who s (zs.drop k))) (fun i _ => zs.length - (intOf i).toNat)
    case atStart => exact ⟨0, zv, zeroN, Nat.zero_le _, rfl, r0, by rw [← HZR.out]; exact r1, HN0, hbW, E⟩
    case round =>
      obtain ⟨k, mv, s, hk, rfl, q0, q1, HN, hB, HE⟩ := hrel
      clear r0 r1 HN0
      have hlt1 : w.heap.size + 1 < wr.heap.size := (Array.getElem?_eq_some_iff.1 q1.out).1
      obtain ⟨mr, hmr⟩ : ∃ mr, mr = rowF 201 mv := ⟨_, rfl⟩
      have q1r : wr.heap[w.heap.size + 1]? = some (.cells mr 41 (0, 0)) := by rw [hmr]; exact q1.out
      have hsm : (Try.prog.info? 41).map (·.size) = some mr.size := by rw [hmr, rowF_size]; exact Try.infoNode
      have HMR : Hid (mr = rowF 201 mv) := hmr
      clear hmr q1
      by_cases hlt : k < zs.length
      · rcases HZ.out with e | ⟨b, off, rfl, hbb, hc⟩
        · rw [e] at hlt; simp at hlt
        obtain ⟨t, Ht⟩ : ∃ t, Hid (zs.getD k [] = t) := ⟨_, rfl⟩
        have e0 : wr.cell? ⟨b, off + k, none⟩ = some (.string (str t)) := by rw [hB.cell (p := ⟨b, off + k, none⟩) hbb, hc k hlt, Ht.out]
        have HDr : Hid (zs.drop k = t :: zs.drop (k + 1)) := drop_tx hlt Ht.out
        clear hc
        go_wp2_with fail
        refine (decode_any t wr).mono ?_
        rintro r x1 ⟨v, rfl, hfv, hb1⟩
        obtain ⟨f, hf⟩ : ∃ f, f = decL t := ⟨_, rfl⟩
        rw [← hf] at hfv
        have HF : Hid (f = decL t) := hf
        have HFV : Hid (∀ wx, Below x1.heap.size x1 wx → FrameV wx v f) := fun wx hx => hfv.later hx
        obtain ⟨a3, c3, a4, c4, a5, c5, a6, c6, rfl, _⟩ := hfv
        have hz1 := hb1.size
        clear hf
        by_cases td : decE t = 0
        · have dd : (decE t == 0) = true := by simpa using td
          have HTD : Hid (decE t = 0) := td
          clear td
          obtain ⟨X, hX⟩ : ∃ X, X = x1.alloc (.cells #[.int .i64 f.kind, .int .i64 f.node, .int .i64 f.id, .slice a3 f.ops.length c3, .slice a4 f.deps.length c4, .slice a5 f.ats.length c5, .slice a6 f.vals.length c6] 43) := ⟨_, rfl⟩
          have HX : Hid (X = x1.alloc (.cells #[.int .i64 f.kind, .int .i64 f.node, .int .i64 f.id, .slice a3 f.ops.length c3, .slice a4 f.deps.length c4, .slice a5 f.ats.length c5, .slice a6 f.vals.length c6] 43)) := hX
          have hbX : Below wr.heap.size wr X := by rw [hX]; exact hb1.alloc (by omega) _
          have hX1 : Below x1.heap.size x1 X := by rw [hX]; exact (Below.refl _ _).alloc (Nat.le_refl _) _
          have hzX := hbX.size
          clear hX
          have p0 : X.heap[w.heap.size]? = some (.cells zr 41 (0, 0)) := by rw [hbX.block _ (by omega)]; exact q0
          have p1 : X.heap[w.heap.size + 1]? = some (.cells mr 41 (0, 0)) := by rw [hbX.block _ (by omega)]; exact q1r
          go_wp2_with (first
            | (refine wpList_load_row rfl 41 _ rfl (w.heap.size + 1) rfl 41 mr (0, 0) _ (by rw [← HX.out]; exact p1) Try.underlying41 rfl hsm ?_))
          rw [← HX.out, HMR.out]
          have hto := take_new mv s who _ f X (HN.out.any.below hbX) (HFV.out X hX1)
          refine hto.mono ?_
          clear hto
          rintro r y ⟨nv', x, rfl, hn, _, hby⟩
          obtain ⟨s1, hs1⟩ : ∃ s1, s1 = (takeN s who f).1 := ⟨_, rfl⟩
          obtain ⟨e1, he1⟩ : ∃ e1, e1 = (takeN s who f).2.2 := ⟨_, rfl⟩
          rw [← hs1] at hn
          rw [← he1]
          have HS1 : Hid (s1 = (takeN s who f).1) := hs1
          have HE1 : Hid (e1 = (takeN s who f).2.2) := he1
          obtain ⟨er, her⟩ : ∃ er, er = rowF 201 nv' := ⟨_, rfl⟩
          rw [← her]
          have hse : (Try.prog.info? 41).map (·.size) = some er.size := by rw [her, rowF_size]; exact Try.infoNode
          have honee : er.all (·.oneCell') = true := by rw [her]; exact rowF_all hn.one
          have hze : mr.size = er.size := by rw [HMR.out, her, rowF_size, rowF_size]
          have y0 : y.heap[w.heap.size]? = some (.cells zr 41 (0, 0)) := by rw [hby.block _ (by omega)]; exact p0
          have y1 : y.heap[w.heap.size + 1]? = some (.cells mr 41 (0, 0)) := by rw [hby.block _ (by omega)]; exact p1
          obtain ⟨Y, hY⟩ : ∃ Y, Y = y.setRow (w.heap.size + 1) er := ⟨_, rfl⟩
          have HY : Hid (Y = y.setRow (w.heap.size + 1) er) := hY
          have HNY : Hid (NodeC (fun b => w.heap.size + 1 < b) Y nv' s1) := by
            rw [hY]
            exact (hn.mono (fun b _ hb => by omega)).later (fun b _ hb => setRow_other _ _ (by omega))
          have z0 : Y.heap[w.heap.size]? = some (.cells zr 41 (0, 0)) := by rw [hY, setRow_other _ _ (by omega)]; exact y0
          have z1 : Y.heap[w.heap.size + 1]? = some (.cells er 41 (0, 0)) := by rw [hY]; exact heap_setRow y1
          have hYw : Below w.heap.size w Y := by rw [hY]; exact setRow_below (hB.trans ((hbX.trans (hby.mono hbX.size)).mono (by omega))) (by omega) _
          have HER : Hid (er = rowF 201 nv') := her
          clear hs1 he1 her hY hn HX hX1 hb1 hbX hby hB q0 q1r p0 p1 y0 HFV
          by_cases te : e1 = 0
          · have de : (e1 != 0) = false := by simpa using te
            have HTE : Hid (e1 = 0) := te
            clear te
            go_wp2_with (first
              | (refine wpList_store_row rfl 41 _ _ rfl (w.heap.size + 1) er rfl rfl 41 _ y1 hse hze honee ?_))
            rw [← HY.out]
            go_wp2_with fail
            refine ⟨⟨k + 1, nv', s1, hlt, by rw [Int.natCast_add]; rfl, z0, by rw [← HER.out]; exact z1, HNY, hYw, ?_⟩, by simp [intOf]; omega⟩
            unfold Hid
            rw [HE.out, HDr.out]
            conv => lhs; unfold replayFrom
            rw [if_neg (by rw [HTD.out]; decide), ← HF.out, ← HE1.out, if_neg (by rw [HTE.out]; decide), ← HS1.out]
          · have de : (e1 != 0) = true := by simpa using te
            have HTE : Hid (e1 ≠ 0) := te
            have hyf : Below w.heap.size w (Y.setRow w.heap.size zr) := setRow_below hYw (Nat.le_refl _) _
            clear te
            go_upto_region 10 with (first
              | (refine wpList_store_row rfl 41 _ _ rfl (w.heap.size + 1) er rfl rfl 41 _ y1 hse hze honee ?_))
            rw [← HY.out]
            go_wp2_with (first
              | (refine wpList_store_row rfl 41 _ _ rfl w.heap.size zr rfl rfl 41 _ z0 hsz rfl honz ?_))
            refine bodyPost_ret (v := .tuple #[.agg zr, .int .i64 e1]) (results_row1 Try.results31 _ _ w.heap.size 41 zr (0, 0) _ rfl (heap_setRow z0) Try.underlying41 rfl hsz _ rfl) rfl ?_
            have HRR : R = (zeroN, e1) := by
              rw [HE.out, HDr.out]
              unfold replayFrom
              rw [if_neg (by rw [HTD.out]; decide), ← HF.out, ← HE1.out, if_pos HTE.out]
            exact ⟨zv, by rw [HZR.out, HRR], by rw [HRR]; exact zero_node _ _, hyf⟩
        · have dd : (decE t == 0) = false := by simpa using td
          have HTD : Hid (decE t ≠ 0) := td
          have de : (decE t != 0) = true := by simpa using td
          clear td
          have hbX : Below wr.heap.size wr (x1.alloc (.cells #[.int .i64 f.kind, .int .i64 f.node, .int .i64 f.id, .slice a3 f.ops.length c3, .slice a4 f.deps.length c4, .slice a5 f.ats.length c5, .slice a6 f.vals.length c6] 43)) := hb1.alloc (by omega) _
          have p0 : (x1.alloc (.cells #[.int .i64 f.kind, .int .i64 f.node, .int .i64 f.id, .slice a3 f.ops.length c3, .slice a4 f.deps.length c4, .slice a5 f.ats.length c5, .slice a6 f.vals.length c6] 43)).heap[w.heap.size]? = some (.cells zr 41 (0, 0)) := by rw [hbX.block _ (by omega)]; exact q0
          have hyf : Below w.heap.size w ((x1.alloc (.cells #[.int .i64 f.kind, .int .i64 f.node, .int .i64 f.id, .slice a3 f.ops.length c3, .slice a4 f.deps.length c4, .slice a5 f.ats.length c5, .slice a6 f.vals.length c6] 43)).setRow w.heap.size zr) := setRow_below (hB.trans (hbX.mono (by omega))) (Nat.le_refl _) _
          go_wp2_with (first
            | (refine wpList_store_row rfl 41 _ _ rfl w.heap.size zr rfl rfl 41 _ p0 hsz rfl honz ?_))
          refine bodyPost_ret (v := .tuple #[.agg zr, .int .i64 (decE t)]) (results_row1 Try.results31 _ _ w.heap.size 41 zr (0, 0) _ rfl (heap_setRow p0) Try.underlying41 rfl hsz _ rfl) rfl ?_
          have HRR : R = (zeroN, decE t) := by
            rw [HE.out, HDr.out]
            unfold replayFrom
            rw [if_pos HTD.out]
          exact ⟨zv, by rw [HZR.out, HRR], by rw [HRR]; exact zero_node _ _, hyf⟩
      · have dl : ((k : Int) < zs.length) = False := by simp; omega
        have honm : mr.all (·.oneCell') = true := by rw [HMR.out]; exact rowF_all HN.out.one
        have hzm : zr.size = mr.size := by rw [HMR.out, HZR.out, rowF_size, rowF_size]
        have hyf : Below w.heap.size w (wr.setRow w.heap.size mr) := setRow_below hB (Nat.le_refl _) _
        have HNF : Hid (NodeC (fun b => w.heap.size < b) (wr.setRow w.heap.size mr) mv s) := (HN.out.later (fun b _ hb => setRow_other _ _ (by omega))).mono (fun b _ (hb : w.heap.size + 1 < b) => by show w.heap.size < b; omega)
        go_wp2_with (first
          | (refine wpList_load_row rfl 41 _ rfl (w.heap.size + 1) rfl 41 mr (0, 0) _ q1r Try.underlying41 rfl hsm ?_)
          | (refine wpList_store_row rfl 41 _ _ rfl w.heap.size mr rfl rfl 41 _ q0 hsm hzm honm ?_))
        refine bodyPost_ret (v := .tuple #[.agg mr, .int .i64 0]) (results_row1 Try.results31 _ _ w.heap.size 41 mr (0, 0) _ rfl (heap_setRow q0) Try.underlying41 rfl hsm _ rfl) rfl ?_
        have HRR : R = (s, 0) := by
          rw [HE.out, List.drop_eq_nil_of_le (by omega)]
          rfl
        exact ⟨mv, by rw [HMR.out, HRR], by rw [HRR]; exact HNF.out, hyf⟩

theorem replay_any (who : Int) (a : Option Addr) (cap : Nat) (zs : List (List UInt8)) (w : World) (hl : zs.length ≤ maxLen) (hz : TxIn w.heap.size w a zs) :
    Calls Try.prog 31 #[.int .i64 who, .slice a zs.length cap] w fun r w' => ∃ nv', r = .returned (.tuple #[.agg (rowF 201 nv'), .int .i64 (replayN who zs).2]) ∧ NodeC (· < w'.heap.size) w' nv' (replayN who zs).1 ∧ Below w.heap.size w w' :=
  (replay_new who a cap zs w hl hz).mono fun _ _ ⟨nv', h1, h2, h3⟩ => ⟨nv', h1, h2.any, h3⟩

end Go.Proofs.Ytkoefoccbjhoiab

namespace Go.Proofs.Ytkoefoccbjhoiab
open Go.RowKit

theorem replay_snoc {who : Int} : ∀ {zs : List (List UInt8)} {s0 s : NodeL} {t : List UInt8}, replayFrom who s0 zs = (s, 0) → decE t = 0 → (takeN s who (decL t)).2.2 = 0 → replayFrom who s0 (zs ++ [t]) = ((takeN s who (decL t)).1, 0)
  | [], s0, s, t, h, hd, ht => by
    have e : s0 = s := congrArg Prod.fst h
    subst e
    simp only [List.nil_append, replayFrom]
    rw [if_neg (by rw [hd]; decide), if_neg (by rw [ht]; decide)]
  | z :: zs, s0, s, t, h, hd, ht => by
    unfold replayFrom at h
    rw [List.cons_append]
    conv => lhs; unfold replayFrom
    by_cases h1 : decE z ≠ 0
    · rw [if_pos h1] at h
      exact absurd (congrArg Prod.snd h) h1
    · rw [if_neg h1] at h ⊢
      by_cases h2 : (takeN s0 who (decL z)).2.2 ≠ 0
      · rw [if_pos h2] at h
        exact absurd (congrArg Prod.snd h) h2
      · rw [if_neg h2] at h ⊢
        exact replay_snoc h hd ht
theorem taken_good {s : NodeL} {who : Int} {f : FrameL} (h : (takeN s who f).2.2 = 0) : goodL f = 0 := by
  rcases take_cases s who f with ⟨h1, _⟩ | ⟨_, hf, _⟩
  · exact absurd h h1
  · exact hf
theorem replay_taken {who : Int} {zs : List (List UInt8)} {s : NodeL} {f : FrameL} (h : replayFrom who zeroN zs = (s, 0)) (ht : (takeN s who f).2.2 = 0) : replayFrom who zeroN (zs ++ [encL f]) = ((takeN s who f).1, 0) := by
  obtain ⟨o1, o2⟩ := ok_put (taken_good ht)
  have := replay_snoc (t := encL f) h (by unfold decE; rw [if_pos o1]) (by rw [o2]; exact ht)
  rw [o2] at this
  exact this

/-- A text's cells. -/
def txc (zs : List (List UInt8)) : List Value := zs.map fun z => .string (str z)
theorem txc_snoc (zs : List (List UInt8)) (y : List UInt8) : txc (zs ++ [y]) = txc zs ++ [.string (str y)] := by simp [txc]
theorem Try.infoText : (Try.prog.info? 9).map (fun i => (i.zero, i.size, i.bytes)) = some (some (.string ⟨#[]⟩), 1, 16) := by kernel_rfl

/-- append(v, y), of texts, at a step of a region that draws its order. -/
theorem step_append_text {ops : Array Oper} {o : Oper} {a : Act} {w : World} {K : Act → World → Prop} {Q : Exit → Act → World → Prop} {E : Prop} (hgd : o.guard = none) (s x : Operand)
    (ho : o.op = .call { callee := .builtin .append, args := #[s, x], argTypes := #[55, 55] }) (b0 : Nat) (v : Value) (zs : List (List UInt8)) (hs : a.eval s = v) (hown : w.ownsRow b0 9 1 v zs.length (txc zs)) (t : Nat) (y : List UInt8) (hx : a.eval x = .slice (some ⟨t, 0, none⟩) 1 1)
    (ht : w.heap[t]? = some (.cells #[.string (str y)] 9 (0, 0))) (hlen : zs.length ≤ 1000) (hb : b0 ≤ w.heap.size)
    (h : ∀ g cap w', w'.ownsRow b0 9 1 (.slice (some ⟨g, 0, none⟩) (zs.length + 1) cap) (zs.length + 1) (txc (zs ++ [y])) → w.grownBy w' v.ownBlock → (v.ownBlock = some g ∨ w.heap.size ≤ g) → K (a.put o.dst (.slice (some ⟨g, 0, none⟩) (zs.length + 1) cap)) w') :
    if Region.wanted o (yielded ops a.tmps) = true then Oper.wp Try.prog o a w K Q else E := by
  have hw : Region.wanted o (yielded ops a.tmps) = true := by simp [Region.wanted, hgd]
  rw [if_pos hw]
  obtain ⟨i0, hi, hz0, hz1, hz2⟩ := info_parts Try.infoText
  have hn := World.news_of_block (cs := #[.string (str y)]) (t := 9) (fr := (0, 0)) ht
  obtain ⟨g, cap, w', h1, h2, h3, h4, _⟩ := run_append_lies (P := Try.prog) w 55 o.type b0 9 i0 (.string ⟨#[]⟩) 1 16 Try.underlying55 hi hz0 hz1 hz2 rfl (by decide) v zs.length (txc zs) hown ⟨t, 0, none⟩ 1 1 [.string (str y)] rfl hn (by simp [Value.oneCell']) (by decide) (by unfold maxLen; omega) (by omega) hb w.heap.size rfl
  unfold Oper.wp execOp
  simp only [ho, resolve, invoke, builtin, Sem.run_bind, Sem.run_pure, Result.andThen_ok, List.map_toArray, List.map_cons, List.map_nil, hs, hx, h1]
  refine h g cap w' (by rw [txc_snoc]; exact h2) h3 ?_
  rcases h4 with h4 | h4
  · exact Or.inl h4
  · exact Or.inr (by omega)

/-- Such a list, read. -/
theorem txIn_of_owns {b0 : Nat} {w : World} {v : Value} {zs : List (List UInt8)} (h : w.ownsRow b0 9 1 v zs.length (txc zs)) : ∃ a cap, v = .slice a zs.length cap ∧ TxIn w.heap.size w a zs := by
  rcases h.2 with ⟨hv, h0⟩ | ⟨g, cp, cur, hv, hB, hg, hc, hm, hcs, htk⟩
  · have : zs = [] := List.eq_nil_of_length_eq_zero h0
    subst this
    exact ⟨none, 0, by rw [hv]; rfl, Or.inl rfl⟩
  · refine ⟨some ⟨g, 0, none⟩, cp, hv, Or.inr ⟨g, 0, rfl, (Array.getElem?_eq_some_iff.1 hg).1, fun i hi => ?_⟩⟩
    rw [cell_of_row w g (0 + i) cur _ _ hg]
    have hf : (txc zs)[i]? = some (.string (str (zs.getD i []))) := by simp [txc, List.getD, hi]
    rw [← htk, List.getElem?_take_of_lt (by omega)] at hf
    simpa using hf

end Go.Proofs.Ytkoefoccbjhoiab

namespace Go.Proofs.Ytkoefoccbjhoiab
open Go.ChangeShapes Go.WideShapes Go.ChangeAt Go.RowKit Go.Deep

theorem list7 {α : Type} {l : List α} (h : l.length = 7) : ∃ c0 c1 c2 c3 c4 c5 c6, l = [c0, c1, c2, c3, c4, c5, c6] := by
  match l, h with
  | [c0, c1, c2, c3, c4, c5, c6], _ => exact ⟨c0, c1, c2, c3, c4, c5, c6, rfl⟩
theorem Try.cellsFrame : Try.prog.cellsOf 43 = 7 := by kernel_rfl
theorem Try.cellsOps : Try.prog.cellsOf 35 = 1 := by kernel_rfl
theorem Try.cellsInts : Try.prog.cellsOf 23 = 1 := by kernel_rfl

section
variable {H : Type} {enc : TypeId × Value → H} {w : World} {base : Nat} {spare : Nat → Bool} {held : Bool}

theorem open_sl_ints {n : Nat} {c : Value} {y : DataW H × List MemPlace} (h : DataW.trod enc Try.prog w base spare held n 23 [c] = some y) : ∃ a cap zs, c = .slice a (zs : List Int).length cap ∧ SlInts w a cap zs := by
  obtain ⟨a, l, cap, hc⟩ := Joins.slice_form Try.underlying23 h
  simp at hc
  subst hc
  obtain ⟨hl, zs, rfl, hz, _, hn, hcap⟩ := open_intsAt Try.underlying23 Try.underlying3 Try.cellsInt h
  exact ⟨a, cap, zs, rfl, hz, hl, hcap, hn⟩
theorem open_sl_ops {n : Nat} {c : Value} {y : DataW H × List MemPlace} (h : DataW.trod enc Try.prog w base spare held n 35 [c] = some y) : ∃ a cap zs, c = .slice a (zs : List OpL).length cap ∧ SlOps w a cap zs := by
  obtain ⟨a, l, cap, hc⟩ := Joins.slice_form Try.underlying35 h
  simp at hc
  subst hc
  obtain ⟨hl, zs, rfl, hz, _, hn, hcap⟩ := open_opsAt Try.underlying35 Try.underlying108 Try.underlying3 Try.cellsOp Try.cellsInt rfl rfl rfl rfl rfl rfl h
  exact ⟨a, cap, zs, rfl, hz, hl, hcap, hn⟩

end

end Go.Proofs.Ytkoefoccbjhoiab

namespace Go.Proofs.Ytkoefoccbjhoiab
open Go.RowKit

end Go.Proofs.Ytkoefoccbjhoiab

namespace Go.Proofs.Ytkoefoccbjhoiab
open Go.RowKit

/-- Where they lie. -/
def FrsIn (B : Nat) (w : World) (a : Option Addr) (fs : List FrameL) : Prop := fs = [] ∨ ∃ b off, a = some ⟨b, off, none⟩ ∧ b < B ∧ ∀ i, i < fs.length → ∃ cs, cs.length = 7 ∧ w.rangeAt b (off + i * 7) cs ∧ FrameV w (.agg cs.toArray) (fs.getD i zeroF)
end Go.Proofs.Ytkoefoccbjhoiab

namespace Go.Proofs.Ytkoefoccbjhoiab
open Go.ChangeShapes Go.WideShapes Go.ChangeAt Go.RowKit Go.Deep

section
variable {H : Type} {enc : TypeId × Value → H} {w : World} {base : Nat} {spare : Nat → Bool} {held : Bool}

set_option maxRecDepth 100000 in
theorem open_frame_cells {n : Nat} {cs : List Value} (hl : cs.length = 7) {y : DataW H × List MemPlace} (hf : DataW.trod enc Try.prog w base spare held n 43 cs = some y) : ∃ f, FrameV w (.agg cs.toArray) f := by
  obtain ⟨c0, c1, c2, c3, c4, c5, c6, rfl⟩ := list7 hl
  obtain ⟨xs, n, _, _, _, hxl, hff⟩ := DataW.trod_struct Try.underlying43 hf
  have g0 := hff 0 _ rfl
  have g1 := hff 1 _ rfl
  have g2 := hff 2 _ rfl
  have g3 := hff 3 _ rfl
  have g4 := hff 4 _ rfl
  have g5 := hff 5 _ rfl
  have g6 := hff 6 _ rfl
  simp [Try.cellsInt, Try.cellsOps, Try.cellsInts] at g0 g1 g2 g3 g4 g5 g6
  obtain ⟨x0, x1, x2, x3, x4, x5, x6, rfl⟩ := list7 hxl
  obtain ⟨n0, r0, _, _⟩ := DataW.trod_int Try.underlying3 g0
  obtain ⟨n1, r1, _, _⟩ := DataW.trod_int Try.underlying3 g1
  obtain ⟨n2, r2, _, _⟩ := DataW.trod_int Try.underlying3 g2
  simp at r0 r1 r2
  subst r0 r1 r2
  obtain ⟨a3, d3, z3, rfl, h3⟩ := open_sl_ops g3
  obtain ⟨a4, d4, z4, rfl, h4⟩ := open_sl_ints g4
  obtain ⟨a5, d5, z5, rfl, h5⟩ := open_sl_ints g5
  obtain ⟨a6, d6, z6, rfl, h6⟩ := open_sl_ints g6
  exact ⟨⟨n0, n1, n2, z3, z4, z5, z6⟩, a3, d3, a4, d4, a5, d5, a6, d6, rfl, h3, h4, h5, h6⟩

theorem open_frsIn {fuel : Nat} {a : Option Addr} {len cap : Nat} {x : DataW H × List MemPlace} (h : DataW.trod enc Try.prog w base spare held fuel 46 [.slice a len cap] = some x) :
    len ≤ maxLen ∧ ∃ fs : List FrameL, fs.length = len ∧ FrsIn w.heap.size w a fs := by
  rcases open_slice Try.underlying46 h with ⟨hcs, _⟩ | ⟨x, l, c, m, n, D, Pl, hcs, hb, hl, hm, hmm, _, hx⟩
  · simp at hcs
    obtain ⟨rfl, rfl, rfl⟩ := hcs
    exact ⟨Nat.zero_le _, [], rfl, Or.inl rfl⟩
  · simp at hcs
    obtain ⟨rfl, rfl, rfl⟩ := hcs
    have hlm : len ≤ m := by rw [hmm]; split <;> omega
    have each : ∀ i, i < len → ∃ f : FrameL, ∃ cs : List Value, cs.length = 7 ∧ (∀ j, j < 7 → w.cell? (x.add (i * 7 + j)) = some (cs.getD j (.bool false))) ∧ FrameV w (.agg cs.toArray) f := by
      intro i hi
      obtain ⟨cs', h1, h2⟩ := hx i (by omega)
      rw [Try.cellsFrame] at h1
      obtain ⟨_, hlen, hcell⟩ := World.cells?_some h1
      obtain ⟨f, hf⟩ := open_frame_cells hlen h2
      refine ⟨f, cs', hlen, fun j hj => ?_, hf⟩
      have e := hcell j (by omega)
      rw [add_add] at e
      rw [e]
      simp [List.getD, hlen, hj]
    haveI : Inhabited FrameL := ⟨zeroF⟩
    obtain ⟨Q, hQ⟩ := choose_lt each
    refine ⟨by omega, (List.range len).map Q, by simp, ?_⟩
    by_cases h0 : len = 0
    · left
      simp [h0]
    · right
      obtain ⟨b, off, spot⟩ := x
      obtain ⟨cs0, _, hc0, _⟩ := hQ 0 (by omega)
      have hc0 := hc0 0 (by decide)
      have hs : spot = none := by simpa [Addr.add] using World.cell?_spot hc0
      subst hs
      refine ⟨b, off, rfl, by simpa [Addr.add] using lt_of_cell hc0, fun i hi => ?_⟩
      have hi' : i < len := by simpa using hi
      obtain ⟨cs, h7, hcell, hfv⟩ := hQ i hi'
      have hg : ((List.range len).map Q).getD i zeroF = Q i := by simp [List.getD, hi']
      rw [hg]
      refine ⟨cs, h7, fun j u hu => ?_, hfv⟩
      have hj : j < 7 := by have := (List.getElem?_eq_some_iff.1 hu).1; omega
      have := hcell j hj
      rw [add_none] at this
      rw [Nat.add_assoc, this]
      simp [List.getD, hu]
end

end Go.Proofs.Ytkoefoccbjhoiab

namespace Go.Proofs.Ytkoefoccbjhoiab
open Go.RowKit

set_option maxRecDepth 100000 in
set_option maxHeartbeats 1000000 in
theorem keep_takes (w : World) : Calls Try.prog 36 #[] w fun r w' => r = .returned (.bool true) ∧ Below w.heap.size w w' := by
  obtain ⟨zr, hzr⟩ : ∃ zr, zr = rowF 201 zv := ⟨_, rfl⟩
  have hz0 := Try.zeroNode
  rw [← hzr] at hz0
  obtain ⟨W, hW⟩ : ∃ W, W = w.alloc (.cells #[.int .i64 2, .int .i64 1, .int .i64 9] 108) := ⟨_, rfl⟩
  have hb : Below w.heap.size w W := by rw [hW]; exact (Below.refl _ _).alloc (Nat.le_refl _) _
  have r0 : W.heap[w.heap.size]? = some (.cells #[.int .i64 2, .int .i64 1, .int .i64 9] 108 (0, 0)) := by rw [hW]; exact heap_new _ _
  have hzW : W.heap.size = w.heap.size + 1 := by rw [hW]; exact size_push _ _
  have HF : Hid (FrameV W (.agg #[.int .i64 3, .int .i64 3, .int .i64 4, .slice (some ⟨w.heap.size, 0, none⟩) 1 1, .slice none 0 0, .slice none 0 0, .slice none 0 0]) takesF) := by
    refine ⟨some ⟨w.heap.size, 0, none⟩, 1, none, 0, none, 0, none, 0, rfl, ⟨Or.inr ⟨w.heap.size, 0, rfl, by omega, fun i hi => ?_⟩, by decide, Nat.le_refl _, fun h => by cases h⟩, (slI_nil (fun _ => True) _).1, (slI_nil (fun _ => True) _).1, (slI_nil (fun _ => True) _).1⟩
    have : i = 0 := by
      have : i < 1 := hi
      omega
    subst this
    exact ⟨by rw [cell_of_row _ _ _ _ _ _ r0]; rfl, by rw [cell_of_row _ _ _ _ _ _ r0]; rfl, by rw [cell_of_row _ _ _ _ _ _ r0]; rfl⟩
  have HT := takes_call W #[.int .i64 3, .int .i64 3, .int .i64 4, .slice (some ⟨w.heap.size, 0, none⟩) 1 1, .slice none 0 0, .slice none 0 0, .slice none 0 0] HF.out
  rw [← hzr] at HT
  obtain ⟨T, t0, t1, t2, t3, HT⟩ := HT
  have T0 : Hid (T.2.2 = 0) := t0
  have T1 : Hid (T.2.1.length = 2) := t1
  have T2 : Hid (T.1.vals 1 = 9) := t2
  have T3 : Hid (T.1.order.length = 1) := t3
  have HZR : Hid (zr = rowF 201 zv) := hzr
  have HW : Hid (W = w.alloc (.cells #[.int .i64 2, .int .i64 1, .int .i64 9] 108)) := hW
  have HTA : Hid (Calls Try.prog 23 #[.agg zr, .int .i64 3, .agg #[.int .i64 3, .int .i64 3, .int .i64 4, .slice (some ⟨w.heap.size, 0, none⟩) 1 1, .slice none 0 0, .slice none 0 0, .slice none 0 0]] W fun r w' => ∃ nv' x, r = .returned (.tuple #[.agg (rowF 201 nv'), x, .int .i64 T.2.2]) ∧ NodeC (· < w'.heap.size) w' nv' T.1 ∧ FramesV W.heap.size w' x T.2.1 ∧ Below W.heap.size W w') := HT
  clear t0 t1 t2 t3
  clear hzr hW r0 HT HF
  go_enter Try.func36, Try.ntmps36
  go_wp2_with fail
  rw [← HW.out, Try.zcNode, ← HZR.out]
  refine HTA.out.mono ?_
  rintro r w1 ⟨nv1, x, rfl, hnc, hfs, hb1⟩
  rw [T0.out]
  obtain ⟨fr, hfr⟩ : ∃ fr, fr = rowF 201 nv1 := ⟨_, rfl⟩
  rw [← hfr]
  have hsf : (Try.prog.info? 41).map (·.size) = some fr.size := by rw [hfr, rowF_size]; exact Try.infoNode
  have hzz : zr.size = fr.size := by rw [hfr, HZR.out, rowF_size, rowF_size]
  have hone : fr.all (·.oneCell') = true := by rw [hfr]; exact rowF_all hnc.one
  have hres : (w1.alloc (.cells zr 41)).heap[w1.heap.size]? = some (.cells zr 41 (0, 0)) := heap_new _ _
  obtain ⟨css, _, hown, _⟩ := hfs
  obtain ⟨ax, cx, rfl, _⟩ := own_form hown
  rw [T1.out]
  have hlen2 : ((2 : Nat) : Int) = 2 := rfl
  obtain ⟨X, hX⟩ : ∃ X, X = (w1.alloc (.cells zr 41)).setRow w1.heap.size fr := ⟨_, rfl⟩
  have hbX : Below w1.heap.size w1 X := by rw [hX]; exact setRow_below ((Below.refl _ _).alloc (Nat.le_refl _) _) (Nat.le_refl _) _
  have rX : BlkAt 201 X w1.heap.size nv1 := ⟨41, by rw [← hfr, hX]; exact heap_setRow hres⟩
  have q1 : X.cell? ⟨w1.heap.size, 194, none⟩ = some (.int .i64 9) := by
    rw [rX.cell (by omega), hnc.es.vals 1 (by omega), T2.out]
  obtain ⟨ao, co, eo, _⟩ := hnc.order.sl
  have q2 : X.cell? ⟨w1.heap.size, 192, none⟩ = some (.slice ao 1 co) := by
    rw [rX.cell (by omega), eo, T3.out]
  have HX : Hid (X = (w1.alloc (.cells zr 41)).setRow w1.heap.size fr) := hX
  have hbE : Below w.heap.size w X := hb.trans ((hb1.mono (by omega)).trans (hbX.mono (by have := hb1.size; omega)))
  clear hfr hX hnc hown eo rX hbX hb1
  go_upto_region 2 with (first
    | (refine wpList_alloc_as rfl 41 rfl zr hz0 ?_)
    | (refine wpList_store_row rfl 41 _ _ rfl w1.heap.size fr rfl rfl 41 _ hres hsf hzz hone ?_))
  rw [← HX.out]
  clear HX hres
  go_wp2
  go_ret
  exact ⟨rfl, hbE⟩

end Go.Proofs.Ytkoefoccbjhoiab
