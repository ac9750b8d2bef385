/-
  The contracts of package wire's Good and what it calls.
  The contracts of post's Good and isCaseOf.
  The contracts of post's lacksValue and lacks.
  A list of frames that a call made, read one by one.
  A list of frames that a call makes, one behind the other: the frames' lists lie beside the row.
  A whole row is stored: as Wpl's, its premises in the order in which a walk can show them.
-/
import Derived.Test.YtkoefoccbjhoiabPfx3
import Derived.Test.YtkoefoccbjhoiabPfx5
import Derived.Test.YtkoefoccbjhoiabPfx4
import Derived.Maps.AppendAt
set_option linter.unusedVariables false
set_option linter.unusedSimpArgs false
namespace Go.Proofs.Ytkoefoccbjhoiab
open Go.RowKit

theorem beq_flip (a b : Int) : (a == b) = (b == a) := by rw [Bool.eq_iff_iff]; simp; omega
def valB (n : Int) : Bool := decide (-1099511627776 ≤ n ∧ n ≤ 1099511627776)

set_option maxRecDepth 100000 in
set_option maxHeartbeats 400000 in
theorem isValue_any (n : Int) (w : World) :
    Calls Try.prog 138 #[.int .i64 n] w fun e w' => e = .returned (.bool (valB n)) ∧ w' = w := by
  by_cases h1 : -1099511627776 ≤ n
  · by_cases h2 : n ≤ 1099511627776
    · have E : Hid (valB n = true) := decide_eq_true ⟨h1, h2⟩
      go_enter Try.func138, Try.ntmps138
      go_wp2
      go_ret
      exact ⟨ret_bool E.out.symm, rfl⟩
    · have E : Hid (valB n = false) := decide_eq_false (fun h => h2 h.2)
      go_enter Try.func138, Try.ntmps138
      go_wp2
      go_ret
      exact ⟨ret_bool E.out.symm, rfl⟩
  · have E : Hid (valB n = false) := decide_eq_false (fun h => h1 h.1)
    go_enter Try.func138, Try.ntmps138
    go_wp2
    go_ret
    exact ⟨ret_bool E.out.symm, rfl⟩

/- slices.Index: the first place, or -1: here whether there is one -/
set_option maxRecDepth 100000 in
set_option maxHeartbeats 400000 in
theorem indexW_any (a : Option Addr) (cap : Nat) (zs : List Int) (n : Int) (w : World) (hl : zs.length ≤ maxLen) (hz : IntsAt w.heap.size w a zs) :
    Calls Try.prog 140 #[.slice a zs.length cap, .int .i64 n] w fun e w' => (∃ k : Int, e = .returned (.int .i64 k) ∧ decide (0 ≤ k) = hasL zs n) ∧ w' = w := by
  unfold maxLen at hl
  rcases hz with rfl | ⟨b, off, rfl, hb, hc⟩
  · go_enter Try.func140, Try.ntmps140
    go_wp2
    refine wp_loop_rounds 1 ?_; rw [rounds_succ]
    go_wp2
    go_ret
    exact ⟨⟨-1, rfl, rfl⟩, rfl⟩
  · go_enter Try.func140, Try.ntmps140
    go_wp2
    go_loop [8] (fun i => ∃ k : Nat, k ≤ zs.length ∧ i = .int .i64 k ∧ (zs.take k).any (eqB n) = false) (fun i => zs.length - (intOf i).toNat)
    case atStart => exact ⟨0, Nat.zero_le _, rfl, rfl⟩
    case round =>
      obtain ⟨k, hk, rfl, hno⟩ := hrel
      by_cases hlt : k < zs.length
      · obtain ⟨q, Hq, e0⟩ := IntsAt.at hc hb (Below.refl _ _) hlt
        have hm : Hid (eqB n q = (q == n)) := rfl
        clear hc
        cases t1 : n == q
        · go_wp2
          go_round
          case rel => exact ⟨k + 1, by omega, by go_num, any_step hlt Hq.out hno (by rw [hm.out, ← t1]; exact beq_flip _ _)⟩
          case measure => simp [intOf]; omega
        · have HT : Hid (hasL zs n = true) := any_hit hlt Hq.out (by rw [hm.out, ← t1]; exact beq_flip _ _)
          go_wp2
          go_ret
          exact ⟨⟨k, rfl, by rw [HT.out]; simp⟩, rfl⟩
      · have HT : Hid (hasL zs n = false) := any_end hlt hno
        go_wp2
        go_ret
        exact ⟨⟨-1, rfl, by rw [HT.out]; rfl⟩, rfl⟩

set_option maxRecDepth 100000 in
set_option maxHeartbeats 400000 in
theorem contains_any (a : Option Addr) (cap : Nat) (zs : List Int) (n : Int) (w : World) (hl : zs.length ≤ maxLen) (hz : IntsAt w.heap.size w a zs) :
    Calls Try.prog 125 #[.slice a zs.length cap, .int .i64 n] w fun e w' => e = .returned (.bool (hasL zs n)) ∧ w' = w := by
  go_enter Try.func125, Try.ntmps125
  go_wp2_with fail
  refine (indexW_any a cap zs n _ hl hz).mono ?_
  rintro e w1 ⟨⟨k, rfl, hk⟩, hw⟩
  subst hw
  have HK : Hid (decide (0 ≤ k) = hasL zs n) := hk
  clear hk
  by_cases h : 0 ≤ k
  · have HT : Hid (hasL zs n = true) := by unfold Hid; rw [← HK.out]; exact decide_eq_true h
    go_wp2
    go_ret
    exact ⟨ret_bool (by first | exact HT.out.symm | exact HK.out), rfl⟩
  · have HT : Hid (hasL zs n = false) := by unfold Hid; rw [← HK.out]; exact decide_eq_false h
    go_wp2
    go_ret
    exact ⟨ret_bool (by first | exact HT.out.symm | exact HK.out), rfl⟩

set_option maxRecDepth 100000 in
set_option maxHeartbeats 400000 in
theorem wgoodOps_any (v : Value) (f : FrameL) (w : World) (hv : FrameV w v f) :
    Calls Try.prog 121 #[v] w fun e w' => e = .returned (.bool (goodOpsF f)) ∧ Below w.heap.size w w' := by
  obtain ⟨a3, c3, a4, c4, a5, c5, a6, c6, rfl, h3, _⟩ := hv
  obtain ⟨kind, node, id, ops, deps, ats, vals⟩ := f
  simp only at h3
  have hb0 := fun o : Obj => (Below.refl w.heap.size w).alloc (Nat.le_refl _) o
  cases t1 : kind == 1
  · cases t2 : kind == 3
    · have E : Hid (goodOpsF ⟨kind, node, id, ops, deps, ats, vals⟩ = decide (ops.length = 0)) := by simp at t1 t2; simp [Hid, goodOpsF, t1, t2]
      have hl := h3.2.1
      unfold maxLen at hl
      go_enter Try.func121, Try.ntmps121
      go_wp2
      go_ret
      refine ⟨ret_bool ?_, hb0 _⟩
      rw [E.out, Bool.eq_iff_iff]
      simp
      try omega
    · have E : Hid (goodOpsF ⟨kind, node, id, ops, deps, ats, vals⟩ = goodOpsL ops) := by simp at t2; simp [Hid, goodOpsF, t2]
      go_enter Try.func121, Try.ntmps121
      go_wp2_with fail
      refine (goodOps_any a3 c3 ops _ h3.2.1 (h3.1.later (hb0 _))).mono ?_
      rintro e w1 ⟨rfl, hb1⟩
      have hb2 := (hb0 _).trans (hb1.mono (hb0 _).size)
      clear hb1
      go_wp2
      go_ret
      exact ⟨ret_bool E.out.symm, hb2⟩
  · have E : Hid (goodOpsF ⟨kind, node, id, ops, deps, ats, vals⟩ = goodOpsL ops) := by simp at t1; simp [Hid, goodOpsF, t1]
    go_enter Try.func121, Try.ntmps121
    go_wp2_with fail
    refine (goodOps_any a3 c3 ops _ h3.2.1 (h3.1.later (hb0 _))).mono ?_
    rintro e w1 ⟨rfl, hb1⟩
    have hb2 := (hb0 _).trans (hb1.mono (hb0 _).size)
    clear hb1
    go_wp2
    go_ret
    exact ⟨ret_bool E.out.symm, hb2⟩

set_option maxRecDepth 100000 in
set_option maxHeartbeats 400000 in
theorem wgoodDeps_any (v : Value) (f : FrameL) (w : World) (hv : FrameV w v f) :
    Calls Try.prog 122 #[v] w fun e w' => e = .returned (.bool (goodDepsF f)) ∧ Below w.heap.size w w' := by
  obtain ⟨a3, c3, a4, c4, a5, c5, a6, c6, rfl, _, h4, _⟩ := hv
  obtain ⟨kind, node, id, ops, deps, ats, vals⟩ := f
  simp only at h4
  have hb0 := fun o : Obj => (Below.refl w.heap.size w).alloc (Nat.le_refl _) o
  have h4' := fun o : Obj => h4.later (hb0 o)
  cases t1 : kind == 2
  · cases t2 : kind == 3
    · have E : Hid (goodDepsF ⟨kind, node, id, ops, deps, ats, vals⟩ = decide (deps.length = 0)) := by simp at t1 t2; simp [Hid, goodDepsF, t1, t2]
      have hl := h4.2.1
      unfold maxLen at hl
      go_enter Try.func122, Try.ntmps122
      go_wp2
      go_ret
      refine ⟨ret_bool ?_, hb0 _⟩
      rw [E.out, Bool.eq_iff_iff]
      simp
    · have E : Hid (goodDepsF ⟨kind, node, id, ops, deps, ats, vals⟩ = (risingFrom (-1) deps && !hasL deps id)) := by simp at t2; simp [Hid, goodDepsF, t2]
      go_enter Try.func122, Try.ntmps122
      go_wp2_with fail
      refine (rising_any a4 c4 deps _ h4.2.1 (h4' _).1).mono ?_
      rintro e w1 ⟨rfl, hw⟩
      subst hw
      cases tr : risingFrom (-1) deps
      · go_wp2
        go_ret
        exact ⟨ret_bool (by rw [E.out, tr]; rfl), hb0 _⟩
      · go_wp2_with fail
        refine (contains_any a4 c4 deps id _ h4.2.1 (h4' _).1).mono ?_
        rintro e w1 ⟨rfl, hw⟩
        subst hw
        go_wp2
        go_ret
        exact ⟨ret_bool (by rw [E.out, tr]; rfl), hb0 _⟩
  · have E : Hid (goodDepsF ⟨kind, node, id, ops, deps, ats, vals⟩ = (risingFrom (-1) deps && !hasL deps id)) := by simp at t1; simp [Hid, goodDepsF, t1]
    go_enter Try.func122, Try.ntmps122
    go_wp2_with fail
    refine (rising_any a4 c4 deps _ h4.2.1 (h4' _).1).mono ?_
    rintro e w1 ⟨rfl, hw⟩
    subst hw
    cases tr : risingFrom (-1) deps
    · go_wp2
      go_ret
      exact ⟨ret_bool (by rw [E.out, tr]; rfl), hb0 _⟩
    · go_wp2_with fail
      refine (contains_any a4 c4 deps id _ h4.2.1 (h4' _).1).mono ?_
      rintro e w1 ⟨rfl, hw⟩
      subst hw
      go_wp2
      go_ret
      exact ⟨ret_bool (by rw [E.out, tr]; rfl), hb0 _⟩

theorem IntsAt.get {B : Nat} {w : World} {a : Option Addr} {zs : List Int} (h : IntsAt B w a zs) {k : Nat} (hk : k < zs.length) : ∃ q : Int, Hid (zs.getD k 0 = q) ∧ ∃ b off, a = some ⟨b, off, none⟩ ∧ w.cell? ⟨b, off + k, none⟩ = some (.int .i64 q) := by
  rcases h with rfl | ⟨b, off, rfl, _, hc⟩
  · simp at hk
  · exact ⟨_, rfl, b, off, rfl, hc k hk⟩
theorem told_no {xs vs : List Int} {k : Nat} {q u l m : Int} (hk : k < xs.length) (hv : k < vs.length) (hq : xs.getD k 0 = q) (hu : vs.getD k 0 = u) (h : toldFrom m xs vs = toldFrom l (xs.drop k) (vs.drop k)) (hn : q ≤ l ∨ 4 ≤ q ∨ valB u = false) : toldFrom m xs vs = false := by
  rw [h, drop_at hk hq, drop_at hv hu, toldFrom]
  rcases hn with h1 | h1 | h1
  · simp [h1]
  · simp [h1]
  · unfold valB at h1
    rw [h1]
    simp
theorem told_yes {xs vs : List Int} {k : Nat} {q u l m : Int} (hk : k < xs.length) (hv : k < vs.length) (hq : xs.getD k 0 = q) (hu : vs.getD k 0 = u) (h : toldFrom m xs vs = toldFrom l (xs.drop k) (vs.drop k)) (h1 : ¬ q ≤ l) (h2 : ¬ 4 ≤ q) (h3 : valB u = true) : toldFrom m xs vs = toldFrom q (xs.drop (k + 1)) (vs.drop (k + 1)) := by
  rw [h, drop_at hk hq, drop_at hv hu, toldFrom]
  unfold valB at h3
  rw [h3]
  simp [h1, h2]
theorem told_fin {xs vs : List Int} {k : Nat} {l m : Int} (hk : ¬ k < xs.length) (h : toldFrom m xs vs = toldFrom l (xs.drop k) (vs.drop k)) : toldFrom m xs vs = true := by
  rw [h, List.drop_of_length_le (by omega)]
  unfold toldFrom
  rfl

set_option maxRecDepth 100000 in
set_option maxHeartbeats 1000000 in
theorem wgoodTold_any (v : Value) (f : FrameL) (w : World) (hv : FrameV w v f) :
    Calls Try.prog 123 #[v] w fun e w' => e = .returned (.bool (goodToldF f)) ∧ Below w.heap.size w w' := by
  obtain ⟨a3, c3, a4, c4, a5, c5, a6, c6, rfl, _, _, h5, h6⟩ := hv
  obtain ⟨kind, node, id, ops, deps, ats, vals⟩ := f
  simp only at h5 h6
  have hb0 := fun o : Obj => (Below.refl w.heap.size w).alloc (Nat.le_refl _) o
  have h5' := fun o : Obj => h5.later (hb0 o)
  have h6' := fun o : Obj => h6.later (hb0 o)
  have hl5 := h5.2.1
  have hl6 := h6.2.1
  unfold maxLen at hl5 hl6
  have E0 : Hid (goodToldF ⟨kind, node, id, ops, deps, ats, vals⟩ = (decide (kind = 5 ∨ ats.length = 0) && (decide (vals.length = ats.length) && toldFrom (-1) ats vals))) := rfl
  by_cases hA : kind ≠ 5 ∧ 0 < ats.length
  · have E : Hid (goodToldF ⟨kind, node, id, ops, deps, ats, vals⟩ = false) := by unfold Hid; rw [E0.out, decide_eq_false (by omega), Bool.false_and]
    have t1 : (kind != 5) = true := by simpa using hA.1
    have t2 : 0 < ats.length := hA.2
    clear hA
    go_enter Try.func123, Try.ntmps123
    go_wp2
    go_ret
    exact ⟨ret_bool E.out.symm, hb0 _⟩
  · have E1 : Hid (goodToldF ⟨kind, node, id, ops, deps, ats, vals⟩ = (decide (vals.length = ats.length) && toldFrom (-1) ats vals)) := by
      unfold Hid; rw [E0.out, decide_eq_true (by omega), Bool.true_and]
    cases t2 : (vals.length : Int) != (ats.length : Int)
    · have hlen : vals.length = ats.length := by simp at t2; omega
      have E : Hid (goodToldF ⟨kind, node, id, ops, deps, ats, vals⟩ = toldFrom (-1) ats vals) := by unfold Hid; rw [E1.out, decide_eq_true hlen, Bool.true_and]
      have HL : Hid (vals.length = ats.length) := hlen
      have tt : (kind != 5) = false ∨ (kind != 5) = true ∧ ¬ 0 < ats.length := by
        by_cases h : kind = 5
        · left; simpa using h
        · right; exact ⟨by simpa using h, fun h' => hA ⟨h, h'⟩⟩
      have z5 := fun o => (h5' o).1
      have z6 := fun o => (h6' o).1
      clear hlen hA h5' h6'
      rcases h5.1 with hn | ⟨b, off, rfl, hb, hc⟩
      · have tl : ats.length = 0 := by rw [hn]; rfl
        have ET : Hid (toldFrom (-1) ats vals = true) := by rw [hn]; unfold Hid toldFrom; rfl
        have hlt0 : ¬ 0 < ats.length := by omega
        clear hn
        rcases tt with t1 | ⟨t1, t3⟩
        all_goals
          go_enter Try.func123, Try.ntmps123
          go_wp2
          refine wp_loop_rounds 1 ?_; rw [rounds_succ]
          go_wp2
          go_ret
          exact ⟨ret_bool (by rw [E.out, ET.out]), hb0 _⟩
      · have hb' : b ≠ w.heap.size := by omega
        rcases tt with t1 | ⟨t1, t3⟩
        · go_enter Try.func123, Try.ntmps123
          go_wp2
          go_loop [3, 25] (fun l i => ∃ (k : Nat) (q : Int), k ≤ ats.length ∧ i = .int .i64 k ∧ l = .int .i64 q ∧ Hid (toldFrom (-1) ats vals = toldFrom q (ats.drop k) (vals.drop k))) (fun _ i => ats.length - (intOf i).toNat)
          case atStart => exact ⟨0, -1, Nat.zero_le _, rfl, rfl, rfl⟩
          case round =>
            obtain ⟨k, l, hk, rfl, rfl, hno⟩ := hrel
            by_cases hlt : k < ats.length
            · have hv : Hid (k < vals.length) := by unfold Hid; rw [HL.out]; exact hlt
              obtain ⟨q, Hq, e0⟩ := IntsAt.at hc hb (hb0 (.cells #[.int .i64 kind, .int .i64 node, .int .i64 id, .slice a3 ops.length c3, .slice a4 deps.length c4, .slice (some ⟨b, off, none⟩) ats.length c5, .slice a6 vals.length c6] 43)) hlt
              obtain ⟨u, Hu, b', off', e6, f0⟩ := IntsAt.get (z6 (.cells #[.int .i64 kind, .int .i64 node, .int .i64 id, .slice a3 ops.length c3, .slice a4 deps.length c4, .slice (some ⟨b, off, none⟩) ats.length c5, .slice a6 vals.length c6] 43)) hv.out
              have hvi : (k : Int) < (vals.length : Int) := by have := hv.out; omega
              subst e6
              clear hc z5 z6
              by_cases t4 : q ≤ l
              · have N := told_no hlt hv.out Hq.out Hu.out hno.out (Or.inl t4)
                have HN : Hid (toldFrom (-1) ats vals = false) := N
                clear N
                go_wp2
                go_ret
                exact ⟨ret_bool (by rw [E.out, HN.out]), hb0 _⟩
              by_cases t5 : 4 ≤ q
              · have HN : Hid (toldFrom (-1) ats vals = false) := told_no hlt hv.out Hq.out Hu.out hno.out (Or.inr (Or.inl t5))
                go_wp2
                go_ret
                exact ⟨ret_bool (by rw [E.out, HN.out]), hb0 _⟩
              go_wp2_with fail
              refine (isValue_any u _).mono ?_
              rintro e wx ⟨rfl, hw⟩
              subst hw
              cases t6 : valB u
              · have HN : Hid (toldFrom (-1) ats vals = false) := told_no hlt hv.out Hq.out Hu.out hno.out (Or.inr (Or.inr t6))
                go_wp2
                go_ret
                exact ⟨ret_bool (by rw [E.out, HN.out]), hb0 _⟩
              · have HN : Hid (toldFrom (-1) ats vals = toldFrom q (ats.drop (k + 1)) (vals.drop (k + 1))) := told_yes hlt hv.out Hq.out Hu.out hno.out (by omega) (by omega) t6
                go_wp2
                go_round
                case rel => exact ⟨k + 1, q, by omega, by go_num, rfl, HN⟩
                case measure => simp [intOf]; omega
            · have HN : Hid (toldFrom (-1) ats vals = true) := told_fin hlt hno.out
              go_wp2
              go_ret
              exact ⟨ret_bool (by rw [E.out, HN.out]), hb0 _⟩
        · have tl : ats.length = 0 := by omega
          have ET : Hid (toldFrom (-1) ats vals = true) := by rw [List.eq_nil_of_length_eq_zero tl]; unfold Hid toldFrom; rfl
          clear hc z5 z6
          go_enter Try.func123, Try.ntmps123
          go_wp2
          refine wp_loop_rounds 1 ?_; rw [rounds_succ]
          go_wp2
          go_ret
          exact ⟨ret_bool (by rw [E.out, ET.out]), hb0 _⟩
    · have E : Hid (goodToldF ⟨kind, node, id, ops, deps, ats, vals⟩ = false) := by unfold Hid; rw [E1.out, decide_eq_false (by simp at t2; omega), Bool.false_and]
      by_cases t1 : kind = 5
      · have t1' : (kind != 5) = false := by simpa using t1
        clear hA t1
        go_enter Try.func123, Try.ntmps123
        go_wp2
        go_ret
        exact ⟨ret_bool E.out.symm, hb0 _⟩
      · have t1' : (kind != 5) = true := by simpa using t1
        have t3 : ¬ 0 < ats.length := fun h => hA ⟨t1, h⟩
        clear hA t1
        go_enter Try.func123, Try.ntmps123
        go_wp2
        go_ret
        exact ⟨ret_bool E.out.symm, hb0 _⟩

theorem frame_box (w : World) (o : Obj) : Below w.heap.size w (w.alloc o) := (Below.refl w.heap.size w).alloc (Nat.le_refl _) o

set_option maxRecDepth 100000 in
set_option maxHeartbeats 1000000 in
theorem wgood_any (v : Value) (f : FrameL) (w : World) (hv : FrameV w v f) :
    Calls Try.prog 87 #[v] w fun e w' => e = .returned (.int .i64 (goodL f)) ∧ Below w.heap.size w w' := by
  have hvo := fun o => hv.later (frame_box w o)
  have hb0 := frame_box w
  obtain ⟨a3, c3, a4, c4, a5, c5, a6, c6, rfl, _⟩ := hv
  obtain ⟨kind, node, id, ops, deps, ats, vals⟩ := f
  simp only at hvo
  by_cases h1 : kind < 1
  · have E : Hid (goodL ⟨kind, node, id, ops, deps, ats, vals⟩ = 3) := by unfold Hid goodL; rw [if_pos (by simp only; omega)]
    clear hvo
    go_enter Try.func87, Try.ntmps87
    go_wp2
    go_ret
    exact ⟨ret_int E.out.symm, hb0 _⟩
  by_cases h2 : 5 < kind
  · have E : Hid (goodL ⟨kind, node, id, ops, deps, ats, vals⟩ = 3) := by unfold Hid goodL; rw [if_pos (by simp only; omega)]
    clear hvo
    go_enter Try.func87, Try.ntmps87
    go_wp2
    go_ret
    exact ⟨ret_int E.out.symm, hb0 _⟩
  have E0 : Hid (goodL ⟨kind, node, id, ops, deps, ats, vals⟩ = if node < 0 ∨ 6 ≤ node ∨ id < 0 ∨ 32 ≤ id then 2 else if goodOpsF ⟨kind, node, id, ops, deps, ats, vals⟩ && (goodDepsF ⟨kind, node, id, ops, deps, ats, vals⟩ && goodToldF ⟨kind, node, id, ops, deps, ats, vals⟩) then 0 else 1) := by
    unfold Hid goodL; rw [if_neg (by simp only; omega)]
  by_cases h3 : node < 0
  · have E : Hid (goodL ⟨kind, node, id, ops, deps, ats, vals⟩ = 2) := by unfold Hid; rw [E0.out, if_pos (by omega)]
    clear hvo
    go_enter Try.func87, Try.ntmps87
    go_wp2
    go_ret
    exact ⟨ret_int E.out.symm, hb0 _⟩
  by_cases h4 : 6 ≤ node
  · have E : Hid (goodL ⟨kind, node, id, ops, deps, ats, vals⟩ = 2) := by unfold Hid; rw [E0.out, if_pos (by omega)]
    clear hvo
    go_enter Try.func87, Try.ntmps87
    go_wp2
    go_ret
    exact ⟨ret_int E.out.symm, hb0 _⟩
  by_cases h5 : id < 0
  · have E : Hid (goodL ⟨kind, node, id, ops, deps, ats, vals⟩ = 2) := by unfold Hid; rw [E0.out, if_pos (by omega)]
    clear hvo
    go_enter Try.func87, Try.ntmps87
    go_wp2
    go_ret
    exact ⟨ret_int E.out.symm, hb0 _⟩
  by_cases h6 : 32 ≤ id
  · have E : Hid (goodL ⟨kind, node, id, ops, deps, ats, vals⟩ = 2) := by unfold Hid; rw [E0.out, if_pos (by omega)]
    clear hvo
    go_enter Try.func87, Try.ntmps87
    go_wp2
    go_ret
    exact ⟨ret_int E.out.symm, hb0 _⟩
  have E1 : Hid (goodL ⟨kind, node, id, ops, deps, ats, vals⟩ = if goodOpsF ⟨kind, node, id, ops, deps, ats, vals⟩ && (goodDepsF ⟨kind, node, id, ops, deps, ats, vals⟩ && goodToldF ⟨kind, node, id, ops, deps, ats, vals⟩) then 0 else 1) := by
    unfold Hid; rw [E0.out, if_neg (by omega)]
  clear E0
  go_enter Try.func87, Try.ntmps87
  go_wp2_with fail
  obtain ⟨wo, hwo⟩ : ∃ wo, wo = w.alloc (.cells #[.int .i64 kind, .int .i64 node, .int .i64 id, .slice a3 ops.length c3, .slice a4 deps.length c4, .slice a5 ats.length c5, .slice a6 vals.length c6] 43) := ⟨_, rfl⟩
  have hb1 := hb0 (.cells #[.int .i64 kind, .int .i64 node, .int .i64 id, .slice a3 ops.length c3, .slice a4 deps.length c4, .slice a5 ats.length c5, .slice a6 vals.length c6] 43)
  have hv1 := hvo (.cells #[.int .i64 kind, .int .i64 node, .int .i64 id, .slice a3 ops.length c3, .slice a4 deps.length c4, .slice a5 ats.length c5, .slice a6 vals.length c6] 43)
  have hf1 : FAt (w.alloc (.cells #[.int .i64 kind, .int .i64 node, .int .i64 id, .slice a3 ops.length c3, .slice a4 deps.length c4, .slice a5 ats.length c5, .slice a6 vals.length c6] 43)) w.heap.size kind node id (.slice a3 ops.length c3) (.slice a4 deps.length c4) (.slice a5 ats.length c5) (.slice a6 vals.length c6) := ⟨_, heap_new _ _⟩
  rw [← hwo] at hb1 hv1 hf1 ⊢
  clear hwo hvo hb0
  refine (wgoodOps_any _ _ _ hv1).mono ?_
  rintro e w1 ⟨rfl, hc⟩
  have hb2 := hb1.trans (hc.mono hb1.size)
  have hv2 := hv1.later hc
  have hf2 := hf1.block (hc.block _ hf1.lt)
  clear hc hb1 hv1 hf1
  cases t1 : goodOpsF ⟨kind, node, id, ops, deps, ats, vals⟩
  · have E : Hid (goodL ⟨kind, node, id, ops, deps, ats, vals⟩ = 1) := by unfold Hid; rw [E1.out, t1]; rfl
    go_wp2
    go_ret
    exact ⟨ret_int E.out.symm, hb2⟩
  obtain ⟨q0, q1, q2, q3, q4, q5, q6⟩ := hf2.cell
  go_wp2_with fail
  refine (wgoodDeps_any _ _ _ hv2).mono ?_
  rintro e w2 ⟨rfl, hc⟩
  have hb3 := hb2.trans (hc.mono hb2.size)
  have hv3 := hv2.later hc
  have hf3 := hf2.block (hc.block _ hf2.lt)
  clear hc hb2 hv2 hf2 q0 q1 q2 q3 q4 q5 q6
  cases t2 : goodDepsF ⟨kind, node, id, ops, deps, ats, vals⟩
  · have E : Hid (goodL ⟨kind, node, id, ops, deps, ats, vals⟩ = 1) := by unfold Hid; rw [E1.out, t1, t2]; rfl
    go_wp2
    go_ret
    exact ⟨ret_int E.out.symm, hb3⟩
  obtain ⟨q0, q1, q2, q3, q4, q5, q6⟩ := hf3.cell
  go_wp2_with fail
  refine (wgoodTold_any _ _ _ hv3).mono ?_
  rintro e w3 ⟨rfl, hc⟩
  have hb4 := hb3.trans (hc.mono hb3.size)
  clear hc hb3 hv3 hf3 q0 q1 q2 q3 q4 q5 q6
  cases t3 : goodToldF ⟨kind, node, id, ops, deps, ats, vals⟩
  · have E : Hid (goodL ⟨kind, node, id, ops, deps, ats, vals⟩ = 1) := by unfold Hid; rw [E1.out, t1, t2, t3]; rfl
    go_wp2
    go_ret
    exact ⟨ret_int E.out.symm, hb4⟩
  · have E : Hid (goodL ⟨kind, node, id, ops, deps, ats, vals⟩ = 0) := by unfold Hid; rw [E1.out, t1, t2, t3]; rfl
    go_wp2
    go_ret
    exact ⟨ret_int E.out.symm, hb4⟩

end Go.Proofs.Ytkoefoccbjhoiab

namespace Go.Proofs.Ytkoefoccbjhoiab
open Go.RowKit

theorem zero_good {c : CaseL} (hb : c.begun = false) : goodCB c = isZeroB c := by
  unfold goodCB isZeroB
  rw [if_neg (by rw [hb]; decide), Bool.eq_iff_iff]
  simp only [Bool.and_eq_true, Bool.not_eq_true', List.isEmpty_iff, noneB, sameB, sameI, List.all_eq_true, List.mem_range, decide_eq_true_eq, beq_iff_eq]
  constructor
  · rintro ⟨⟨⟨⟨⟨⟨h1, h2⟩, h3⟩, h4⟩, h5⟩, h6⟩, h7⟩
    exact ⟨h1, by rw [h2, h5]; rfl, h3, h4, h6, h7⟩
  · rintro ⟨h1, h2, h3, h4, h6, h7⟩
    exact ⟨⟨⟨⟨⟨⟨h1, List.eq_nil_of_length_eq_zero (by omega)⟩, h3⟩, h4⟩, List.eq_nil_of_length_eq_zero (by omega)⟩, h6⟩, h7⟩

set_option maxRecDepth 100000 in
set_option maxHeartbeats 1000000 in
theorem p_good (gr : Array Value) (c : CaseL) (w : World) (h : CaseV w gr c) :
    Calls Try.prog 50 #[.agg gr] w fun e w' => e = .returned (.bool (goodCB c)) ∧ Below w.heap.size w w' := by
  obtain ⟨W, hW⟩ : ∃ W, W = w.alloc (.cells gr 73) := ⟨_, rfl⟩
  have hb : Below w.heap.size w W := by rw [hW]; exact (Below.refl _ _).alloc (Nat.le_refl _) _
  have hB : InBox w.heap.size W gr c := by rw [hW]; exact InBox.new h
  have rB := hB.row
  have tB := hB.case.row
  have HB : Hid (InBox w.heap.size W gr c) := hB
  have HW : Hid (W = w.alloc (.cells gr 73)) := hW
  have q0 := hB.begun
  obtain ⟨a2, c2, q2, hs2, hl2⟩ := hB.ops
  obtain ⟨a5, c5, q5, hs5, hl5⟩ := hB.deps
  clear hW hB h
  cases t0 : c.begun
  · have HE : Hid (goodCB c = isZeroB c) := zero_good t0
    rw [t0] at q0
    go_enter Try.func50, Try.ntmps50
    go_upto_region 1 with fail
    rw [← HW.out]
    clear HW
    go_wp2_with (first
      | ((with_reducible apply wpl_row rB); (· rfl); (· exact tB); (· rfl); simp only [Act.put, List.setIfInBounds_toArray, List.set_cons_zero, List.set_cons_succ])
      | fail)
    refine (p_isZero gr c W HB.out.case).mono ?_
    rintro e w1 ⟨rfl, hb1⟩
    have hb2 := hb.trans (hb1.mono hb.size)
    clear hb1
    go_wp2
    go_ret
    exact ⟨ret_bool HE.out.symm, hb2⟩
  · have HE : Hid (goodCB c = (goodOpsL c.ops && risingFrom (-1) c.deps)) := good_parts t0
    rw [t0] at q0
    go_enter Try.func50, Try.ntmps50
    go_upto_region 1 with fail
    rw [← HW.out]
    clear HW
    go_wp2_with fail
    refine (goodOps_any a2 c2 c.ops W hs2.2.1 hs2.1).mono ?_
    rintro e w1 ⟨rfl, hb1⟩
    have hb2 := hb.trans (hb1.mono hb.size)
    have hs5' := hs5.later hb1
    have p5 : w1.cell? ⟨w.heap.size, 15, none⟩ = some (.slice a5 c.deps.length c5) := by rw [hb1.cell (p := ⟨w.heap.size, 15, none⟩) HB.out.lt]; exact q5
    clear hb1 q0 q2 q5
    cases t1 : goodOpsL c.ops
    · have HF : Hid (goodCB c = false) := by unfold Hid; rw [HE.out, t1]; rfl
      go_wp2
      go_ret
      exact ⟨ret_bool HF.out.symm, hb2⟩
    · have HF : Hid (goodCB c = risingFrom (-1) c.deps) := by unfold Hid; rw [HE.out, t1]; rfl
      go_wp2_with fail
      refine (rising_any a5 c5 c.deps w1 hs5'.2.1 hs5'.1).mono ?_
      rintro e w2 ⟨rfl, hw⟩
      subst hw
      go_wp2
      go_ret
      exact ⟨ret_bool HF.out.symm, hb2⟩

set_option maxRecDepth 100000 in
set_option maxHeartbeats 1000000 in
theorem p_isCaseOf (gr : Array Value) (c : CaseL) (id : Int) (w : World) (h : CaseV w gr c) :
    Calls Try.prog 93 #[.agg gr, .int .i64 id] w fun e w' => e = .returned (.bool (isCaseOfB c id)) ∧ Below w.heap.size w w' := by
  obtain ⟨W, hW⟩ : ∃ W, W = w.alloc (.cells gr 73) := ⟨_, rfl⟩
  have hb : Below w.heap.size w W := by rw [hW]; exact (Below.refl _ _).alloc (Nat.le_refl _) _
  have hB : InBox w.heap.size W gr c := by rw [hW]; exact InBox.new h
  have rB := hB.row
  have tB := hB.case.row
  have HB : Hid (InBox w.heap.size W gr c) := hB
  have HW : Hid (W = w.alloc (.cells gr 73)) := hW
  clear hW hB h
  go_enter Try.func93, Try.ntmps93
  go_upto_region 1 with fail
  rw [← HW.out]
  clear HW
  go_wp2_with (first
    | ((with_reducible apply wpl_row rB); (· rfl); (· exact tB); (· rfl); simp only [Act.put, List.setIfInBounds_toArray, List.set_cons_zero, List.set_cons_succ])
    | fail)
  refine (p_good gr c W HB.out.case).mono ?_
  rintro e w1 ⟨rfl, hb1⟩
  have hb2 := hb.trans (hb1.mono hb.size)
  have HB1 : Hid (InBox w.heap.size w1 gr c) := HB.out.later hb1
  clear hb1 rB
  cases t1 : goodCB c
  · have HE : Hid (isCaseOfB c id = false) := by unfold Hid isCaseOfB; rw [t1]; rfl
    go_wp2
    go_ret
    exact ⟨ret_bool HE.out.symm, hb2⟩
  have q0 := HB1.out.begun
  cases t2 : c.begun
  · have HE : Hid (isCaseOfB c id = false) := by unfold Hid isCaseOfB; rw [t1, t2]; rfl
    rw [t2] at q0
    go_wp2
    go_ret
    exact ⟨ret_bool HE.out.symm, hb2⟩
  have HE : Hid (isCaseOfB c id = !hasL c.deps id) := by unfold Hid isCaseOfB; rw [t1, t2]; rfl
  rw [t2] at q0
  obtain ⟨a5, c5, q5, hs5, hl5⟩ := HB1.out.deps
  go_wp2_with fail
  refine (contains_any a5 c5 c.deps id w1 hs5.2.1 hs5.1).mono ?_
  rintro e w2 ⟨rfl, hw⟩
  subst hw
  go_wp2
  go_ret
  exact ⟨ret_bool HE.out.symm, hb2⟩

end Go.Proofs.Ytkoefoccbjhoiab

namespace Go.Proofs.Ytkoefoccbjhoiab
open Go.RowKit

def lackAt (c : CaseL) (sh : Int) (i : Nat) : Bool := touchB sh (c.ops.getD i (0, 0, 0)) && !c.has i
theorem lacks_no {c : CaseL} {sh : Int} {k : Nat} (h : (List.range k).any (lackAt c sh) = false) (hk : ¬ k < c.ops.length) (hk' : k ≤ c.ops.length) : c.lacks sh = false := by
  have : k = c.ops.length := by omega
  rw [this] at h
  exact h
theorem lacks_step {c : CaseL} {sh : Int} {k : Nat} (h : (List.range k).any (lackAt c sh) = false) (h1 : lackAt c sh k = false) : (List.range (k + 1)).any (lackAt c sh) = false := by
  rw [List.range_succ, List.any_append, h]
  simp [h1]
theorem lacks_yes {c : CaseL} {sh : Int} {k : Nat} (hk : k < c.ops.length) (h1 : lackAt c sh k = true) : c.lacks sh = true := by
  unfold CaseL.lacks
  rw [List.any_eq_true]
  exact ⟨k, List.mem_range.2 hk, h1⟩

set_option maxRecDepth 100000 in
set_option maxHeartbeats 1000000 in
theorem p_lacksValue (gr : Array Value) (c : CaseL) (sh : Int) (w : World) (h : CaseV w gr c) (h4 : c.ops.length ≤ 4) :
    Calls Try.prog 126 #[.agg gr, .int .i64 sh] w fun e w' => e = .returned (.bool (c.lacks sh)) ∧ Below w.heap.size w w' := by
  obtain ⟨W, hW⟩ : ∃ W, W = w.alloc (.cells gr 73) := ⟨_, rfl⟩
  have hb : Below w.heap.size w W := by rw [hW]; exact (Below.refl _ _).alloc (Nat.le_refl _) _
  have hzW : W.heap.size = w.heap.size + 1 := by rw [hW]; exact size_push _ _
  have hB : InBox w.heap.size W gr c := by rw [hW]; exact InBox.new h
  have HB : Hid (InBox w.heap.size W gr c) := hB
  have HW : Hid (W = w.alloc (.cells gr 73)) := hW
  obtain ⟨a2, c2, q2, hs2, hl2⟩ := hB.ops
  clear hW hB h
  go_enter Try.func126, Try.ntmps126
  go_upto_region 1 with fail
  rw [← HW.out]
  clear HW
  rcases hs2.1 with h0 | ⟨b, off, rfl, hbl, hc⟩
  · have HE : Hid (c.lacks sh = false) := by unfold Hid CaseL.lacks; rw [h0]; rfl
    have hl0 : c.ops.length = 0 := by rw [h0]; rfl
    rw [hl0] at q2
    clear hl0 h0
    go_wp2
    refine wp_loop_rounds 1 ?_; rw [rounds_succ]
    go_wp2
    go_ret
    exact ⟨ret_bool HE.out.symm, hb⟩
  · have HC : Hid (∀ i, i < c.ops.length → W.cell? ⟨b, off + i * 3, none⟩ = some (.int .i64 (c.ops.getD i (0, 0, 0)).1) ∧
      W.cell? ⟨b, off + i * 3 + 1, none⟩ = some (.int .i64 (c.ops.getD i (0, 0, 0)).2.1) ∧ W.cell? ⟨b, off + i * 3 + 2, none⟩ = some (.int .i64 (c.ops.getD i (0, 0, 0)).2.2)) := hc
    clear hc
    go_wp2
    go_loopw [10] (fun i wr => ∃ k : Nat, k ≤ c.ops.length ∧ i = .int .i64 k ∧ Hid ((List.range k).any (lackAt c sh) = false) ∧ Below W.heap.size W wr) (fun i _ => c.ops.length - (intOf i).toNat)
    case atStart => exact ⟨0, Nat.zero_le _, rfl, rfl, Below.refl _ _⟩
    case round =>
      obtain ⟨k, hk, rfl, HNo, hBw⟩ := hrel
      have hsz := hBw.size
      have HBw : Hid (Below w.heap.size w wr) := hb.trans (hBw.mono (by omega))
      by_cases hlt : k < c.ops.length
      · obtain ⟨q0, q1, q3, Hq, e0, e1, e2⟩ := OpsAt.at HC.out hbl hBw hlt
        have hk4 : k < 4 := by omega
        have eh : ∀ o, (wr.alloc o).cell? ⟨w.heap.size, 16 + k, none⟩ = some (.bool (c.has k)) := fun o => (HB.out.later (hBw.alloc hsz o)).has hk4
        have HL : Hid (lackAt c sh k = ((q1 % 2 == sh) && !c.has k)) := by unfold Hid lackAt; rw [Hq.out]; rfl
        have n1 : (0 : Int) ≤ (k : Int) ∧ (k : Int) < 4 := by omega
        have HA : Hid (∀ o, Below W.heap.size W (wr.alloc o)) := fun o => hBw.alloc hsz o
        have HA' : Hid (∀ o, Below w.heap.size w (wr.alloc o)) := fun o => HBw.out.alloc (by have := HBw.out.size; omega) o
        cases t1 : q1 % 2 == sh
        · have HF : Hid (lackAt c sh k = false) := by unfold Hid; rw [HL.out, t1]; rfl
          go_wp2_with (go_at_call 104; refine (shard_any _ _).mono ?_; rintro e w' ⟨rfl, rfl⟩)
          go_roundw
          case rel => exact ⟨k + 1, by omega, by go_num, lacks_step HNo.out HF.out, HA.out _⟩
          case measure => simp [intOf]; omega
        · cases t2 : c.has k
          · have HF : Hid (lackAt c sh k = true) := by unfold Hid; rw [HL.out, t1, t2]; rfl
            rw [t2] at eh
            go_wp2_with (go_at_call 104; refine (shard_any _ _).mono ?_; rintro e w' ⟨rfl, rfl⟩)
            go_ret
            exact ⟨ret_bool (lacks_yes hlt HF.out).symm, HA'.out _⟩
          · have HF : Hid (lackAt c sh k = false) := by unfold Hid; rw [HL.out, t1, t2]; rfl
            rw [t2] at eh
            go_wp2_with (go_at_call 104; refine (shard_any _ _).mono ?_; rintro e w' ⟨rfl, rfl⟩)
            go_roundw
            case rel => exact ⟨k + 1, by omega, by go_num, lacks_step HNo.out HF.out, HA.out _⟩
            case measure => simp [intOf]; omega
      · go_wp2
        go_ret
        exact ⟨ret_bool (lacks_no HNo.out hlt hk).symm, HBw.out⟩

/-- What is wanted of a node. -/
theorem wants_open {c : CaseL} {n : Nat} (hf : c.fixed = false) : c.wants n = (!c.told n && touchesL c.ops (ofL n)) := by
  unfold CaseL.wants
  rw [if_neg (by rw [hf]; decide), Bool.and_comm]
theorem wants_fixed {c : CaseL} {n : Nat} (hf : c.fixed = true) : c.wants n = (!c.known n || c.lacks (ofL n)) := by
  unfold CaseL.wants
  rw [if_pos hf]

set_option maxRecDepth 100000 in
set_option maxHeartbeats 1000000 in
theorem p_lacks (gr : Array Value) (c : CaseL) (n : Nat) (hn : n < 6) (w : World) (h : CaseV w gr c) (h4 : c.ops.length ≤ 4) :
    Calls Try.prog 94 #[.agg gr, .int .i64 n] w fun e w' => e = .returned (.bool (c.wants n)) ∧ Below w.heap.size w w' := by
  obtain ⟨W, hW⟩ : ∃ W, W = w.alloc (.cells gr 73) := ⟨_, rfl⟩
  have hb : Below w.heap.size w W := by rw [hW]; exact (Below.refl _ _).alloc (Nat.le_refl _) _
  have hzW : W.heap.size = w.heap.size + 1 := by rw [hW]; exact size_push _ _
  have hB : InBox w.heap.size W gr c := by rw [hW]; exact InBox.new h
  have HB : Hid (InBox w.heap.size W gr c) := hB
  have HW : Hid (W = w.alloc (.cells gr 73)) := hW
  have q1 := hB.fixed
  have n1 : (0 : Int) ≤ (n : Int) ∧ (n : Int) < 6 := by omega
  clear hW h
  cases t0 : c.fixed
  · rw [t0] at q1
    have HE : Hid (c.wants n = (!c.told n && touchesL c.ops (ofL n))) := wants_open t0
    obtain ⟨a2, c2, q2, hs2, hl2⟩ := hB.ops
    have q3 := hB.told hn
    clear hB
    go_enter Try.func94, Try.ntmps94
    go_upto_region 1 with fail
    rw [← HW.out]
    clear HW
    go_upto_region 2 with fail
    cases t1 : c.told n
    · have HF : Hid (c.wants n = touchesL c.ops (ofL n)) := by unfold Hid; rw [HE.out, t1]; rfl
      rw [t1] at q3
      go_region_held3 (fun w' => w'.cell? ⟨w.heap.size, 3 + n, none⟩ = some (.bool false) ∧ w'.cell? ⟨w.heap.size, 2, none⟩ = some (.slice a2 c.ops.length c2)) (first | exact ⟨q3, q2⟩ | exact ⟨k3, k2⟩ | assumption) (first
        | (go_at_call 58; refine (of_any _ _).mono ?_; rintro e w' ⟨rfl, rfl⟩)
        | (go_at_call 57; refine (touches_any a2 c2 c.ops (ofL n) _ hs2.2.1 (hs2.later (Below.drew (Below.refl _ _))).1).mono ?_; rintro e w3 ⟨rfl, hb3⟩; have HB3 : Hid (Below w.heap.size w w3) := hb.drew.trans (hb3.mono (show w.heap.size ≤ W.heap.size by omega)); have k3 : w3.cell? ⟨w.heap.size, 3 + n, none⟩ = some (.bool false) := (by rw [hb3.cell (p := ⟨w.heap.size, 3 + n, none⟩) (show w.heap.size < W.heap.size by omega)]; exact q3); have k2 : w3.cell? ⟨w.heap.size, 2, none⟩ = some (.slice a2 c.ops.length c2) := (by rw [hb3.cell (p := ⟨w.heap.size, 2, none⟩) (show w.heap.size < W.heap.size by omega)]; exact q2); clear hb3)
        | fail)
      all_goals
        go_wp2
        go_ret
        exact ⟨ret_bool HF.out.symm, HB3.out⟩
    · have HF : Hid (c.wants n = false) := by unfold Hid; rw [HE.out, t1]; rfl
      rw [t1] at q3
      go_region
      all_goals
        go_wp2
        go_ret
        exact ⟨ret_bool HF.out.symm, hb.drew⟩
  · rw [t0] at q1
    have HE : Hid (c.wants n = (!c.known n || c.lacks (ofL n))) := wants_fixed t0
    have q3 := hB.known hn
    clear hB
    go_enter Try.func94, Try.ntmps94
    go_upto_region 1 with fail
    rw [← HW.out]
    clear HW
    go_upto_region 3 with fail
    cases t1 : c.known n
    · have HF : Hid (c.wants n = true) := by unfold Hid; rw [HE.out, t1]; rfl
      rw [t1] at q3
      go_region
      all_goals
        go_wp2
        go_ret
        exact ⟨ret_bool HF.out.symm, hb.drew⟩
    · have HF : Hid (c.wants n = c.lacks (ofL n)) := by unfold Hid; rw [HE.out, t1]; rfl
      rw [t1] at q3
      have rB := HB.out.range
      have z1 := HB.out.case.len
      obtain ⟨gl, hgl⟩ : ∃ gl, gl = gr.toList := ⟨_, rfl⟩
      rw [← hgl] at rB z1
      have HLV : Hid (∀ wx, wx = W.drew → Calls Try.prog 126 #[.agg gl.toArray, .int .i64 (ofL n)] wx fun e w' => e = .returned (.bool (c.lacks (ofL n))) ∧ Hid (Below w.heap.size w w') ∧ (w'.cell? ⟨w.heap.size, 9 + n, none⟩ = some (.bool true) ∧ w'.rangeAt w.heap.size 0 gl)) := by
        rintro wx rfl
        rw [hgl, Array.toArray_toList]
        refine (p_lacksValue gr c (ofL n) _ (HB.out.later (Below.drew (Below.refl _ _))).case h4).mono ?_
        rintro e w3 ⟨rfl, hb3⟩
        have hb3' : Below W.heap.size W w3 := (Below.drew (Below.refl _ _)).trans hb3
        refine ⟨rfl, hb.trans (hb3'.mono (by omega)), ?_, fun j v hv => ?_⟩
        · rw [hb3'.cell (p := ⟨w.heap.size, 9 + n, none⟩) (show w.heap.size < W.heap.size by omega)]
          exact q3
        · rw [hb3'.cell (p := ⟨w.heap.size, 0 + j, none⟩) (show w.heap.size < W.heap.size by omega)]
          rw [← hgl] at hv
          exact rB j v hv
      clear hgl
      refine wp_region_held_drew (S := fun w' => w'.cell? ⟨w.heap.size, 9 + n, none⟩ = some (.bool true) ∧ w'.rangeAt w.heap.size 0 gl) (by kernel_rfl) ⟨q3, rB⟩ ?_
      intro hH
      refine wpAnyH_takeD (i := 0) (d := some 20) (v := .int .i64 n) rfl rfl (by kernel_rfl) (by kernel_rfl) (by kernel_rfl) (fun _ _ _ h => h) (Or.inl ⟨by rfl, fun _ _ => by go_simp⟩) hH ?_
      simp only [Act.put, List.setIfInBounds_toArray, List.set_cons_zero, List.set_cons_succ]
      refine wpAnyH_takeD (i := 1) (d := some 21) (v := .pointer (some ⟨w.heap.size, 9, none⟩)) rfl rfl (by kernel_rfl) (by kernel_rfl) (by kernel_rfl) (fun _ _ _ h => h) (Or.inl ⟨by rfl, fun _ _ => by go_simp⟩) hH ?_
      simp only [Act.put, List.setIfInBounds_toArray, List.set_cons_zero, List.set_cons_succ]
      refine wpAnyH_takeD (i := 2) (d := some 22) (v := .pointer (some ⟨w.heap.size, 9 + n, none⟩)) rfl rfl (by kernel_rfl) (by kernel_rfl) (by kernel_rfl) (fun _ _ _ h => h) (Or.inl ⟨by rfl, fun _ _ => by go_simp⟩) hH ?_
      simp only [Act.put, List.setIfInBounds_toArray, List.set_cons_zero, List.set_cons_succ]
      refine wpAnyH_takeD (i := 3) (d := some 23) (v := .bool true) rfl rfl (by kernel_rfl) (by kernel_rfl) (by kernel_rfl) (fun _ _ _ h => h) (Or.inl ⟨by rfl, fun _ hS => by obtain ⟨hS1, hS2⟩ := hS; go_simp⟩) hH ?_
      simp only [Act.put, List.setIfInBounds_toArray, List.set_cons_zero, List.set_cons_succ]
      refine wpAnyH_takeD (i := 4) (d := some 24) (v := .bool false) rfl rfl (by kernel_rfl) (by kernel_rfl) (by kernel_rfl) (fun _ _ _ h => h) (Or.inl ⟨by rfl, fun _ _ => by go_simp⟩) hH ?_
      simp only [Act.put, List.setIfInBounds_toArray, List.set_cons_zero, List.set_cons_succ]
      refine wpAnyH_takeD (i := 5) (d := some 25) (v := .bool false) rfl rfl (by kernel_rfl) (by kernel_rfl) (by kernel_rfl) (fun _ _ _ h => h) (Or.inl ⟨by rfl, fun _ _ => by go_simp⟩) hH ?_
      simp only [Act.put, List.setIfInBounds_toArray, List.set_cons_zero, List.set_cons_succ]
      refine wpAnyH_takeD (i := 6) (d := some 26) (v := .agg gl.toArray) rfl rfl (by kernel_rfl) (by kernel_rfl) (by kernel_rfl) (fun _ _ _ h => h) (yieldsIf_load_mid (by rfl) _ _ rfl _ _ rfl gl _ (fun _ h => h.2) Try.underlying73 rfl z1) hH ?_
      simp only [Act.put, List.setIfInBounds_toArray, List.set_cons_zero, List.set_cons_succ]
      refine wpAnyH_takeD (i := 7) (d := some 27) (v := .int .i64 n) rfl rfl (by kernel_rfl) (by kernel_rfl) (by kernel_rfl) (fun _ _ _ h => h) (Or.inl ⟨by rfl, fun _ _ => by go_simp⟩) hH ?_
      simp only [Act.put, List.setIfInBounds_toArray, List.set_cons_zero, List.set_cons_succ]
      refine wpAnyH_ready (rs := [8]) (by kernel_rfl) (by simp) ?_
      refine AllReadyH.cons rfl (fun K hK => ?_) AllReadyH.nil
      go_simp
      refine (of_any _ _).mono ?_
      rintro e w1 ⟨rfl, hw1⟩
      subst hw1
      go_wp2_with fail
      refine hK.out _ _ (hH) (fun hH2 => ?_)
      clear hK K hH
      have hH := hH2
      clear hH2
      refine wpAnyH_ready (rs := [9]) (by kernel_rfl) (by simp) ?_
      refine AllReadyH.cons rfl (fun K hK => ?_) AllReadyH.nil
      go_simp
      refine (HLV.out _ rfl).mono ?_
      rintro e w3 ⟨rfl, HB3, hS3⟩
      go_wp2_with fail
      refine hK.out _ _ (hS3) (fun hH2 => ?_)
      clear hK K hH
      have hH := hH2
      clear hH2
      refine wpAnyH_takeD (i := 10) (d := some 30) (v := .bool (c.lacks (ofL n))) rfl rfl (by kernel_rfl) (by kernel_rfl) (by kernel_rfl) (fun _ _ _ h => h) (Or.inl ⟨by rfl, fun _ _ => by go_simp⟩) hH ?_
      simp only [Act.put, List.setIfInBounds_toArray, List.set_cons_zero, List.set_cons_succ]
      refine wpAnyH_takeD (i := 11) (d := some 4) (v := .bool (c.lacks (ofL n))) rfl rfl (by kernel_rfl) (by kernel_rfl) (by kernel_rfl) (fun _ _ _ h => h) (Or.inl ⟨by rfl, fun _ _ => by go_simp⟩) hH ?_
      simp only [Act.put, List.setIfInBounds_toArray, List.set_cons_zero, List.set_cons_succ]
      refine wpAnyH_done (by kernel_rfl) ?_ _
      go_wp2
      go_ret
      exact ⟨ret_bool HF.out.symm, HB3.out⟩

end Go.Proofs.Ytkoefoccbjhoiab

namespace Go.Proofs.Ytkoefoccbjhoiab
open Go.RowKit

theorem flat7 : ∀ (css : List (List Value)) (i j : Nat), (∀ k, k < css.length → (css.getD k []).length = 7) → i < css.length → j < 7 → css.flatten[i * 7 + j]? = (css.getD i [])[j]?
  | [], i, j, _, hi, _ => by simp at hi
  | c :: css, 0, j, h, _, hj => by
    have h0 : c.length = 7 := by have := h 0 (by simp); simpa using this
    simp only [List.flatten_cons, Nat.zero_mul, Nat.zero_add, List.getD_cons_zero]
    rw [List.getElem?_append_left (by omega)]
  | c :: css, i + 1, j, h, hi, hj => by
    have h0 : c.length = 7 := by have := h 0 (by simp); simpa using this
    have ih := flat7 css i j (fun k hk => by have := h (k + 1) (by simp; omega); simpa using this) (by simp at hi; omega) hj
    simp only [List.flatten_cons, List.getD_cons_succ]
    rw [List.getElem?_append_right (by omega), ← ih]
    congr 1
    omega
/-- The i-th of them. -/
theorem FramesV.at {B : Nat} {w : World} {a : Option Addr} {cap : Nat} {fs : List FrameL} (h : FramesV B w (.slice a fs.length cap) fs) {i : Nat} (hi : i < fs.length) :
    ∃ g cs, a = some ⟨g, 0, none⟩ ∧ g < w.heap.size ∧ w.rangeAt g (i * 7) cs ∧ cs.length = 7 ∧ FrameV w (.agg cs.toArray) fs[i] := by
  obtain ⟨css, h1, h2, h3⟩ := h
  rcases h2.2 with ⟨_, h0⟩ | ⟨g, cp, cur, hv, hB, hg, hc, hm, hcs, htk⟩
  · omega
  · simp only [Value.slice.injEq] at hv
    obtain ⟨rfl, _, rfl⟩ := hv
    have hlt : g < w.heap.size := (Array.getElem?_eq_some_iff.1 hg).1
    refine ⟨g, css.getD i [], rfl, hlt, fun j u hu => ?_, (h3 i hi).1, (h3 i hi).2.v⟩
    have hj : j < 7 := by
      have := (List.getElem?_eq_some_iff.1 hu).1
      rw [(h3 i hi).1] at this
      exact this
    have hf := flat7 css i j (fun k hk => (h3 k (by omega)).1) (by omega) hj
    rw [hu, ← htk, List.getElem?_take_of_lt (by omega)] at hf
    rw [cell_of_row w g (i * 7 + j) cur _ _ hg]
    simpa using hf
theorem FramesV.form {B : Nat} {w : World} {v : Value} {fs : List FrameL} (h : FramesV B w v fs) : ∃ a cap, v = .slice a fs.length cap := by
  obtain ⟨css, _, h2, _⟩ := h
  obtain ⟨a, cap, e, _⟩ := own_form h2
  exact ⟨a, cap, e⟩
theorem FramesV.len {B : Nat} {w : World} {v : Value} {fs : List FrameL} (h : FramesV B w v fs) : fs.length ≤ maxLen := by
  obtain ⟨css, _, h2, _⟩ := h
  rcases h2.2 with ⟨_, h0⟩ | ⟨g, cp, cur, _, _, _, hc, hm, _⟩
  · omega
  · omega

end Go.Proofs.Ytkoefoccbjhoiab

namespace Go.Proofs.Ytkoefoccbjhoiab
open Go.RowKit

/-- A frame whose lists lie in blocks of which 'ok' holds. -/
def FrameIn (ok : Nat → Prop) (w : World) (v : Value) (f : FrameL) : Prop := ∃ a3 c3 a4 c4 a5 c5 a6 c6,
  v = .agg #[.int .i64 f.kind, .int .i64 f.node, .int .i64 f.id, .slice a3 f.ops.length c3, .slice a4 f.deps.length c4, .slice a5 f.ats.length c5, .slice a6 f.vals.length c6] ∧
  (SlOps w a3 c3 f.ops ∧ OpsIn ok w a3 f.ops) ∧ (SlInts w a4 c4 f.deps ∧ IntsIn ok w a4 f.deps) ∧ (SlInts w a5 c5 f.ats ∧ IntsIn ok w a5 f.ats) ∧ (SlInts w a6 c6 f.vals ∧ IntsIn ok w a6 f.vals)
theorem FrameIn.g {B : Nat} {w : World} {v : Value} {f : FrameL} (h : FrameIn (B ≤ ·) w v f) : FrameG B w v f := h
theorem FrameG.i {B : Nat} {w : World} {v : Value} {f : FrameL} (h : FrameG B w v f) : FrameIn (B ≤ ·) w v f := h
theorem FrameIn.v {ok : Nat → Prop} {w : World} {v : Value} {f : FrameL} (h : FrameIn ok w v f) : FrameV w v f := by
  obtain ⟨a3, c3, a4, c4, a5, c5, a6, c6, e, h3, h4, h5, h6⟩ := h
  exact ⟨a3, c3, a4, c4, a5, c5, a6, c6, e, h3.1, h4.1, h5.1, h6.1⟩
theorem FrameIn.same {ok : Nat → Prop} {w w' : World} {v : Value} {f : FrameL} (h : FrameIn ok w v f) (hb : SameOn ok w w') : FrameIn ok w' v f := by
  obtain ⟨a3, c3, a4, c4, a5, c5, a6, c6, e, h3, h4, h5, h6⟩ := h
  exact ⟨a3, c3, a4, c4, a5, c5, a6, c6, e, slO_same h3 hb, slI_same h4 hb, slI_same h5 hb, slI_same h6 hb⟩
theorem FrameIn.mono {ok ok' : Nat → Prop} {w : World} {v : Value} {f : FrameL} (h : FrameIn ok w v f) (hk : ∀ k, k < w.heap.size → ok k → ok' k) : FrameIn ok' w v f := by
  obtain ⟨a3, c3, a4, c4, a5, c5, a6, c6, e, h3, h4, h5, h6⟩ := h
  exact ⟨a3, c3, a4, c4, a5, c5, a6, c6, e, ⟨h3.1, h3.2.mono hk⟩, ⟨h4.1, h4.2.mono hk⟩, ⟨h5.1, h5.2.mono hk⟩, ⟨h6.1, h6.2.mono hk⟩⟩

/-- A list of frames of which the lists lie beside it, where 'ok' holds. -/
structure FrC (ok : Nat → Prop) (base : Nat) (w : World) (v : Value) (fs : List FrameL) (css : List (List Value)) : Prop where
  len : css.length = fs.length
  own : w.ownsRow base 43 7 v fs.length css.flatten
  each : ∀ i (h : i < fs.length), (css.getD i []).length = 7 ∧ FrameIn (fun b => ok b ∧ v.ownBlock ≠ some b) w (.agg (css.getD i []).toArray) fs[i]
theorem FrC.nil (ok : Nat → Prop) (base : Nat) (w : World) : FrC ok base w (.slice none 0 0) [] [] := ⟨rfl, World.ownsRow_nil _ _ _ _, fun _ h => by simp at h⟩
theorem FrC.v {ok : Nat → Prop} {base B : Nat} {w : World} {v : Value} {fs : List FrameL} {css : List (List Value)} (h : FrC ok base w v fs css) (hB : B ≤ base) (hok : ∀ b, ok b → B ≤ b) : FramesV B w v fs :=
  ⟨css, h.len, own_mono h.own hB, fun i hi => ⟨(h.each i hi).1, ((h.each i hi).2.mono (fun b _ hb => hok b hb.1)).g⟩⟩
theorem FrC.later {ok : Nat → Prop} {base : Nat} {w w' : World} {v : Value} {fs : List FrameL} {css : List (List Value)} (h : FrC ok base w v fs css) (hb : Below w.heap.size w w') : FrC ok base w' v fs css :=
  ⟨h.len, own_same h.own (fun k hk => hb.block k (World.ownsRow.lt h.own k hk).2), fun i hi => ⟨(h.each i hi).1, (h.each i hi).2.same (SameOn.of_size hb)⟩⟩
theorem FrC.mono {ok ok' : Nat → Prop} {base : Nat} {w : World} {v : Value} {fs : List FrameL} {css : List (List Value)} (h : FrC ok base w v fs css) (hk : ∀ k, k < w.heap.size → ok k → ok' k) : FrC ok' base w v fs css :=
  ⟨h.len, h.own, fun i hi => ⟨(h.each i hi).1, (h.each i hi).2.mono (fun b hb h => ⟨hk b hb h.1, h.2⟩)⟩⟩
/-- One more. -/
theorem FrC.snoc {ok : Nat → Prop} {base : Nat} {x Q : World} {v v' : Value} {fs : List FrameL} {css : List (List Value)} (h : FrC ok base x v fs css) {cs : List Value} {f : FrameL} (hl : cs.length = 7)
    (hf : FrameIn (fun b => ok b ∧ v.ownBlock ≠ some b) x (.agg cs.toArray) f) (hown : Q.ownsRow base 43 7 v' (fs.length + 1) (css.flatten ++ cs)) (hg : x.grownBy Q v.ownBlock)
    (hat : v'.ownBlock = v.ownBlock ∨ v'.ownBlock = some x.heap.size) : FrC ok base Q v' (fs ++ [f]) (css ++ [cs]) := by
  have step : ∀ {u : Value} {g : FrameL}, FrameIn (fun b => ok b ∧ v.ownBlock ≠ some b) x u g → FrameIn (fun b => ok b ∧ v'.ownBlock ≠ some b) Q u g := by
    intro u g hu
    have h1 : FrameIn (fun b => (ok b ∧ v.ownBlock ≠ some b) ∧ b < x.heap.size) x u g := hu.mono (fun b hb h => ⟨h, hb⟩)
    have h2 := h1.same (w' := Q) (fun b hb hk => hg.block b hb (fun e => hk.1.2 e.symm))
    refine h2.mono (fun b _ hk => ⟨hk.1.1, fun e => ?_⟩)
    rcases hat with hat | hat
    · exact hk.1.2 (by rw [← hat]; exact e)
    · rw [hat] at e
      have hb := hk.2
      cases e
      omega
  refine ⟨by simp [h.len], by simpa using hown, fun i hi => ?_⟩
  by_cases hlt : i < fs.length
  · have e1 : (css ++ [cs]).getD i [] = css.getD i [] := by simp [List.getD, List.getElem?_append_left (show i < css.length by rw [h.len]; exact hlt)]
    rw [e1, List.getElem_append_left hlt]
    exact ⟨(h.each i hlt).1, step (h.each i hlt).2⟩
  · have hie : i = fs.length := by simp at hi; omega
    subst hie
    have e1 : (css ++ [cs]).getD fs.length [] = cs := by rw [← h.len]; simp [List.getD]
    rw [e1]
    refine ⟨hl, ?_⟩
    rw [List.getElem_append_right (Nat.le_refl _)]
    simp only [Nat.sub_self, List.getElem_cons_zero]
    exact step hf
theorem FrC.one {ok : Nat → Prop} {base : Nat} {w : World} {v : Value} {fs : List FrameL} {css : List (List Value)} (h : FrC ok base w v fs css) : fs.length ≤ maxLen := by
  rcases h.own.2 with ⟨_, h0⟩ | ⟨g, cp, cur, _, _, _, hc, hm, _⟩
  · omega
  · omega
theorem frame_one {ok : Nat → Prop} {w : World} {cs : List Value} {f : FrameL} (h : FrameIn ok w (.agg cs.toArray) f) : cs.length = 7 ∧ ∀ u ∈ cs, u.oneCell' = true := by
  obtain ⟨a3, c3, a4, c4, a5, c5, a6, c6, e, _⟩ := h
  have : cs = [.int .i64 f.kind, .int .i64 f.node, .int .i64 f.id, .slice a3 f.ops.length c3, .slice a4 f.deps.length c4, .slice a5 f.ats.length c5, .slice a6 f.vals.length c6] := by simpa using e
  subst this
  refine ⟨rfl, fun u hu => ?_⟩
  simp at hu
  rcases hu with rfl | rfl | rfl | rfl | rfl | rfl | rfl <;> rfl

end Go.Proofs.Ytkoefoccbjhoiab

namespace Go.Proofs.Ytkoefoccbjhoiab
open Go.RowKit

theorem wpl_set {P : Program} {ops : Array Oper} {Q : Exit → Act → World → Prop} {rest : List Oper} {a : Act} {w : World} {dst : Option Tmp} {type : TypeId} {pos : String} {after : Array Edge} {x v : Operand} {ty t : TypeId} {g : Nat} {cs old : Array Value}
    (hg : w.heap[g]? = some (.cells old t (0, 0))) (hx : a.eval x = .pointer (some ⟨g, 0, none⟩)) (hv : a.eval v = .agg cs) (hr : RowT P ty cs.size) (hz : old.size = cs.size) (h1 : cs.all (·.oneCell') = true)
    (h : wpList P ops Q rest (a.put dst undef) (w.setRow g cs)) : wpList P ops Q (⟨dst, .store ty x v, type, pos, after, none⟩ :: rest) a w := by
  obtain ⟨d, hu, hd, hi⟩ := hr
  exact wpList_store_row rfl ty x v rfl g cs hx hv t old hg hi hz h1 h
/-- A new variable of a type whose zero value is known. -/
theorem wpList_alloc_as {P : Program} {w : World} {ops : Array Oper} {rest : List Oper} {o : Oper} {a : Act} {Q : Exit → Act → World → Prop} (hg : o.guard = none) (ty : TypeId) (ho : o.op = .alloc ty) (cs : Array Value) (hz : (P.info? ty).map (·.zero) = some (some (.agg cs)))
    (h : wpList P ops Q rest (a.put o.dst (.pointer (some ⟨w.heap.size, 0, none⟩))) (w.alloc (.cells cs ty))) : wpList P ops Q (o :: rest) a w := by
  refine wpList_plain hg fun K hK => ?_
  cases hq : P.info? ty with
  | none => simp [hq] at hz
  | some i =>
    have hzz : i.zero = some (.agg cs) := by simpa [hq] using hz
    unfold Oper.wp execOp
    simp [ho, Instr.alloc, zeroValue, typeInfo, hq, hzz, newVar, newRow, Value.cells, go_sem]
    exact hK _ _ h

end Go.Proofs.Ytkoefoccbjhoiab
