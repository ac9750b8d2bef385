/-
  The contracts of package wire's Good and what it calls.
-/
import Derived.Test.YtkoefoccbjhoiaaRState
set_option linter.unusedVariables false
set_option linter.unusedSimpArgs false
namespace Go.Proofs.Ytkoefoccbjhoiaa
open Go.RowKit

theorem beq_flip (a b : Int) : (a == b) = (b == a) := by rw [Bool.eq_iff_iff]; simp; omega
def valB (n : Int) : Bool := decide (-1099511627776 ≤ n ∧ n ≤ 1099511627776)

set_option maxRecDepth 100000 in
set_option maxHeartbeats 400000 in
theorem isValue_any (n : Int) (w : World) :
    Calls Try.prog 90 #[.int .i64 n] w fun e w' => e = .returned (.bool (valB n)) ∧ w' = w := by
  by_cases h1 : -1099511627776 ≤ n
  · by_cases h2 : n ≤ 1099511627776
    · have E : Hid (valB n = true) := decide_eq_true ⟨h1, h2⟩
      go_enter Try.func90, Try.ntmps90
      go_wp2
      go_ret
      exact ⟨ret_bool E.out.symm, rfl⟩
    · have E : Hid (valB n = false) := decide_eq_false (fun h => h2 h.2)
      go_enter Try.func90, Try.ntmps90
      go_wp2
      go_ret
      exact ⟨ret_bool E.out.symm, rfl⟩
  · have E : Hid (valB n = false) := decide_eq_false (fun h => h1 h.1)
    go_enter Try.func90, Try.ntmps90
    go_wp2
    go_ret
    exact ⟨ret_bool E.out.symm, rfl⟩

/- slices.Index: the first place, or -1: here whether there is one -/
set_option maxRecDepth 100000 in
set_option maxHeartbeats 400000 in
theorem indexW_any (a : Option Addr) (cap : Nat) (zs : List Int) (n : Int) (w : World) (hl : zs.length ≤ maxLen) (hz : IntsAt w.heap.size w a zs) :
    Calls Try.prog 96 #[.slice a zs.length cap, .int .i64 n] w fun e w' => (∃ k : Int, e = .returned (.int .i64 k) ∧ decide (0 ≤ k) = hasL zs n) ∧ w' = w := by
  unfold maxLen at hl
  rcases hz with rfl | ⟨b, off, rfl, hb, hc⟩
  · go_enter Try.func96, Try.ntmps96
    go_wp2
    refine wp_loop_rounds 1 ?_; rw [rounds_succ]
    go_wp2
    go_ret
    exact ⟨⟨-1, rfl, rfl⟩, rfl⟩
  · go_enter Try.func96, Try.ntmps96
    go_wp2
    go_loop [8] (fun i => ∃ k : Nat, k ≤ zs.length ∧ i = .int .i64 k ∧ (zs.take k).any (eqB n) = false) (fun i => zs.length - (intOf i).toNat)
    case atStart => exact ⟨0, Nat.zero_le _, rfl, rfl⟩
    case round =>
      obtain ⟨k, hk, rfl, hno⟩ := hrel
      by_cases hlt : k < zs.length
      · obtain ⟨q, Hq, e0⟩ := IntsAt.at hc hb (Below.refl _ _) hlt
        have hm : Hid (eqB n q = (q == n)) := rfl
        clear hc
        cases t1 : n == q
        · go_wp2
          go_round
          case rel => exact ⟨k + 1, by omega, by go_num, any_step hlt Hq.out hno (by rw [hm.out, ← t1]; exact beq_flip _ _)⟩
          case measure => simp [intOf]; omega
        · have HT : Hid (hasL zs n = true) := any_hit hlt Hq.out (by rw [hm.out, ← t1]; exact beq_flip _ _)
          go_wp2
          go_ret
          exact ⟨⟨k, rfl, by rw [HT.out]; simp⟩, rfl⟩
      · have HT : Hid (hasL zs n = false) := any_end hlt hno
        go_wp2
        go_ret
        exact ⟨⟨-1, rfl, by rw [HT.out]; rfl⟩, rfl⟩

set_option maxRecDepth 100000 in
set_option maxHeartbeats 400000 in
theorem contains_any (a : Option Addr) (cap : Nat) (zs : List Int) (n : Int) (w : World) (hl : zs.length ≤ maxLen) (hz : IntsAt w.heap.size w a zs) :
    Calls Try.prog 89 #[.slice a zs.length cap, .int .i64 n] w fun e w' => e = .returned (.bool (hasL zs n)) ∧ w' = w := by
  go_enter Try.func89, Try.ntmps89
  go_wp2_with fail
  refine (indexW_any a cap zs n _ hl hz).mono ?_
  rintro e w1 ⟨⟨k, rfl, hk⟩, hw⟩
  subst hw
  have HK : Hid (decide (0 ≤ k) = hasL zs n) := hk
  clear hk
  by_cases h : 0 ≤ k
  · have HT : Hid (hasL zs n = true) := by unfold Hid; rw [← HK.out]; exact decide_eq_true h
    go_wp2
    go_ret
    exact ⟨ret_bool (by first | exact HT.out.symm | exact HK.out), rfl⟩
  · have HT : Hid (hasL zs n = false) := by unfold Hid; rw [← HK.out]; exact decide_eq_false h
    go_wp2
    go_ret
    exact ⟨ret_bool (by first | exact HT.out.symm | exact HK.out), rfl⟩

set_option maxRecDepth 100000 in
set_option maxHeartbeats 400000 in
theorem wgoodOps_any (v : Value) (f : FrameL) (w : World) (hv : FrameV w v f) :
    Calls Try.prog 73 #[v] w fun e w' => e = .returned (.bool (goodOpsF f)) ∧ Below w.heap.size w w' := by
  obtain ⟨a3, c3, a4, c4, a5, c5, a6, c6, rfl, h3, _⟩ := hv
  obtain ⟨kind, node, id, ops, deps, ats, vals⟩ := f
  simp only at h3
  have hb0 := fun o : Obj => (Below.refl w.heap.size w).alloc (Nat.le_refl _) o
  cases t1 : kind == 1
  · cases t2 : kind == 3
    · have E : Hid (goodOpsF ⟨kind, node, id, ops, deps, ats, vals⟩ = decide (ops.length = 0)) := by simp at t1 t2; simp [Hid, goodOpsF, t1, t2]
      have hl := h3.2.1
      unfold maxLen at hl
      go_enter Try.func73, Try.ntmps73
      go_wp2
      go_ret
      refine ⟨ret_bool ?_, hb0 _⟩
      rw [E.out, Bool.eq_iff_iff]
      simp
      try omega
    · have E : Hid (goodOpsF ⟨kind, node, id, ops, deps, ats, vals⟩ = goodOpsL ops) := by simp at t2; simp [Hid, goodOpsF, t2]
      go_enter Try.func73, Try.ntmps73
      go_wp2_with fail
      refine (goodOps_any a3 c3 ops _ h3.2.1 (h3.1.later (hb0 _))).mono ?_
      rintro e w1 ⟨rfl, hb1⟩
      have hb2 := (hb0 _).trans (hb1.mono (hb0 _).size)
      clear hb1
      go_wp2
      go_ret
      exact ⟨ret_bool E.out.symm, hb2⟩
  · have E : Hid (goodOpsF ⟨kind, node, id, ops, deps, ats, vals⟩ = goodOpsL ops) := by simp at t1; simp [Hid, goodOpsF, t1]
    go_enter Try.func73, Try.ntmps73
    go_wp2_with fail
    refine (goodOps_any a3 c3 ops _ h3.2.1 (h3.1.later (hb0 _))).mono ?_
    rintro e w1 ⟨rfl, hb1⟩
    have hb2 := (hb0 _).trans (hb1.mono (hb0 _).size)
    clear hb1
    go_wp2
    go_ret
    exact ⟨ret_bool E.out.symm, hb2⟩

set_option maxRecDepth 100000 in
set_option maxHeartbeats 400000 in
theorem wgoodDeps_any (v : Value) (f : FrameL) (w : World) (hv : FrameV w v f) :
    Calls Try.prog 74 #[v] w fun e w' => e = .returned (.bool (goodDepsF f)) ∧ Below w.heap.size w w' := by
  obtain ⟨a3, c3, a4, c4, a5, c5, a6, c6, rfl, _, h4, _⟩ := hv
  obtain ⟨kind, node, id, ops, deps, ats, vals⟩ := f
  simp only at h4
  have hb0 := fun o : Obj => (Below.refl w.heap.size w).alloc (Nat.le_refl _) o
  have h4' := fun o : Obj => h4.later (hb0 o)
  cases t1 : kind == 2
  · cases t2 : kind == 3
    · have E : Hid (goodDepsF ⟨kind, node, id, ops, deps, ats, vals⟩ = decide (deps.length = 0)) := by simp at t1 t2; simp [Hid, goodDepsF, t1, t2]
      have hl := h4.2.1
      unfold maxLen at hl
      go_enter Try.func74, Try.ntmps74
      go_wp2
      go_ret
      refine ⟨ret_bool ?_, hb0 _⟩
      rw [E.out, Bool.eq_iff_iff]
      simp
    · have E : Hid (goodDepsF ⟨kind, node, id, ops, deps, ats, vals⟩ = (risingFrom (-1) deps && !hasL deps id)) := by simp at t2; simp [Hid, goodDepsF, t2]
      go_enter Try.func74, Try.ntmps74
      go_wp2_with fail
      refine (rising_any a4 c4 deps _ h4.2.1 (h4' _).1).mono ?_
      rintro e w1 ⟨rfl, hw⟩
      subst hw
      cases tr : risingFrom (-1) deps
      · go_wp2
        go_ret
        exact ⟨ret_bool (by rw [E.out, tr]; rfl), hb0 _⟩
      · go_wp2_with fail
        refine (contains_any a4 c4 deps id _ h4.2.1 (h4' _).1).mono ?_
        rintro e w1 ⟨rfl, hw⟩
        subst hw
        go_wp2
        go_ret
        exact ⟨ret_bool (by rw [E.out, tr]; rfl), hb0 _⟩
  · have E : Hid (goodDepsF ⟨kind, node, id, ops, deps, ats, vals⟩ = (risingFrom (-1) deps && !hasL deps id)) := by simp at t1; simp [Hid, goodDepsF, t1]
    go_enter Try.func74, Try.ntmps74
    go_wp2_with fail
    refine (rising_any a4 c4 deps _ h4.2.1 (h4' _).1).mono ?_
    rintro e w1 ⟨rfl, hw⟩
    subst hw
    cases tr : risingFrom (-1) deps
    · go_wp2
      go_ret
      exact ⟨ret_bool (by rw [E.out, tr]; rfl), hb0 _⟩
    · go_wp2_with fail
      refine (contains_any a4 c4 deps id _ h4.2.1 (h4' _).1).mono ?_
      rintro e w1 ⟨rfl, hw⟩
      subst hw
      go_wp2
      go_ret
      exact ⟨ret_bool (by rw [E.out, tr]; rfl), hb0 _⟩

theorem IntsAt.get {B : Nat} {w : World} {a : Option Addr} {zs : List Int} (h : IntsAt B w a zs) {k : Nat} (hk : k < zs.length) : ∃ q : Int, Hid (zs.getD k 0 = q) ∧ ∃ b off, a = some ⟨b, off, none⟩ ∧ w.cell? ⟨b, off + k, none⟩ = some (.int .i64 q) := by
  rcases h with rfl | ⟨b, off, rfl, _, hc⟩
  · simp at hk
  · exact ⟨_, rfl, b, off, rfl, hc k hk⟩
theorem told_no {xs vs : List Int} {k : Nat} {q u l m : Int} (hk : k < xs.length) (hv : k < vs.length) (hq : xs.getD k 0 = q) (hu : vs.getD k 0 = u) (h : toldFrom m xs vs = toldFrom l (xs.drop k) (vs.drop k)) (hn : q ≤ l ∨ 4 ≤ q ∨ valB u = false) : toldFrom m xs vs = false := by
  rw [h, drop_at hk hq, drop_at hv hu, toldFrom]
  rcases hn with h1 | h1 | h1
  · simp [h1]
  · simp [h1]
  · unfold valB at h1
    rw [h1]
    simp
theorem told_yes {xs vs : List Int} {k : Nat} {q u l m : Int} (hk : k < xs.length) (hv : k < vs.length) (hq : xs.getD k 0 = q) (hu : vs.getD k 0 = u) (h : toldFrom m xs vs = toldFrom l (xs.drop k) (vs.drop k)) (h1 : ¬ q ≤ l) (h2 : ¬ 4 ≤ q) (h3 : valB u = true) : toldFrom m xs vs = toldFrom q (xs.drop (k + 1)) (vs.drop (k + 1)) := by
  rw [h, drop_at hk hq, drop_at hv hu, toldFrom]
  unfold valB at h3
  rw [h3]
  simp [h1, h2]
theorem told_fin {xs vs : List Int} {k : Nat} {l m : Int} (hk : ¬ k < xs.length) (h : toldFrom m xs vs = toldFrom l (xs.drop k) (vs.drop k)) : toldFrom m xs vs = true := by
  rw [h, List.drop_of_length_le (by omega)]
  unfold toldFrom
  rfl

set_option maxRecDepth 100000 in
set_option maxHeartbeats 1000000 in
theorem wgoodTold_any (v : Value) (f : FrameL) (w : World) (hv : FrameV w v f) :
    Calls Try.prog 75 #[v] w fun e w' => e = .returned (.bool (goodToldF f)) ∧ Below w.heap.size w w' := by
  obtain ⟨a3, c3, a4, c4, a5, c5, a6, c6, rfl, _, _, h5, h6⟩ := hv
  obtain ⟨kind, node, id, ops, deps, ats, vals⟩ := f
  simp only at h5 h6
  have hb0 := fun o : Obj => (Below.refl w.heap.size w).alloc (Nat.le_refl _) o
  have h5' := fun o : Obj => h5.later (hb0 o)
  have h6' := fun o : Obj => h6.later (hb0 o)
  have hl5 := h5.2.1
  have hl6 := h6.2.1
  unfold maxLen at hl5 hl6
  have E0 : Hid (goodToldF ⟨kind, node, id, ops, deps, ats, vals⟩ = (decide (kind = 5 ∨ ats.length = 0) && (decide (vals.length = ats.length) && toldFrom (-1) ats vals))) := rfl
  by_cases hA : kind ≠ 5 ∧ 0 < ats.length
  · have E : Hid (goodToldF ⟨kind, node, id, ops, deps, ats, vals⟩ = false) := by unfold Hid; rw [E0.out, decide_eq_false (by omega), Bool.false_and]
    have t1 : (kind != 5) = true := by simpa using hA.1
    have t2 : 0 < ats.length := hA.2
    clear hA
    go_enter Try.func75, Try.ntmps75
    go_wp2
    go_ret
    exact ⟨ret_bool E.out.symm, hb0 _⟩
  · have E1 : Hid (goodToldF ⟨kind, node, id, ops, deps, ats, vals⟩ = (decide (vals.length = ats.length) && toldFrom (-1) ats vals)) := by
      unfold Hid; rw [E0.out, decide_eq_true (by omega), Bool.true_and]
    cases t2 : (vals.length : Int) != (ats.length : Int)
    · have hlen : vals.length = ats.length := by simp at t2; omega
      have E : Hid (goodToldF ⟨kind, node, id, ops, deps, ats, vals⟩ = toldFrom (-1) ats vals) := by unfold Hid; rw [E1.out, decide_eq_true hlen, Bool.true_and]
      have HL : Hid (vals.length = ats.length) := hlen
      have tt : (kind != 5) = false ∨ (kind != 5) = true ∧ ¬ 0 < ats.length := by
        by_cases h : kind = 5
        · left; simpa using h
        · right; exact ⟨by simpa using h, fun h' => hA ⟨h, h'⟩⟩
      have z5 := fun o => (h5' o).1
      have z6 := fun o => (h6' o).1
      clear hlen hA h5' h6'
      rcases h5.1 with hn | ⟨b, off, rfl, hb, hc⟩
      · have tl : ats.length = 0 := by rw [hn]; rfl
        have ET : Hid (toldFrom (-1) ats vals = true) := by rw [hn]; unfold Hid toldFrom; rfl
        have hlt0 : ¬ 0 < ats.length := by omega
        clear hn
        rcases tt with t1 | ⟨t1, t3⟩
        all_goals
          go_enter Try.func75, Try.ntmps75
          go_wp2
          refine wp_loop_rounds 1 ?_; rw [rounds_succ]
          go_wp2
          go_ret
          exact ⟨ret_bool (by rw [E.out, ET.out]), hb0 _⟩
      · have hb' : b ≠ w.heap.size := by omega
        rcases tt with t1 | ⟨t1, t3⟩
        · go_enter Try.func75, Try.ntmps75
          go_wp2
          go_loop [3, 25] (fun l i => ∃ (k : Nat) (q : Int), k ≤ ats.length ∧ i = .int .i64 k ∧ l = .int .i64 q ∧ Hid (toldFrom (-1) ats vals = toldFrom q (ats.drop k) (vals.drop k))) (fun _ i => ats.length - (intOf i).toNat)
          case atStart => exact ⟨0, -1, Nat.zero_le _, rfl, rfl, rfl⟩
          case round =>
            obtain ⟨k, l, hk, rfl, rfl, hno⟩ := hrel
            by_cases hlt : k < ats.length
            · have hv : Hid (k < vals.length) := by unfold Hid; rw [HL.out]; exact hlt
              obtain ⟨q, Hq, e0⟩ := IntsAt.at hc hb (hb0 (.cells #[.int .i64 kind, .int .i64 node, .int .i64 id, .slice a3 ops.length c3, .slice a4 deps.length c4, .slice (some ⟨b, off, none⟩) ats.length c5, .slice a6 vals.length c6] 39)) hlt
              obtain ⟨u, Hu, b', off', e6, f0⟩ := IntsAt.get (z6 (.cells #[.int .i64 kind, .int .i64 node, .int .i64 id, .slice a3 ops.length c3, .slice a4 deps.length c4, .slice (some ⟨b, off, none⟩) ats.length c5, .slice a6 vals.length c6] 39)) hv.out
              have hvi : (k : Int) < (vals.length : Int) := by have := hv.out; omega
              subst e6
              clear hc z5 z6
              by_cases t4 : q ≤ l
              · have N := told_no hlt hv.out Hq.out Hu.out hno.out (Or.inl t4)
                have HN : Hid (toldFrom (-1) ats vals = false) := N
                clear N
                go_wp2
                go_ret
                exact ⟨ret_bool (by rw [E.out, HN.out]), hb0 _⟩
              by_cases t5 : 4 ≤ q
              · have HN : Hid (toldFrom (-1) ats vals = false) := told_no hlt hv.out Hq.out Hu.out hno.out (Or.inr (Or.inl t5))
                go_wp2
                go_ret
                exact ⟨ret_bool (by rw [E.out, HN.out]), hb0 _⟩
              go_wp2_with fail
              refine (isValue_any u _).mono ?_
              rintro e wx ⟨rfl, hw⟩
              subst hw
              cases t6 : valB u
              · have HN : Hid (toldFrom (-1) ats vals = false) := told_no hlt hv.out Hq.out Hu.out hno.out (Or.inr (Or.inr t6))
                go_wp2
                go_ret
                exact ⟨ret_bool (by rw [E.out, HN.out]), hb0 _⟩
              · have HN : Hid (toldFrom (-1) ats vals = toldFrom q (ats.drop (k + 1)) (vals.drop (k + 1))) := told_yes hlt hv.out Hq.out Hu.out hno.out (by omega) (by omega) t6
                go_wp2
                go_round
                case rel => exact ⟨k + 1, q, by omega, by go_num, rfl, HN⟩
                case measure => simp [intOf]; omega
            · have HN : Hid (toldFrom (-1) ats vals = true) := told_fin hlt hno.out
              go_wp2
              go_ret
              exact ⟨ret_bool (by rw [E.out, HN.out]), hb0 _⟩
        · have tl : ats.length = 0 := by omega
          have ET : Hid (toldFrom (-1) ats vals = true) := by rw [List.eq_nil_of_length_eq_zero tl]; unfold Hid toldFrom; rfl
          clear hc z5 z6
          go_enter Try.func75, Try.ntmps75
          go_wp2
          refine wp_loop_rounds 1 ?_; rw [rounds_succ]
          go_wp2
          go_ret
          exact ⟨ret_bool (by rw [E.out, ET.out]), hb0 _⟩
    · have E : Hid (goodToldF ⟨kind, node, id, ops, deps, ats, vals⟩ = false) := by unfold Hid; rw [E1.out, decide_eq_false (by simp at t2; omega), Bool.false_and]
      by_cases t1 : kind = 5
      · have t1' : (kind != 5) = false := by simpa using t1
        clear hA t1
        go_enter Try.func75, Try.ntmps75
        go_wp2
        go_ret
        exact ⟨ret_bool E.out.symm, hb0 _⟩
      · have t1' : (kind != 5) = true := by simpa using t1
        have t3 : ¬ 0 < ats.length := fun h => hA ⟨t1, h⟩
        clear hA t1
        go_enter Try.func75, Try.ntmps75
        go_wp2
        go_ret
        exact ⟨ret_bool E.out.symm, hb0 _⟩

theorem frame_box (w : World) (o : Obj) : Below w.heap.size w (w.alloc o) := (Below.refl w.heap.size w).alloc (Nat.le_refl _) o

set_option maxRecDepth 100000 in
set_option maxHeartbeats 1000000 in
theorem wgood_any (v : Value) (f : FrameL) (w : World) (hv : FrameV w v f) :
    Calls Try.prog 38 #[v] w fun e w' => e = .returned (.int .i64 (goodL f)) ∧ Below w.heap.size w w' := by
  have hvo := fun o => hv.later (frame_box w o)
  have hb0 := frame_box w
  obtain ⟨a3, c3, a4, c4, a5, c5, a6, c6, rfl, _⟩ := hv
  obtain ⟨kind, node, id, ops, deps, ats, vals⟩ := f
  simp only at hvo
  by_cases h1 : kind < 1
  · have E : Hid (goodL ⟨kind, node, id, ops, deps, ats, vals⟩ = 3) := by unfold Hid goodL; rw [if_pos (by simp only; omega)]
    clear hvo
    go_enter Try.func38, Try.ntmps38
    go_wp2
    go_ret
    exact ⟨ret_int E.out.symm, hb0 _⟩
  by_cases h2 : 5 < kind
  · have E : Hid (goodL ⟨kind, node, id, ops, deps, ats, vals⟩ = 3) := by unfold Hid goodL; rw [if_pos (by simp only; omega)]
    clear hvo
    go_enter Try.func38, Try.ntmps38
    go_wp2
    go_ret
    exact ⟨ret_int E.out.symm, hb0 _⟩
  have E0 : Hid (goodL ⟨kind, node, id, ops, deps, ats, vals⟩ = if node < 0 ∨ 6 ≤ node ∨ id < 0 ∨ 32 ≤ id then 2 else if goodOpsF ⟨kind, node, id, ops, deps, ats, vals⟩ && (goodDepsF ⟨kind, node, id, ops, deps, ats, vals⟩ && goodToldF ⟨kind, node, id, ops, deps, ats, vals⟩) then 0 else 1) := by
    unfold Hid goodL; rw [if_neg (by simp only; omega)]
  by_cases h3 : node < 0
  · have E : Hid (goodL ⟨kind, node, id, ops, deps, ats, vals⟩ = 2) := by unfold Hid; rw [E0.out, if_pos (by omega)]
    clear hvo
    go_enter Try.func38, Try.ntmps38
    go_wp2
    go_ret
    exact ⟨ret_int E.out.symm, hb0 _⟩
  by_cases h4 : 6 ≤ node
  · have E : Hid (goodL ⟨kind, node, id, ops, deps, ats, vals⟩ = 2) := by unfold Hid; rw [E0.out, if_pos (by omega)]
    clear hvo
    go_enter Try.func38, Try.ntmps38
    go_wp2
    go_ret
    exact ⟨ret_int E.out.symm, hb0 _⟩
  by_cases h5 : id < 0
  · have E : Hid (goodL ⟨kind, node, id, ops, deps, ats, vals⟩ = 2) := by unfold Hid; rw [E0.out, if_pos (by omega)]
    clear hvo
    go_enter Try.func38, Try.ntmps38
    go_wp2
    go_ret
    exact ⟨ret_int E.out.symm, hb0 _⟩
  by_cases h6 : 32 ≤ id
  · have E : Hid (goodL ⟨kind, node, id, ops, deps, ats, vals⟩ = 2) := by unfold Hid; rw [E0.out, if_pos (by omega)]
    clear hvo
    go_enter Try.func38, Try.ntmps38
    go_wp2
    go_ret
    exact ⟨ret_int E.out.symm, hb0 _⟩
  have E1 : Hid (goodL ⟨kind, node, id, ops, deps, ats, vals⟩ = if goodOpsF ⟨kind, node, id, ops, deps, ats, vals⟩ && (goodDepsF ⟨kind, node, id, ops, deps, ats, vals⟩ && goodToldF ⟨kind, node, id, ops, deps, ats, vals⟩) then 0 else 1) := by
    unfold Hid; rw [E0.out, if_neg (by omega)]
  clear E0
  go_enter Try.func38, Try.ntmps38
  go_wp2_with fail
  obtain ⟨wo, hwo⟩ : ∃ wo, wo = w.alloc (.cells #[.int .i64 kind, .int .i64 node, .int .i64 id, .slice a3 ops.length c3, .slice a4 deps.length c4, .slice a5 ats.length c5, .slice a6 vals.length c6] 39) := ⟨_, rfl⟩
  have hb1 := hb0 (.cells #[.int .i64 kind, .int .i64 node, .int .i64 id, .slice a3 ops.length c3, .slice a4 deps.length c4, .slice a5 ats.length c5, .slice a6 vals.length c6] 39)
  have hv1 := hvo (.cells #[.int .i64 kind, .int .i64 node, .int .i64 id, .slice a3 ops.length c3, .slice a4 deps.length c4, .slice a5 ats.length c5, .slice a6 vals.length c6] 39)
  have hf1 : FAt (w.alloc (.cells #[.int .i64 kind, .int .i64 node, .int .i64 id, .slice a3 ops.length c3, .slice a4 deps.length c4, .slice a5 ats.length c5, .slice a6 vals.length c6] 39)) w.heap.size kind node id (.slice a3 ops.length c3) (.slice a4 deps.length c4) (.slice a5 ats.length c5) (.slice a6 vals.length c6) := ⟨_, heap_new _ _⟩
  rw [← hwo] at hb1 hv1 hf1 ⊢
  clear hwo hvo hb0
  refine (wgoodOps_any _ _ _ hv1).mono ?_
  rintro e w1 ⟨rfl, hc⟩
  have hb2 := hb1.trans (hc.mono hb1.size)
  have hv2 := hv1.later hc
  have hf2 := hf1.block (hc.block _ hf1.lt)
  clear hc hb1 hv1 hf1
  cases t1 : goodOpsF ⟨kind, node, id, ops, deps, ats, vals⟩
  · have E : Hid (goodL ⟨kind, node, id, ops, deps, ats, vals⟩ = 1) := by unfold Hid; rw [E1.out, t1]; rfl
    go_wp2
    go_ret
    exact ⟨ret_int E.out.symm, hb2⟩
  obtain ⟨q0, q1, q2, q3, q4, q5, q6⟩ := hf2.cell
  go_wp2_with fail
  refine (wgoodDeps_any _ _ _ hv2).mono ?_
  rintro e w2 ⟨rfl, hc⟩
  have hb3 := hb2.trans (hc.mono hb2.size)
  have hv3 := hv2.later hc
  have hf3 := hf2.block (hc.block _ hf2.lt)
  clear hc hb2 hv2 hf2 q0 q1 q2 q3 q4 q5 q6
  cases t2 : goodDepsF ⟨kind, node, id, ops, deps, ats, vals⟩
  · have E : Hid (goodL ⟨kind, node, id, ops, deps, ats, vals⟩ = 1) := by unfold Hid; rw [E1.out, t1, t2]; rfl
    go_wp2
    go_ret
    exact ⟨ret_int E.out.symm, hb3⟩
  obtain ⟨q0, q1, q2, q3, q4, q5, q6⟩ := hf3.cell
  go_wp2_with fail
  refine (wgoodTold_any _ _ _ hv3).mono ?_
  rintro e w3 ⟨rfl, hc⟩
  have hb4 := hb3.trans (hc.mono hb3.size)
  clear hc hb3 hv3 hf3 q0 q1 q2 q3 q4 q5 q6
  cases t3 : goodToldF ⟨kind, node, id, ops, deps, ats, vals⟩
  · have E : Hid (goodL ⟨kind, node, id, ops, deps, ats, vals⟩ = 1) := by unfold Hid; rw [E1.out, t1, t2, t3]; rfl
    go_wp2
    go_ret
    exact ⟨ret_int E.out.symm, hb4⟩
  · have E : Hid (goodL ⟨kind, node, id, ops, deps, ats, vals⟩ = 0) := by unfold Hid; rw [E1.out, t1, t2, t3]; rfl
    go_wp2
    go_ret
    exact ⟨ret_int E.out.symm, hb4⟩

end Go.Proofs.Ytkoefoccbjhoiaa
