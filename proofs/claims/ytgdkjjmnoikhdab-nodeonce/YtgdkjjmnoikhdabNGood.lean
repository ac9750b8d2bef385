/-
  The contracts of node's goodAhead, goodTold, goodLists, goodEntry.
-/
import Derived.Test.YtgdkjjmnoikhdabNSep
import Derived.Test.YtgdkjjmnoikhdabWGood
namespace Go.Proofs.Ytgdkjjmnoikhdab
open Go.RowKit

def aheadB (zs : List Int) (n : Int) : Bool := risingFrom (-1) zs && !hasL zs n

set_option maxRecDepth 100000 in
set_option maxHeartbeats 400000 in
theorem goodAhead_any (n : Int) (a : Option Addr) (cap : Nat) (zs : List Int) (w : World) (h : SlInts w a cap zs) :
    Calls Try.prog 99 #[.int .i64 n, .slice a zs.length cap] w fun e w' => e = .returned (.bool (aheadB zs n)) ∧ w' = w := by
  go_enter Try.func99, Try.ntmps99
  go_wp2_with fail
  refine (rising_any a cap zs w h.2.1 h.1).mono ?_
  rintro e w1 ⟨rfl, hw⟩
  subst hw
  cases t1 : risingFrom (-1) zs
  · have E : Hid (aheadB zs n = false) := by unfold aheadB Hid; rw [t1]; rfl
    go_wp2
    go_ret
    exact ⟨ret_bool E.out.symm, rfl⟩
  · have E : Hid (aheadB zs n = !hasL zs n) := by unfold aheadB Hid; rw [t1]; rfl
    go_wp2_with fail
    refine (contains_any a cap zs n _ h.2.1 h.1).mono ?_
    rintro e w1 ⟨rfl, hw⟩
    subst hw
    go_wp2
    go_ret
    exact ⟨ret_bool E.out.symm, rfl⟩

/-- An entry by value. -/
def EntV (w : World) (v : Value) (e : EntryL) : Prop := ∃ a1 c1 a2 c2 a3 c3 a4 c4 a5 c5,
  v = .agg #[.int .i64 e.state, .slice a1 e.ops.length c1, .slice a2 e.first.length c2, .slice a3 e.deps.length c3, .slice a4 e.ats.length c4, .slice a5 e.vals.length c5] ∧
  SlOps w a1 c1 e.ops ∧ SlInts w a2 c2 e.first ∧ SlInts w a3 c3 e.deps ∧ SlInts w a4 c4 e.ats ∧ SlInts w a5 c5 e.vals ∧
  (e.ops.length ≤ 140737488355328 ∧ e.first.length ≤ 140737488355328 ∧ e.deps.length ≤ 140737488355328 ∧ e.ats.length ≤ 140737488355328 ∧ e.vals.length ≤ 140737488355328)
theorem EntV.later {w w' : World} {v : Value} {e : EntryL} (h : EntV w v e) (hb : Below w.heap.size w w') : EntV w' v e := by
  obtain ⟨a1, c1, a2, c2, a3, c3, a4, c4, a5, c5, hv, h1, h2, h3, h4, h5, hl⟩ := h
  exact ⟨a1, c1, a2, c2, a3, c3, a4, c4, a5, c5, hv, h1.later hb, h2.later hb, h3.later hb, h4.later hb, h5.later hb, hl⟩
def sixV (nv : Nat → Value) (o : Nat) : Array Value := #[nv o, nv (o + 1), nv (o + 2), nv (o + 3), nv (o + 4), nv (o + 5)]
theorem EntC.v {ok : Nat → Prop} {w : World} {nv : Nat → Value} {o : Nat} {e : EntryL} (h : EntC ok w nv o e) : EntV w (.agg (sixV nv o)) e := by
  obtain ⟨a1, c1, e1, h1⟩ := h.ops.sl
  obtain ⟨a2, c2, e2, h2⟩ := h.first.sl
  obtain ⟨a3, c3, e3, h3⟩ := h.deps.sl
  obtain ⟨a4, c4, e4, h4⟩ := h.ats.sl
  obtain ⟨a5, c5, e5, h5⟩ := h.vals.sl
  obtain ⟨_, _, _, _, l1, _⟩ := h.ops
  obtain ⟨_, _, _, _, l2, _⟩ := h.first
  obtain ⟨_, _, _, _, l3, _⟩ := h.deps
  obtain ⟨_, _, _, _, l4, _⟩ := h.ats
  obtain ⟨_, _, _, _, l5, _⟩ := h.vals
  refine ⟨a1, c1, a2, c2, a3, c3, a4, c4, a5, c5, ?_, h1, h2, h3, h4, h5, by omega, by omega, by omega, by omega, by omega⟩
  unfold sixV
  rw [h.state, e1, e2, e3, e4, e5]

def toldB (e : EntryL) : Bool := atsFrom (-1) e.ops.length e.ats && decide (e.vals.length = e.ats.length)
theorem ats_no {zs : List Int} {N k : Nat} {q l m : Int} (hk : k < zs.length) (hq : zs.getD k 0 = q) (h : atsFrom m N zs = atsFrom l N (zs.drop k)) (hn : q ≤ l ∨ (N : Int) ≤ q) : atsFrom m N zs = false := by
  rw [h, drop_at hk hq, atsFrom]
  have : (decide (l < q) && decide (q < (N : Int))) = false := by
    rw [Bool.and_eq_false_iff]
    rcases hn with h | h
    · exact Or.inl (decide_eq_false (by omega))
    · exact Or.inr (decide_eq_false (by omega))
  rw [this]
  rfl
theorem ats_yes {zs : List Int} {N k : Nat} {q l m : Int} (hk : k < zs.length) (hq : zs.getD k 0 = q) (h : atsFrom m N zs = atsFrom l N (zs.drop k)) (h1 : ¬ q ≤ l) (h2 : ¬ (N : Int) ≤ q) : atsFrom m N zs = atsFrom q N (zs.drop (k + 1)) := by
  rw [h, drop_at hk hq, atsFrom, decide_eq_true (show l < q by omega), decide_eq_true (show q < (N : Int) by omega)]
  rfl
theorem ats_end {zs : List Int} {N k : Nat} {l m : Int} (hk : ¬ k < zs.length) (h : atsFrom m N zs = atsFrom l N (zs.drop k)) : atsFrom m N zs = true := by
  rw [h, List.drop_of_length_le (by omega)]
  rfl

set_option maxRecDepth 100000 in
set_option maxHeartbeats 400000 in
theorem goodTold_any (v : Value) (e : EntryL) (w : World) (h : EntV w v e) :
    Calls Try.prog 100 #[v] w fun r w' => r = .returned (.bool (toldB e)) ∧ Below w.heap.size w w' := by
  obtain ⟨a1, c1, a2, c2, a3, c3, a4, c4, a5, c5, rfl, _, _, _, h4, _, l1, _, _, l4, l5⟩ := h
  obtain ⟨st, ops, first, deps, ats, vals⟩ := e
  simp only at h4 l1 l4 l5 ⊢
  have hb0 := fun o : Obj => (Below.refl w.heap.size w).alloc (Nat.le_refl _) o
  have E : Hid (toldB ⟨st, ops, first, deps, ats, vals⟩ = (atsFrom (-1) ops.length ats && decide (vals.length = ats.length))) := rfl
  obtain ⟨hz, _⟩ := h4
  have ev : ((vals.length : Int) == (ats.length : Int)) = decide (vals.length = ats.length) := by rw [Bool.eq_iff_iff]; simp; omega
  rcases hz with rfl | ⟨b, off, rfl, hb, hc⟩
  · have E' : Hid (toldB ⟨st, ops, first, deps, [], vals⟩ = decide (vals.length = 0)) := rfl
    simp only [List.length_nil] at ev
    clear E
    go_enter Try.func100, Try.ntmps100
    go_wp2
    refine wp_loop_rounds 1 ?_; rw [rounds_succ]
    go_wp2
    go_ret
    refine ⟨ret_bool ?_, hb0 _⟩
    rw [E'.out, Bool.eq_iff_iff]
    simp
  · have HEV : Hid (((vals.length : Int) == (ats.length : Int)) = decide (vals.length = ats.length)) := ev
    clear ev
    go_enter Try.func100, Try.ntmps100
    go_wp2_with fail
    generalize hW : w.alloc (.cells #[.int .i64 st, .slice a1 ops.length c1, .slice a2 first.length c2, .slice a3 deps.length c3, .slice (some ⟨b, off, none⟩) ats.length c4, .slice a5 vals.length c5] 37) = W
    have hbW : Below w.heap.size w W := by rw [← hW]; exact hb0 _
    have q1 : W.cell? ⟨w.heap.size, 1, none⟩ = some (.slice a1 ops.length c1) := by rw [← hW]; simp
    have q4 : W.cell? ⟨w.heap.size, 4, none⟩ = some (.slice (some ⟨b, off, none⟩) ats.length c4) := by rw [← hW]; simp
    have q5 : W.cell? ⟨w.heap.size, 5, none⟩ = some (.slice a5 vals.length c5) := by rw [← hW]; simp
    have HBW : Hid (Below w.heap.size w W) := hbW
    clear hW hb0
    go_loop [3, 9] (fun l i => ∃ (k : Nat) (q : Int), k ≤ ats.length ∧ i = .int .i64 k ∧ l = .int .i64 q ∧ Hid (atsFrom (-1) ops.length ats = atsFrom q ops.length (ats.drop k))) (fun _ i => ats.length - (intOf i).toNat)
    case atStart => exact ⟨0, -1, Nat.zero_le _, rfl, rfl, rfl⟩
    case round =>
      obtain ⟨k, l, hk, rfl, rfl, hno⟩ := hrel
      by_cases hlt : k < ats.length
      · obtain ⟨q, Hq, e0⟩ := IntsAt.at hc hb hbW hlt
        clear hc hbW
        by_cases t1 : q ≤ l
        · have N : Hid (toldB ⟨st, ops, first, deps, ats, vals⟩ = false) := by unfold Hid; rw [E.out, ats_no hlt Hq.out hno.out (Or.inl t1)]; rfl
          go_wp2
          go_ret
          exact ⟨ret_bool N.out.symm, HBW.out⟩
        · by_cases t2 : (ops.length : Int) ≤ q
          · have N : Hid (toldB ⟨st, ops, first, deps, ats, vals⟩ = false) := by unfold Hid; rw [E.out, ats_no hlt Hq.out hno.out (Or.inr t2)]; rfl
            go_wp2
            go_ret
            exact ⟨ret_bool N.out.symm, HBW.out⟩
          · go_wp2
            go_round
            case rel => exact ⟨k + 1, q, by omega, by go_num, rfl, ats_yes hlt Hq.out hno.out t1 t2⟩
            case measure => simp [intOf]; omega
      · have N : Hid (toldB ⟨st, ops, first, deps, ats, vals⟩ = ((vals.length : Int) == (ats.length : Int))) := by unfold Hid; rw [E.out, ats_end hlt hno.out, HEV.out]; rfl
        go_wp2
        go_ret
        exact ⟨ret_bool N.out.symm, HBW.out⟩

def listsB (e : EntryL) (n : Int) : Bool := goodOpsL e.ops && aheadB e.first n && aheadB e.deps n && toldB e

set_option maxRecDepth 100000 in
set_option maxHeartbeats 400000 in
theorem goodLists_any (n : Int) (v : Value) (e : EntryL) (w : World) (h : EntV w v e) :
    Calls Try.prog 84 #[.int .i64 n, v] w fun r w' => r = .returned (.bool (listsB e n)) ∧ Below w.heap.size w w' := by
  have hv := h
  obtain ⟨a1, c1, a2, c2, a3, c3, a4, c4, a5, c5, rfl, h1, h2, h3, _⟩ := h
  have HV : Hid (∀ w', Below w.heap.size w w' → EntV w' _ e) := fun w' hb => hv.later hb
  have H2 : Hid (∀ w', Below w.heap.size w w' → SlInts w' a2 c2 e.first) := fun w' hb => h2.later hb
  have H3 : Hid (∀ w', Below w.heap.size w w' → SlInts w' a3 c3 e.deps) := fun w' hb => h3.later hb
  clear hv h2 h3
  generalize hW : w.alloc (.cells #[.int .i64 e.state, .slice a1 e.ops.length c1, .slice a2 e.first.length c2, .slice a3 e.deps.length c3, .slice a4 e.ats.length c4, .slice a5 e.vals.length c5] 37) = W
  have hbW : Below w.heap.size w W := by rw [← hW]; exact (Below.refl _ _).alloc (Nat.le_refl _) _
  have hzW : W.heap.size = w.heap.size + 1 := by rw [← hW]; exact size_push _ _
  have q0 : W.cell? ⟨w.heap.size, 0, none⟩ = some (.int .i64 e.state) := by rw [← hW]; simp
  have q1 : W.cell? ⟨w.heap.size, 1, none⟩ = some (.slice a1 e.ops.length c1) := by rw [← hW]; simp
  have q2 : W.cell? ⟨w.heap.size, 2, none⟩ = some (.slice a2 e.first.length c2) := by rw [← hW]; simp
  have q3 : W.cell? ⟨w.heap.size, 3, none⟩ = some (.slice a3 e.deps.length c3) := by rw [← hW]; simp
  have q4 : W.cell? ⟨w.heap.size, 4, none⟩ = some (.slice a4 e.ats.length c4) := by rw [← hW]; simp
  have q5 : W.cell? ⟨w.heap.size, 5, none⟩ = some (.slice a5 e.vals.length c5) := by rw [← hW]; simp
  have hg1 := h1.later hbW
  have HW : Hid (w.alloc (.cells #[.int .i64 e.state, .slice a1 e.ops.length c1, .slice a2 e.first.length c2, .slice a3 e.deps.length c3, .slice a4 e.ats.length c4, .slice a5 e.vals.length c5] 37) = W) := hW
  clear hW h1
  go_enter Try.func84, Try.ntmps84
  go_upto_region 1 with fail
  rw [HW.out]
  go_wp2_with fail
  refine (goodOps_any a1 c1 e.ops W hg1.2.1 hg1.1).mono ?_
  rintro r w1 ⟨rfl, hb1⟩
  have hb2 : Below w.heap.size w w1 := hbW.trans (hb1.mono (by omega))
  rw [← hb1.cell (p := ⟨w.heap.size, 0, none⟩) (by show w.heap.size < _; omega)] at q0
  rw [← hb1.cell (p := ⟨w.heap.size, 2, none⟩) (by show w.heap.size < _; omega)] at q2
  rw [← hb1.cell (p := ⟨w.heap.size, 3, none⟩) (by show w.heap.size < _; omega)] at q3
  rw [← hb1.cell (p := ⟨w.heap.size, 4, none⟩) (by show w.heap.size < _; omega)] at q4
  rw [← hb1.cell (p := ⟨w.heap.size, 5, none⟩) (by show w.heap.size < _; omega)] at q5
  rw [← hb1.cell (p := ⟨w.heap.size, 1, none⟩) (by show w.heap.size < _; omega)] at q1
  have hz1 : w.heap.size < w1.heap.size := by have := hb1.size; omega
  have HB2 : Hid (Below w.heap.size w w1) := hb2
  have g2 := H2.out _ hb2
  have g3 := H3.out _ hb2
  have gv := HV.out _ hb2
  clear hb1 hbW hg1 hb2 hzW HW
  cases t1 : goodOpsL e.ops
  · have E : Hid (listsB e n = false) := by unfold listsB Hid; rw [t1]; rfl
    go_wp2
    go_ret
    exact ⟨ret_bool E.out.symm, HB2.out⟩
  · go_wp2_with fail
    refine (goodAhead_any n a2 c2 e.first _ g2).mono ?_
    rintro r w2 ⟨rfl, hw⟩
    subst hw
    cases t2 : aheadB e.first n
    · have E : Hid (listsB e n = false) := by unfold listsB Hid; rw [t2]; simp
      go_wp2
      go_ret
      exact ⟨ret_bool E.out.symm, HB2.out⟩
    · go_wp2_with fail
      refine (goodAhead_any n a3 c3 e.deps _ g3).mono ?_
      rintro r w3 ⟨rfl, hw⟩
      subst hw
      cases t3 : aheadB e.deps n
      · have E : Hid (listsB e n = false) := by unfold listsB Hid; rw [t3]; simp
        go_wp2
        go_ret
        exact ⟨ret_bool E.out.symm, HB2.out⟩
      · have E : Hid (listsB e n = toldB e) := by unfold listsB Hid; rw [t1, t2, t3]; simp
        go_wp2_with fail
        refine (goodTold_any _ e _ gv).mono ?_
        rintro r w4 ⟨rfl, hb4⟩
        have HB4 : Hid (Below w.heap.size w w4) := HB2.out.trans (hb4.mono (by omega))
        clear hb4
        go_wp2
        go_ret
        exact ⟨ret_bool E.out.symm, HB4.out⟩

end Go.Proofs.Ytgdkjjmnoikhdab
