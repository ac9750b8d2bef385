/-
  The contracts of goodOp and GoodOps, and of the document's own IsOps.
-/
import Derived.Test.YtkoefoccbjhoiaaOps
set_option linter.unusedVariables false
set_option linter.unusedSimpArgs false
namespace Go.Proofs.Ytkoefoccbjhoiaa
open Go.RowKit

def goodB (o : OpL) : Bool := decide (0 ≤ o.2.1 ∧ o.2.1 < 8 ∧ (o.1 = 1 ∧ o.2.2 = 0 ∨ (o.1 = 2 ∨ o.1 = 3) ∧ -1099511627776 ≤ o.2.2 ∧ o.2.2 ≤ 1099511627776))

theorem near_eq (n : Int) : (n == near n) = decide (-1099511627776 ≤ n ∧ n ≤ 1099511627776) := by
  rw [Bool.eq_iff_iff]
  simp only [beq_iff_eq, decide_eq_true_eq]
  unfold near
  split
  · omega
  · split <;> omega

set_option maxRecDepth 100000 in
set_option maxHeartbeats 400000 in
theorem goodOp_any (o0 o1 o2 : Int) (w : World) :
    Calls Try.prog 63 #[.agg #[.int .i64 o0, .int .i64 o1, .int .i64 o2]] w fun e w' => e = .returned (.bool (goodB (o0, o1, o2))) ∧ Below w.heap.size w w' := by
  by_cases h1 : o1 < 0
  · have E : Hid (goodB (o0, o1, o2) = false) := by unfold goodB Hid; simp; omega
    go_enter Try.func63, Try.ntmps63
    go_wp2
    go_ret
    exact ⟨ret_bool E.out.symm, (Below.refl _ _).alloc (Nat.le_refl _) _⟩
  · by_cases h2 : 8 ≤ o1
    · have E : Hid (goodB (o0, o1, o2) = false) := by unfold goodB Hid; simp; omega
      go_enter Try.func63, Try.ntmps63
      go_wp2
      go_ret
      exact ⟨ret_bool E.out.symm, (Below.refl _ _).alloc (Nat.le_refl _) _⟩
    · cases t1 : o0 == 1
      · cases t2 : o0 == 2
        · cases t3 : o0 == 3
          · have E : Hid (goodB (o0, o1, o2) = false) := by simp at t1 t2 t3; unfold goodB Hid; simp; omega
            go_enter Try.func63, Try.ntmps63
            go_wp2
            go_ret
            exact ⟨ret_bool E.out.symm, (Below.refl _ _).alloc (Nat.le_refl _) _⟩
          · have E : Hid (goodB (o0, o1, o2) = (o2 == near o2)) := by simp at t3; rw [Hid, near_eq, Bool.eq_iff_iff]; unfold goodB; simp; omega
            go_enter Try.func63, Try.ntmps63
            go_wp2
            go_quiet ((go_at_call 65; exact Calls.quiet_of_same (nearest_any _ _)))
            go_wp2
            go_ret
            exact ⟨ret_bool E.out.symm, below_drewN ((Below.refl _ _).alloc (Nat.le_refl _) _) _⟩
        · have E : Hid (goodB (o0, o1, o2) = (o2 == near o2)) := by simp at t2; rw [Hid, near_eq, Bool.eq_iff_iff]; unfold goodB; simp; omega
          go_enter Try.func63, Try.ntmps63
          go_wp2
          go_quiet ((go_at_call 65; exact Calls.quiet_of_same (nearest_any _ _)))
          go_wp2
          go_ret
          exact ⟨ret_bool E.out.symm, below_drewN ((Below.refl _ _).alloc (Nat.le_refl _) _) _⟩
      · have E : Hid (goodB (o0, o1, o2) = (o2 == 0)) := by simp at t1; rw [Hid, Bool.eq_iff_iff]; unfold goodB; simp; omega
        go_enter Try.func63, Try.ntmps63
        go_wp2
        go_ret
        exact ⟨ret_bool E.out.symm, (Below.refl _ _).alloc (Nat.le_refl _) _⟩

def keyB (k : Int) (p : OpL) : Bool := p.2.1 == k
/-- the k-th is good, and none ahead of it has its key -/
def goodAt (zs : List OpL) (k : Nat) : Bool := goodB (zs.getD k (0, 0, 0)) && !(zs.take k).any (keyB (zs.getD k (0, 0, 0)).2.1)
def goodOpsL (zs : List OpL) : Bool := decide (1 ≤ zs.length ∧ zs.length ≤ 4) && (List.range zs.length).all (goodAt zs)

theorem range_step {p : Nat → Bool} {k : Nat} (h : (List.range k).all p = true) (hk : p k = true) : (List.range (k + 1)).all p = true := by
  rw [List.range_succ, List.all_append, h]
  simp [hk]
theorem range_miss {p : Nat → Bool} {k n : Nat} (hn : k < n) (hk : p k = false) : (List.range n).all p = false :=
  List.all_eq_false.2 ⟨k, List.mem_range.2 hn, by simp [hk]⟩

theorem good_len {zs : List OpL} (h : zs.length < 1 ∨ 4 < zs.length) : goodOpsL zs = false := by
  unfold goodOpsL
  rw [decide_eq_false (by omega), Bool.false_and]
theorem good_len_yes {zs : List OpL} (h : ¬ zs.length < 1) (h' : ¬ 4 < zs.length) : goodOpsL zs = (List.range zs.length).all (goodAt zs) := by
  unfold goodOpsL
  rw [decide_eq_true (by omega), Bool.true_and]

def seenOf (zs : List OpL) (k : Nat) (i : Nat) : Bool := (zs.take k).any (keyB (i : Int))
theorem seen_step {zs : List OpL} {k m : Nat} {q0 q2 : Int} (hk : k < zs.length) (hq : zs.getD k (0, 0, 0) = (q0, (m : Int), q2)) (i : Nat) : (if i = m then true else seenOf zs k i) = seenOf zs (k + 1) i := by
  have : zs[k] = (q0, (m : Int), q2) := by rw [← hq]; simp [List.getD, hk]
  unfold seenOf
  rw [List.take_succ_eq_append_getElem hk, List.any_append, this]
  by_cases e : i = m
  · subst e
    simp [keyB]
  · rw [if_neg e]
    have : keyB (i : Int) (q0, (m : Int), q2) = false := by simp [keyB]; omega
    simp [this]

theorem SetAt.later {n : Nat} {w w' : World} {c B : Nat} {S : Nat → Bool} (h : SetAt n w c S) (hB : Below B w w') (hc : c < B) : SetAt n w' c S := by
  obtain ⟨t, h⟩ := h
  exact ⟨t, by rw [hB.block c hc]; exact h⟩

theorem zero8 : bools 8 (fun _ => false) = #[.bool false, .bool false, .bool false, .bool false, .bool false, .bool false, .bool false, .bool false] := by rfl

theorem goodAt_no1 {zs : List OpL} {k : Nat} {q : OpL} (hq : zs.getD k (0, 0, 0) = q) (h : goodB q = false) : goodAt zs k = false := by
  unfold goodAt
  rw [hq, h, Bool.false_and]
theorem goodAt_no2 {zs : List OpL} {k m : Nat} {q0 q2 : Int} (hq : zs.getD k (0, 0, 0) = (q0, (m : Int), q2)) (h : seenOf zs k m = true) : goodAt zs k = false := by
  unfold goodAt
  rw [hq]
  unfold seenOf at h
  simp only [h, Bool.not_true, Bool.and_false]
theorem goodAt_yes {zs : List OpL} {k m : Nat} {q0 q2 : Int} (hq : zs.getD k (0, 0, 0) = (q0, (m : Int), q2)) (h1 : goodB (q0, (m : Int), q2) = true) (h : seenOf zs k m = false) : goodAt zs k = true := by
  unfold goodAt
  rw [hq]
  unfold seenOf at h
  simp only [h, h1, Bool.not_false, Bool.and_true]
theorem goodB_key {q0 q1 q2 : Int} (h : goodB (q0, q1, q2) = true) : 0 ≤ q1 ∧ q1 < 8 := by
  unfold goodB at h
  have := of_decide_eq_true h
  exact ⟨this.1, this.2.1⟩

set_option maxRecDepth 100000 in
set_option maxHeartbeats 1000000 in
theorem goodOps_any (a : Option Addr) (cap : Nat) (zs : List OpL) (w : World) (hl : zs.length ≤ maxLen) (hz : OpsAt w a zs) :
    Calls Try.prog 15 #[.slice a zs.length cap] w fun e w' => e = .returned (.bool (goodOpsL zs)) ∧ Below w.heap.size w w' := by
  unfold maxLen at hl
  by_cases h1 : zs.length < 1
  · have E : Hid (goodOpsL zs = false) := good_len (Or.inl h1)
    go_enter Try.func15, Try.ntmps15
    go_wp2
    go_ret
    exact ⟨ret_bool E.out.symm, Below.refl _ _⟩
  by_cases h2 : 4 < zs.length
  · have E : Hid (goodOpsL zs = false) := good_len (Or.inr h2)
    go_enter Try.func15, Try.ntmps15
    go_wp2
    go_ret
    exact ⟨ret_bool E.out.symm, Below.refl _ _⟩
  have E : Hid (goodOpsL zs = (List.range zs.length).all (goodAt zs)) := good_len_yes h1 h2
  rcases hz with rfl | ⟨b, off, rfl, hb, hc⟩
  · simp at h1
  go_enter Try.func15, Try.ntmps15
  go_wp2
  rw [← zero8]
  go_loopw [16] (fun i wr => ∃ k : Nat, k ≤ zs.length ∧ i = .int .i64 k ∧ Hid ((List.range k).all (goodAt zs) = true) ∧ SetAt 8 wr w.heap.size (seenOf zs k) ∧ Below w.heap.size w wr) (fun i _ => zs.length - (intOf i).toNat)
  case atStart => exact ⟨0, Nat.zero_le _, rfl, rfl, ⟨67, heap_new _ _⟩, (Below.refl _ _).alloc (Nat.le_refl _) _⟩
  case round =>
    obtain ⟨k, hk, rfl, hall, hS, hBw⟩ := hrel
    have hsz := hBw.size
    have hcl := hS.lt
    by_cases hlt : k < zs.length
    · obtain ⟨q0, q1, q2, Hq, e0, e1, e2⟩ := OpsAt.at hc hb hBw hlt
      clear hc
      go_wp2_with fail
      refine (goodOp_any q0 q1 q2 _).mono ?_
      rintro e w1 ⟨rfl, hb1⟩
      have f1 := hb1.cell (p := ⟨wr.heap.size, 1, none⟩) (by simp)
      simp at f1
      have hS1 : SetAt 8 w1 w.heap.size (seenOf zs k) := (hS.later ((Below.refl _ _).alloc (Nat.le_refl _) _) hcl).later hb1 (by simp; omega)
      have hb2 : Below w.heap.size w w1 := (hBw.alloc hsz _).trans (hb1.mono (by simp; omega))
      have hz1 : wr.heap.size < w1.heap.size := by have := hb1.size; simp at this; omega
      clear hb1
      cases tg : goodB (q0, q1, q2)
      · have N : Hid (goodOpsL zs = false) := by unfold Hid; rw [E.out]; exact range_miss hlt (goodAt_no1 Hq.out tg)
        go_wp2
        go_ret
        exact ⟨ret_bool N.out.symm, hb2⟩
      · obtain ⟨k0, k1⟩ := goodB_key tg
        obtain ⟨m, rfl⟩ := Int.eq_ofNat_of_zero_le k0
        have hm : m < 8 := by omega
        have g1 := hS1.cell hm
        have g2 := hS1.frozen m
        cases ts : seenOf zs k m
        · rw [ts] at g1
          have Y : Hid ((List.range (k + 1)).all (goodAt zs) = true) := range_step hall.out (goodAt_yes Hq.out tg ts)
          have HS : SetAt 8 (w1.setCell ⟨w.heap.size, m, none⟩ (.bool true)) w.heap.size (seenOf zs (k + 1)) := (hS1.put m true).congr (fun i _ => seen_step hlt Hq.out i)
          clear hS1 hS
          go_wp2
          go_roundw
          case rel => exact ⟨k + 1, by omega, by go_num, Y, HS, hb2.setCell (by simp) _⟩
          case measure => simp [intOf]; omega
        · rw [ts] at g1
          have N : Hid (goodOpsL zs = false) := by unfold Hid; rw [E.out]; exact range_miss hlt (goodAt_no2 Hq.out ts)
          go_wp2
          go_ret
          exact ⟨ret_bool N.out.symm, hb2⟩
    · have N : Hid (goodOpsL zs = true) := by
        unfold Hid
        have : k = zs.length := by omega
        rw [E.out, ← this]
        exact hall.out
      go_wp2
      go_ret
      exact ⟨ret_bool N.out.symm, hBw⟩

end Go.Proofs.Ytkoefoccbjhoiaa
