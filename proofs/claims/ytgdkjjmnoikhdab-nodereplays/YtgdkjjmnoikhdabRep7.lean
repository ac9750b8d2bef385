/-
  The contracts of package txn's functions on lists of operations (meets, Conflict, Touches).
  The contracts of goodOp and GoodOps, and of the document's own IsOps.
  The contracts of Rising and of the statements' own 'has', and what holds of the union.
  Plain mathematics of our own: a frame as bytes, and the reader that takes one off the front of bytes.
  Plain mathematics of a node: what it is told, what it then is, and what it answers.
-/
import Derived.Test.YtgdkjjmnoikhdabRep6
import Derived.Test.YtgdkjjmnoikhdabRep1
namespace Go.Proofs.Ytgdkjjmnoikhdab
open Go.RowKit

/-- an operation: kind, key, N -/
abbrev OpL := Int × Int × Int

/-- A slice of operations that lies in memory: nothing, or its cells, three an element. -/
def OpsAt (w : World) (a : Option Addr) (zs : List OpL) : Prop :=
  zs = [] ∨ ∃ b off, a = some ⟨b, off, none⟩ ∧ b < w.heap.size ∧ ∀ i, i < zs.length → w.cell? ⟨b, off + i * 3, none⟩ = some (.int .i64 (zs.getD i (0, 0, 0)).1) ∧
    w.cell? ⟨b, off + i * 3 + 1, none⟩ = some (.int .i64 (zs.getD i (0, 0, 0)).2.1) ∧ w.cell? ⟨b, off + i * 3 + 2, none⟩ = some (.int .i64 (zs.getD i (0, 0, 0)).2.2)

theorem OpsAt.later {w w' : World} {a : Option Addr} {zs : List OpL} (h : OpsAt w a zs) (hB : Below w.heap.size w w') : OpsAt w' a zs := by
  rcases h with h | ⟨b, off, ha, hb, hc⟩
  · exact Or.inl h
  · refine Or.inr ⟨b, off, ha, Nat.lt_of_lt_of_le hb hB.size, fun i hi => ?_⟩
    rw [hB.cell (p := ⟨b, off + i * 3, none⟩) hb, hB.cell (p := ⟨b, off + i * 3 + 1, none⟩) hb, hB.cell (p := ⟨b, off + i * 3 + 2, none⟩) hb]
    exact hc i hi

/-- the element at k, in a later world -/
theorem OpsAt.at {w wr : World} {B b off : Nat} {zs : List OpL} (hc : ∀ i, i < zs.length → w.cell? ⟨b, off + i * 3, none⟩ = some (.int .i64 (zs.getD i (0, 0, 0)).1) ∧
    w.cell? ⟨b, off + i * 3 + 1, none⟩ = some (.int .i64 (zs.getD i (0, 0, 0)).2.1) ∧ w.cell? ⟨b, off + i * 3 + 2, none⟩ = some (.int .i64 (zs.getD i (0, 0, 0)).2.2))
    (hb : b < B) (hB : Below B w wr) {k : Nat} (hk : k < zs.length) :
    ∃ q0 q1 q2 : Int, Hid (zs.getD k (0, 0, 0) = (q0, q1, q2)) ∧ wr.cell? ⟨b, off + k * 3, none⟩ = some (.int .i64 q0) ∧ wr.cell? ⟨b, off + k * 3 + 1, none⟩ = some (.int .i64 q1) ∧ wr.cell? ⟨b, off + k * 3 + 2, none⟩ = some (.int .i64 q2) := by
  refine ⟨_, _, _, rfl, ?_⟩
  rw [hB.cell (p := ⟨b, off + k * 3, none⟩) hb, hB.cell (p := ⟨b, off + k * 3 + 1, none⟩) hb, hB.cell (p := ⟨b, off + k * 3 + 2, none⟩) hb]
  exact hc k hk

def meetB (o p : OpL) : Bool := o.2.1 == p.2.1 && (o.1 != 1 || p.1 != 1)
def meetsL (o : OpL) (zs : List OpL) : Bool := zs.any (meetB o)

set_option maxRecDepth 100000 in
set_option maxHeartbeats 400000 in
theorem meets_any (o0 o1 o2 : Int) (a : Option Addr) (cap : Nat) (zs : List OpL) (w : World) (hl : zs.length ≤ maxLen) (hz : OpsAt w a zs) :
    Calls Try.prog 107 #[.agg #[.int .i64 o0, .int .i64 o1, .int .i64 o2], .slice a zs.length cap] w fun e w' => e = .returned (.bool (meetsL (o0, o1, o2) zs)) ∧ Below w.heap.size w w' := by
  unfold maxLen at hl
  rcases hz with rfl | ⟨b, off, rfl, hb, hc⟩
  · go_enter Try.func107, Try.ntmps107
    go_wp2
    refine wp_loop_rounds 1 ?_; rw [rounds_succ]
    go_wp2
    go_ret
    exact ⟨rfl, (Below.refl _ _).alloc (Nat.le_refl _) _⟩
  · go_enter Try.func107, Try.ntmps107
    go_wp2
    go_loopw [9] (fun i wr => ∃ k : Nat, k ≤ zs.length ∧ i = .int .i64 k ∧ (zs.take k).any (meetB (o0, o1, o2)) = false ∧ Below (w.heap.size + 1) (w.alloc (.cells #[.int .i64 o0, .int .i64 o1, .int .i64 o2] 88)) wr) (fun i _ => zs.length - (intOf i).toNat)
    case atStart => exact ⟨0, Nat.zero_le _, rfl, rfl, Below.refl _ _⟩
    case round =>
      obtain ⟨k, hk, rfl, hno, hB⟩ := hrel
      have hBw : Below w.heap.size w wr := ((Below.refl _ w).alloc (Nat.le_refl _) _).trans (hB.mono (by omega))
      have hsz := hBw.size
      have hsz1 : w.heap.size < wr.heap.size := by have := hB.size; simp at this; omega
      have c0 := hB.cell (p := ⟨w.heap.size, 0, none⟩) (by simp)
      have c1 := hB.cell (p := ⟨w.heap.size, 1, none⟩) (by simp)
      simp at c0 c1
      by_cases hlt : k < zs.length
      · obtain ⟨q0, q1, q2, Hq, e0, e1, e2⟩ := OpsAt.at hc hb hBw hlt
        have hm : Hid (meetB (o0, o1, o2) (q0, q1, q2) = (o1 == q1 && (o0 != 1 || q0 != 1))) := rfl
        clear hc
        cases t1 : o1 == q1
        · go_wp2
          go_roundw
          case rel => exact ⟨k + 1, by omega, by go_num, any_step hlt Hq.out hno (by rw [hm.out, t1]; rfl), hB.alloc (by omega) _⟩
          case measure => simp [intOf]; omega
        · cases t2 : o0 != 1
          · cases t3 : q0 != 1
            · go_wp2
              go_roundw
              case rel => exact ⟨k + 1, by omega, by go_num, any_step hlt Hq.out hno (by rw [hm.out, t1, t2, t3]; rfl), hB.alloc (by omega) _⟩
              case measure => simp [intOf]; omega
            · go_wp2
              go_ret
              exact ⟨ret_bool (any_hit hlt Hq.out (by rw [hm.out, t1, t2, t3]; rfl)).symm, hBw.alloc hsz _⟩
          · go_wp2
            go_ret
            exact ⟨ret_bool (any_hit hlt Hq.out (by rw [hm.out, t1, t2]; rfl)).symm, hBw.alloc hsz _⟩
      · go_wp2
        go_ret
        exact ⟨ret_bool (any_end hlt hno).symm, hBw⟩

def touchB (s : Int) (o : OpL) : Bool := o.2.1 % 2 == s
def touchesL (zs : List OpL) (s : Int) : Bool := zs.any (touchB s)

set_option maxRecDepth 100000 in
set_option maxHeartbeats 400000 in
theorem touches_any (a : Option Addr) (cap : Nat) (zs : List OpL) (s : Int) (w : World) (hl : zs.length ≤ maxLen) (hz : OpsAt w a zs) :
    Calls Try.prog 73 #[.slice a zs.length cap, .int .i64 s] w fun e w' => e = .returned (.bool (touchesL zs s)) ∧ Below w.heap.size w w' := by
  unfold maxLen at hl
  rcases hz with rfl | ⟨b, off, rfl, hb, hc⟩
  · go_enter Try.func73, Try.ntmps73
    go_wp2
    refine wp_loop_rounds 1 ?_; rw [rounds_succ]
    go_wp2
    go_ret
    exact ⟨rfl, Below.refl _ _⟩
  · go_enter Try.func73, Try.ntmps73
    go_wp2
    go_loopw [9] (fun i wr => ∃ k : Nat, k ≤ zs.length ∧ i = .int .i64 k ∧ (zs.take k).any (touchB s) = false ∧ Below w.heap.size w wr) (fun i _ => zs.length - (intOf i).toNat)
    case atStart => exact ⟨0, Nat.zero_le _, rfl, rfl, Below.refl _ _⟩
    case round =>
      obtain ⟨k, hk, rfl, hno, hBw⟩ := hrel
      have hsz := hBw.size
      by_cases hlt : k < zs.length
      · obtain ⟨q0, q1, q2, Hq, e0, e1, e2⟩ := OpsAt.at hc hb hBw hlt
        have hm : Hid (touchB s (q0, q1, q2) = (q1 % 2 == s)) := rfl
        clear hc
        cases t1 : q1 % 2 == s
        · go_wp2_with (go_at_call 95; refine (shard_any _ _).mono ?_; rintro e w' ⟨rfl, rfl⟩)
          go_roundw
          case rel => exact ⟨k + 1, by omega, by go_num, any_step hlt Hq.out hno (by rw [hm.out, t1]), hBw.alloc hsz _⟩
          case measure => simp [intOf]; omega
        · go_wp2_with (go_at_call 95; refine (shard_any _ _).mono ?_; rintro e w' ⟨rfl, rfl⟩)
          go_ret
          exact ⟨ret_bool (any_hit hlt Hq.out (by rw [hm.out, t1])).symm, hBw.alloc hsz _⟩
      · go_wp2
        go_ret
        exact ⟨ret_bool (any_end hlt hno).symm, hBw⟩

def conflictB (b : List OpL) (s : Int) (o : OpL) : Bool := o.2.1 % 2 == s && meetsL o b
def conflictL (a b : List OpL) (s : Int) : Bool := a.any (conflictB b s)

set_option maxRecDepth 100000 in
set_option maxHeartbeats 400000 in
theorem conflict_any (a : Option Addr) (cap : Nat) (zs : List OpL) (a' : Option Addr) (cap' : Nat) (ys : List OpL) (s : Int) (w : World) (hl : zs.length ≤ maxLen) (hz : OpsAt w a zs) (hl' : ys.length ≤ maxLen) (hy : OpsAt w a' ys) :
    Calls Try.prog 96 #[.slice a zs.length cap, .slice a' ys.length cap', .int .i64 s] w fun e w' => e = .returned (.bool (conflictL zs ys s)) ∧ Below w.heap.size w w' := by
  have hl2 := hl
  unfold maxLen at hl
  rcases hz with rfl | ⟨b, off, rfl, hb, hc⟩
  · go_enter Try.func96, Try.ntmps96
    go_wp2
    refine wp_loop_rounds 1 ?_; rw [rounds_succ]
    go_wp2
    go_ret
    exact ⟨rfl, Below.refl _ _⟩
  · go_enter Try.func96, Try.ntmps96
    go_wp2
    go_loopw [11] (fun i wr => ∃ k : Nat, k ≤ zs.length ∧ i = .int .i64 k ∧ (zs.take k).any (conflictB ys s) = false ∧ Below w.heap.size w wr) (fun i _ => zs.length - (intOf i).toNat)
    case atStart => exact ⟨0, Nat.zero_le _, rfl, rfl, Below.refl _ _⟩
    case round =>
      obtain ⟨k, hk, rfl, hno, hBw⟩ := hrel
      have hsz := hBw.size
      by_cases hlt : k < zs.length
      · obtain ⟨q0, q1, q2, Hq, e0, e1, e2⟩ := OpsAt.at hc hb hBw hlt
        have hm : Hid (conflictB ys s (q0, q1, q2) = (q1 % 2 == s && meetsL (q0, q1, q2) ys)) := rfl
        have hy' : ∀ o, OpsAt (wr.alloc o) a' ys := fun o => hy.later (hBw.alloc hsz o)
        clear hc
        cases t1 : q1 % 2 == s
        · go_wp2_with (go_at_call 95; refine (shard_any _ _).mono ?_; rintro e w' ⟨rfl, rfl⟩)
          go_roundw
          case rel => exact ⟨k + 1, by omega, by go_num, any_step hlt Hq.out hno (by rw [hm.out, t1]; rfl), hBw.alloc hsz _⟩
          case measure => simp [intOf]; omega
        · go_wp2_with (go_at_call 95; refine (shard_any _ _).mono ?_; rintro e w' ⟨rfl, rfl⟩)
          refine (meets_any q0 q1 q2 a' cap' ys _ hl' (hy' _)).mono ?_
          rintro e w1 ⟨rfl, hb1⟩
          have hb2 : Below w.heap.size w w1 := (hBw.alloc hsz _).trans (hb1.mono (by simp; omega))
          clear hb1
          cases t2 : meetsL (q0, q1, q2) ys
          · go_wp2
            go_roundw
            case rel => exact ⟨k + 1, by omega, by go_num, any_step hlt Hq.out hno (by rw [hm.out, t1, t2]; rfl), hb2⟩
            case measure => simp [intOf]; omega
          · go_wp2
            go_ret
            exact ⟨ret_bool (any_hit hlt Hq.out (by rw [hm.out, t1, t2]; rfl)).symm, hb2⟩
      · go_wp2
        go_ret
        exact ⟨ret_bool (any_end hlt hno).symm, hBw⟩

end Go.Proofs.Ytgdkjjmnoikhdab

namespace Go.Proofs.Ytgdkjjmnoikhdab
open Go.RowKit

def goodB (o : OpL) : Bool := decide (0 ≤ o.2.1 ∧ o.2.1 < 8 ∧ (o.1 = 1 ∧ o.2.2 = 0 ∨ (o.1 = 2 ∨ o.1 = 3) ∧ -1099511627776 ≤ o.2.2 ∧ o.2.2 ≤ 1099511627776))

theorem near_eq (n : Int) : (n == near n) = decide (-1099511627776 ≤ n ∧ n ≤ 1099511627776) := by
  rw [Bool.eq_iff_iff]
  simp only [beq_iff_eq, decide_eq_true_eq]
  unfold near
  split
  · omega
  · split <;> omega

set_option maxRecDepth 100000 in
set_option maxHeartbeats 400000 in
theorem goodOp_any (o0 o1 o2 : Int) (w : World) :
    Calls Try.prog 109 #[.agg #[.int .i64 o0, .int .i64 o1, .int .i64 o2]] w fun e w' => e = .returned (.bool (goodB (o0, o1, o2))) ∧ Below w.heap.size w w' := by
  by_cases h1 : o1 < 0
  · have E : Hid (goodB (o0, o1, o2) = false) := by unfold goodB Hid; simp; omega
    go_enter Try.func109, Try.ntmps109
    go_wp2
    go_ret
    exact ⟨ret_bool E.out.symm, (Below.refl _ _).alloc (Nat.le_refl _) _⟩
  · by_cases h2 : 8 ≤ o1
    · have E : Hid (goodB (o0, o1, o2) = false) := by unfold goodB Hid; simp; omega
      go_enter Try.func109, Try.ntmps109
      go_wp2
      go_ret
      exact ⟨ret_bool E.out.symm, (Below.refl _ _).alloc (Nat.le_refl _) _⟩
    · cases t1 : o0 == 1
      · cases t2 : o0 == 2
        · cases t3 : o0 == 3
          · have E : Hid (goodB (o0, o1, o2) = false) := by simp at t1 t2 t3; unfold goodB Hid; simp; omega
            go_enter Try.func109, Try.ntmps109
            go_wp2
            go_ret
            exact ⟨ret_bool E.out.symm, (Below.refl _ _).alloc (Nat.le_refl _) _⟩
          · have E : Hid (goodB (o0, o1, o2) = (o2 == near o2)) := by simp at t3; rw [Hid, near_eq, Bool.eq_iff_iff]; unfold goodB; simp; omega
            go_enter Try.func109, Try.ntmps109
            go_wp2
            go_quiet ((go_at_call 110; exact Calls.quiet_of_same (nearest_any _ _)))
            go_wp2
            go_ret
            exact ⟨ret_bool E.out.symm, below_drewN ((Below.refl _ _).alloc (Nat.le_refl _) _) _⟩
        · have E : Hid (goodB (o0, o1, o2) = (o2 == near o2)) := by simp at t2; rw [Hid, near_eq, Bool.eq_iff_iff]; unfold goodB; simp; omega
          go_enter Try.func109, Try.ntmps109
          go_wp2
          go_quiet ((go_at_call 110; exact Calls.quiet_of_same (nearest_any _ _)))
          go_wp2
          go_ret
          exact ⟨ret_bool E.out.symm, below_drewN ((Below.refl _ _).alloc (Nat.le_refl _) _) _⟩
      · have E : Hid (goodB (o0, o1, o2) = (o2 == 0)) := by simp at t1; rw [Hid, Bool.eq_iff_iff]; unfold goodB; simp; omega
        go_enter Try.func109, Try.ntmps109
        go_wp2
        go_ret
        exact ⟨ret_bool E.out.symm, (Below.refl _ _).alloc (Nat.le_refl _) _⟩

def keyB (k : Int) (p : OpL) : Bool := p.2.1 == k
/-- the k-th is good, and none ahead of it has its key -/
def goodAt (zs : List OpL) (k : Nat) : Bool := goodB (zs.getD k (0, 0, 0)) && !(zs.take k).any (keyB (zs.getD k (0, 0, 0)).2.1)
def goodOpsL (zs : List OpL) : Bool := decide (1 ≤ zs.length ∧ zs.length ≤ 4) && (List.range zs.length).all (goodAt zs)

theorem range_step {p : Nat → Bool} {k : Nat} (h : (List.range k).all p = true) (hk : p k = true) : (List.range (k + 1)).all p = true := by
  rw [List.range_succ, List.all_append, h]
  simp [hk]
theorem range_miss {p : Nat → Bool} {k n : Nat} (hn : k < n) (hk : p k = false) : (List.range n).all p = false :=
  List.all_eq_false.2 ⟨k, List.mem_range.2 hn, by simp [hk]⟩

theorem good_len {zs : List OpL} (h : zs.length < 1 ∨ 4 < zs.length) : goodOpsL zs = false := by
  unfold goodOpsL
  rw [decide_eq_false (by omega), Bool.false_and]
theorem good_len_yes {zs : List OpL} (h : ¬ zs.length < 1) (h' : ¬ 4 < zs.length) : goodOpsL zs = (List.range zs.length).all (goodAt zs) := by
  unfold goodOpsL
  rw [decide_eq_true (by omega), Bool.true_and]

def seenOf (zs : List OpL) (k : Nat) (i : Nat) : Bool := (zs.take k).any (keyB (i : Int))
theorem seen_step {zs : List OpL} {k m : Nat} {q0 q2 : Int} (hk : k < zs.length) (hq : zs.getD k (0, 0, 0) = (q0, (m : Int), q2)) (i : Nat) : (if i = m then true else seenOf zs k i) = seenOf zs (k + 1) i := by
  have : zs[k] = (q0, (m : Int), q2) := by rw [← hq]; simp [List.getD, hk]
  unfold seenOf
  rw [List.take_succ_eq_append_getElem hk, List.any_append, this]
  by_cases e : i = m
  · subst e
    simp [keyB]
  · rw [if_neg e]
    have : keyB (i : Int) (q0, (m : Int), q2) = false := by simp [keyB]; omega
    simp [this]

theorem SetAt.later {n : Nat} {w w' : World} {c B : Nat} {S : Nat → Bool} (h : SetAt n w c S) (hB : Below B w w') (hc : c < B) : SetAt n w' c S := by
  obtain ⟨t, h⟩ := h
  exact ⟨t, by rw [hB.block c hc]; exact h⟩

theorem zero8 : bools 8 (fun _ => false) = #[.bool false, .bool false, .bool false, .bool false, .bool false, .bool false, .bool false, .bool false] := by rfl

theorem goodAt_no1 {zs : List OpL} {k : Nat} {q : OpL} (hq : zs.getD k (0, 0, 0) = q) (h : goodB q = false) : goodAt zs k = false := by
  unfold goodAt
  rw [hq, h, Bool.false_and]
theorem goodAt_no2 {zs : List OpL} {k m : Nat} {q0 q2 : Int} (hq : zs.getD k (0, 0, 0) = (q0, (m : Int), q2)) (h : seenOf zs k m = true) : goodAt zs k = false := by
  unfold goodAt
  rw [hq]
  unfold seenOf at h
  simp only [h, Bool.not_true, Bool.and_false]
theorem goodAt_yes {zs : List OpL} {k m : Nat} {q0 q2 : Int} (hq : zs.getD k (0, 0, 0) = (q0, (m : Int), q2)) (h1 : goodB (q0, (m : Int), q2) = true) (h : seenOf zs k m = false) : goodAt zs k = true := by
  unfold goodAt
  rw [hq]
  unfold seenOf at h
  simp only [h, h1, Bool.not_false, Bool.and_true]
theorem goodB_key {q0 q1 q2 : Int} (h : goodB (q0, q1, q2) = true) : 0 ≤ q1 ∧ q1 < 8 := by
  unfold goodB at h
  have := of_decide_eq_true h
  exact ⟨this.1, this.2.1⟩

set_option maxRecDepth 100000 in
set_option maxHeartbeats 1000000 in
theorem goodOps_any (a : Option Addr) (cap : Nat) (zs : List OpL) (w : World) (hl : zs.length ≤ maxLen) (hz : OpsAt w a zs) :
    Calls Try.prog 98 #[.slice a zs.length cap] w fun e w' => e = .returned (.bool (goodOpsL zs)) ∧ Below w.heap.size w w' := by
  unfold maxLen at hl
  by_cases h1 : zs.length < 1
  · have E : Hid (goodOpsL zs = false) := good_len (Or.inl h1)
    go_enter Try.func98, Try.ntmps98
    go_wp2
    go_ret
    exact ⟨ret_bool E.out.symm, Below.refl _ _⟩
  by_cases h2 : 4 < zs.length
  · have E : Hid (goodOpsL zs = false) := good_len (Or.inr h2)
    go_enter Try.func98, Try.ntmps98
    go_wp2
    go_ret
    exact ⟨ret_bool E.out.symm, Below.refl _ _⟩
  have E : Hid (goodOpsL zs = (List.range zs.length).all (goodAt zs)) := good_len_yes h1 h2
  rcases hz with rfl | ⟨b, off, rfl, hb, hc⟩
  · simp at h1
  go_enter Try.func98, Try.ntmps98
  go_wp2
  rw [← zero8]
  go_loopw [16] (fun i wr => ∃ k : Nat, k ≤ zs.length ∧ i = .int .i64 k ∧ Hid ((List.range k).all (goodAt zs) = true) ∧ SetAt 8 wr w.heap.size (seenOf zs k) ∧ Below w.heap.size w wr) (fun i _ => zs.length - (intOf i).toNat)
  case atStart => exact ⟨0, Nat.zero_le _, rfl, rfl, ⟨120, heap_new _ _⟩, (Below.refl _ _).alloc (Nat.le_refl _) _⟩
  case round =>
    obtain ⟨k, hk, rfl, hall, hS, hBw⟩ := hrel
    have hsz := hBw.size
    have hcl := hS.lt
    by_cases hlt : k < zs.length
    · obtain ⟨q0, q1, q2, Hq, e0, e1, e2⟩ := OpsAt.at hc hb hBw hlt
      clear hc
      go_wp2_with fail
      refine (goodOp_any q0 q1 q2 _).mono ?_
      rintro e w1 ⟨rfl, hb1⟩
      have f1 := hb1.cell (p := ⟨wr.heap.size, 1, none⟩) (by simp)
      simp at f1
      have hS1 : SetAt 8 w1 w.heap.size (seenOf zs k) := (hS.later ((Below.refl _ _).alloc (Nat.le_refl _) _) hcl).later hb1 (by simp; omega)
      have hb2 : Below w.heap.size w w1 := (hBw.alloc hsz _).trans (hb1.mono (by simp; omega))
      have hz1 : wr.heap.size < w1.heap.size := by have := hb1.size; simp at this; omega
      clear hb1
      cases tg : goodB (q0, q1, q2)
      · have N : Hid (goodOpsL zs = false) := by unfold Hid; rw [E.out]; exact range_miss hlt (goodAt_no1 Hq.out tg)
        go_wp2
        go_ret
        exact ⟨ret_bool N.out.symm, hb2⟩
      · obtain ⟨k0, k1⟩ := goodB_key tg
        obtain ⟨m, rfl⟩ := Int.eq_ofNat_of_zero_le k0
        have hm : m < 8 := by omega
        have g1 := hS1.cell hm
        have g2 := hS1.frozen m
        cases ts : seenOf zs k m
        · rw [ts] at g1
          have Y : Hid ((List.range (k + 1)).all (goodAt zs) = true) := range_step hall.out (goodAt_yes Hq.out tg ts)
          have HS : SetAt 8 (w1.setCell ⟨w.heap.size, m, none⟩ (.bool true)) w.heap.size (seenOf zs (k + 1)) := (hS1.put m true).congr (fun i _ => seen_step hlt Hq.out i)
          clear hS1 hS
          go_wp2
          go_roundw
          case rel => exact ⟨k + 1, by omega, by go_num, Y, HS, hb2.setCell (by simp) _⟩
          case measure => simp [intOf]; omega
        · rw [ts] at g1
          have N : Hid (goodOpsL zs = false) := by unfold Hid; rw [E.out]; exact range_miss hlt (goodAt_no2 Hq.out ts)
          go_wp2
          go_ret
          exact ⟨ret_bool N.out.symm, hb2⟩
    · have N : Hid (goodOpsL zs = true) := by
        unfold Hid
        have : k = zs.length := by omega
        rw [E.out, ← this]
        exact hall.out
      go_wp2
      go_ret
      exact ⟨ret_bool N.out.symm, hBw⟩

end Go.Proofs.Ytgdkjjmnoikhdab

namespace Go.Proofs.Ytgdkjjmnoikhdab
open Go.RowKit

def risingFrom : Int → List Int → Bool
  | _, [] => true
  | l, n :: r => !(decide (n ≤ l) || decide (32 ≤ n)) && risingFrom n r

theorem drop_at {zs : List Int} {k : Nat} {q : Int} (hk : k < zs.length) (hq : zs.getD k 0 = q) : zs.drop k = q :: zs.drop (k + 1) := by
  rw [List.drop_eq_getElem_cons hk]
  have : zs[k] = q := by rw [← hq]; simp [List.getD, hk]
  rw [this]

theorem rising_no {zs : List Int} {k : Nat} {q l m : Int} (hk : k < zs.length) (hq : zs.getD k 0 = q) (h : risingFrom m zs = risingFrom l (zs.drop k)) (hn : q ≤ l ∨ 32 ≤ q) : risingFrom m zs = false := by
  rw [h, drop_at hk hq, risingFrom]
  have : (decide (q ≤ l) || decide (32 ≤ q)) = true := by simpa using hn
  rw [this]
  rfl
theorem rising_yes {zs : List Int} {k : Nat} {q l m : Int} (hk : k < zs.length) (hq : zs.getD k 0 = q) (h : risingFrom m zs = risingFrom l (zs.drop k)) (h1 : ¬ q ≤ l) (h2 : ¬ 32 ≤ q) : risingFrom m zs = risingFrom q (zs.drop (k + 1)) := by
  rw [h, drop_at hk hq, risingFrom]
  simp [h1, h2]
theorem rising_end {zs : List Int} {k : Nat} {l m : Int} (hk : ¬ k < zs.length) (h : risingFrom m zs = risingFrom l (zs.drop k)) : risingFrom m zs = true := by
  rw [h, List.drop_of_length_le (by omega)]
  rfl

set_option maxRecDepth 100000 in
set_option maxHeartbeats 400000 in
theorem rising_any (a : Option Addr) (cap : Nat) (zs : List Int) (w : World) (hl : zs.length ≤ maxLen) (hz : IntsAt w.heap.size w a zs) :
    Calls Try.prog 103 #[.slice a zs.length cap] w fun e w' => e = .returned (.bool (risingFrom (-1) zs)) ∧ w' = w := by
  unfold maxLen at hl
  rcases hz with rfl | ⟨b, off, rfl, hb, hc⟩
  · go_enter Try.func103, Try.ntmps103
    go_wp2
    refine wp_loop_rounds 1 ?_; rw [rounds_succ]
    go_wp2
    go_ret
    exact ⟨rfl, rfl⟩
  · go_enter Try.func103, Try.ntmps103
    go_wp2
    go_loop [3, 8] (fun l i => ∃ (k : Nat) (q : Int), k ≤ zs.length ∧ i = .int .i64 k ∧ l = .int .i64 q ∧ Hid (risingFrom (-1) zs = risingFrom q (zs.drop k))) (fun _ i => zs.length - (intOf i).toNat)
    case atStart => exact ⟨0, -1, Nat.zero_le _, rfl, rfl, rfl⟩
    case round =>
      obtain ⟨k, l, hk, rfl, rfl, hno⟩ := hrel
      by_cases hlt : k < zs.length
      · obtain ⟨q, Hq, e0⟩ := IntsAt.at hc hb (Below.refl _ _) hlt
        clear hc
        by_cases t1 : q ≤ l
        · go_wp2
          go_ret
          exact ⟨ret_bool (rising_no hlt Hq.out hno.out (Or.inl t1)).symm, rfl⟩
        · by_cases t2 : 32 ≤ q
          · go_wp2
            go_ret
            exact ⟨ret_bool (rising_no hlt Hq.out hno.out (Or.inr t2)).symm, rfl⟩
          · go_wp2
            go_round
            case rel => exact ⟨k + 1, q, by omega, by go_num, rfl, rising_yes hlt Hq.out hno.out t1 t2⟩
            case measure => simp [intOf]; omega
      · go_wp2
        go_ret
        exact ⟨ret_bool (rising_end hlt hno.out).symm, rfl⟩

end Go.Proofs.Ytgdkjjmnoikhdab

namespace Go.Proofs.Ytgdkjjmnoikhdab
open Go.RowKit

structure FrameL where
  kind : Int
  node : Int
  id : Int
  ops : List OpL
  deps : List Int
  ats : List Int
  vals : List Int

def byt (n : Int) : UInt8 := UInt8.ofNat (n % 256).toNat
theorem byt_nat {n : Int} (h : 0 ≤ n) (h' : n < 256) : ((byt n).toNat : Int) = n := by
  unfold byt
  rw [UInt8.toNat_ofNat']
  omega
theorem byt_of (c : UInt8) : byt (c.toNat : Int) = c := by
  unfold byt
  have := c.toNat_lt
  apply UInt8.toNat_inj.1
  rw [UInt8.toNat_ofNat']
  omega
theorem byt_mod (n : Int) : byt (n % 256) = byt n := by unfold byt; rw [Int.emod_emod_of_dvd _ (by decide)]

def sixAt (m : Int) : List UInt8 := [byt (m / 1099511627776), byt (m / 4294967296), byt (m / 16777216), byt (m / 65536), byt (m / 256), byt m]
def six (n : Int) : List UInt8 := sixAt (n + 140737488355328)
theorem six_len (n : Int) : (six n).length = 6 := rfl

def encOps (zs : List OpL) : List UInt8 := zs.flatMap fun o => byt o.1 :: byt o.2.1 :: six o.2.2
def encNums (zs : List Int) : List UInt8 := zs.map byt
def encTold : List Int → List Int → List UInt8
  | a :: xs, v :: vs => byt a :: six v ++ encTold xs vs
  | _, _ => []
def encL (f : FrameL) : List UInt8 :=
  [byt f.kind, byt f.node, byt f.id, byt f.ops.length] ++ encOps f.ops ++ [byt f.deps.length] ++ encNums f.deps ++ [byt f.ats.length] ++ encTold f.ats f.vals

/-- a reader: what is left, and whether something was lacking -/
structure Rd where
  rest : List UInt8
  short : Bool

def Rd.one (r : Rd) : Int := match r.rest with | [] => 0 | c :: _ => (c.toNat : Int)
def Rd.next (r : Rd) : Rd := match r.rest with | [] => ⟨[], true⟩ | _ :: t => ⟨t, r.short⟩
theorem Rd.one_lo (r : Rd) : 0 ≤ r.one := by unfold Rd.one; split <;> omega
theorem Rd.one_hi (r : Rd) : r.one < 256 := by
  unfold Rd.one
  split
  · omega
  · rename_i c _ _
    have := c.toNat_lt
    omega

def Rd.after : Nat → Rd → Rd
  | 0, r => r
  | k + 1, r => Rd.after k r.next
def Rd.num : Nat → Int → Rd → Int
  | 0, n, _ => n
  | k + 1, n, r => Rd.num k (n * 256 + r.one) r.next
def Rd.wide (r : Rd) : Int := Rd.num 6 0 r - 140737488355328
def Rd.next6 (r : Rd) : Rd := Rd.after 6 r

def Rd.ops : Nat → Rd → List OpL × Rd
  | 0, r => ([], r)
  | k + 1, r => ((r.one, r.next.one, r.next.next.wide) :: (Rd.ops k r.next.next.next6).1, (Rd.ops k r.next.next.next6).2)
def Rd.nums : Nat → Rd → List Int × Rd
  | 0, r => ([], r)
  | k + 1, r => (r.one :: (Rd.nums k r.next).1, (Rd.nums k r.next).2)
def Rd.told : Nat → Rd → List Int × List Int × Rd
  | 0, r => ([], [], r)
  | k + 1, r => (r.one :: (Rd.told k r.next.next6).1, r.next.wide :: (Rd.told k r.next.next6).2.1, (Rd.told k r.next.next6).2.2)

/-- the reader's road: behind the head, behind the operations, behind what stands ahead, behind what is told -/
def Rd.r1 (r : Rd) : Rd := r.next.next.next
def Rd.o1 (r : Rd) : List OpL × Rd := Rd.ops r.r1.one.toNat r.r1.next
def Rd.d1 (r : Rd) : List Int × Rd := Rd.nums r.o1.2.one.toNat r.o1.2.next
def Rd.t1 (r : Rd) : List Int × List Int × Rd := Rd.told r.d1.2.one.toNat r.d1.2.next
def Rd.frame (r : Rd) : FrameL := ⟨r.one, r.next.one, r.next.next.one, r.o1.1, r.d1.1, r.t1.1, r.t1.2.1⟩
def Rd.end_ (r : Rd) : Rd := r.t1.2.2

/- what was read, if nothing was lacking, stood there -/
theorem Rd.next_sound {r : Rd} (h : r.next.short = false) : r.short = false ∧ r.rest = byt r.one :: r.next.rest := by
  obtain ⟨l, b⟩ := r
  cases l with
  | nil => simp [Rd.next] at h
  | cons c t => exact ⟨h, by simp [Rd.one, Rd.next, byt_of]⟩

theorem Rd.after_sound {r : Rd} (h : r.next6.short = false) : r.short = false ∧ r.rest = six r.wide ++ r.next6.rest := by
  unfold Rd.next6 Rd.after at h
  simp only [Rd.after] at h
  obtain ⟨h5, e5⟩ := Rd.next_sound h
  obtain ⟨h4, e4⟩ := Rd.next_sound h5
  obtain ⟨h3, e3⟩ := Rd.next_sound h4
  obtain ⟨h2, e2⟩ := Rd.next_sound h3
  obtain ⟨h1, e1⟩ := Rd.next_sound h2
  obtain ⟨h0, e0⟩ := Rd.next_sound h1
  refine ⟨h0, ?_⟩
  rw [e0, e1, e2, e3, e4, e5]
  simp only [Rd.wide, Rd.num, six, sixAt, Rd.next6, Rd.after]
  have a0 := r.one_lo
  have b0 := r.one_hi
  have a1 := r.next.one_lo
  have b1 := r.next.one_hi
  have a2 := r.next.next.one_lo
  have b2 := r.next.next.one_hi
  have a3 := r.next.next.next.one_lo
  have b3 := r.next.next.next.one_hi
  have a4 := r.next.next.next.next.one_lo
  have b4 := r.next.next.next.next.one_hi
  have a5 := r.next.next.next.next.next.one_lo
  have b5 := r.next.next.next.next.next.one_hi
  generalize r.one = c0 at *
  generalize r.next.one = c1 at *
  generalize r.next.next.one = c2 at *
  generalize r.next.next.next.one = c3 at *
  generalize r.next.next.next.next.one = c4 at *
  generalize r.next.next.next.next.next.one = c5 at *
  have key : ∀ x y : Int, x % 256 = y % 256 → byt x = byt y := fun x y h => by rw [← byt_mod x, ← byt_mod y, h]
  simp only [List.cons_append, List.nil_append, List.cons.injEq, and_true]
  exact ⟨key _ _ (by omega), key _ _ (by omega), key _ _ (by omega), key _ _ (by omega), key _ _ (by omega), key _ _ (by omega)⟩

theorem Rd.ops_sound : ∀ (n : Nat) {r : Rd}, (Rd.ops n r).2.short = false → r.short = false ∧ r.rest = encOps (Rd.ops n r).1 ++ (Rd.ops n r).2.rest
  | 0, r, h => ⟨h, rfl⟩
  | k + 1, r, h => by
    obtain ⟨h3, e3⟩ := Rd.ops_sound k h
    obtain ⟨h2, e2⟩ := Rd.after_sound h3
    obtain ⟨h1, e1⟩ := Rd.next_sound h2
    obtain ⟨h0, e0⟩ := Rd.next_sound h1
    refine ⟨h0, ?_⟩
    rw [e0, e1, e2, e3]
    simp [Rd.ops, encOps]
theorem Rd.ops_len : ∀ (n : Nat) (r : Rd), (Rd.ops n r).1.length = n
  | 0, _ => rfl
  | k + 1, r => by simp [Rd.ops, Rd.ops_len k]

theorem Rd.nums_sound : ∀ (n : Nat) {r : Rd}, (Rd.nums n r).2.short = false → r.short = false ∧ r.rest = encNums (Rd.nums n r).1 ++ (Rd.nums n r).2.rest
  | 0, r, h => ⟨h, rfl⟩
  | k + 1, r, h => by
    obtain ⟨h1, e1⟩ := Rd.nums_sound k h
    obtain ⟨h0, e0⟩ := Rd.next_sound h1
    refine ⟨h0, ?_⟩
    rw [e0, e1]
    simp [Rd.nums, encNums]
theorem Rd.nums_len : ∀ (n : Nat) (r : Rd), (Rd.nums n r).1.length = n
  | 0, _ => rfl
  | k + 1, r => by simp [Rd.nums, Rd.nums_len k]

theorem Rd.told_sound : ∀ (n : Nat) {r : Rd}, (Rd.told n r).2.2.short = false → r.short = false ∧ r.rest = encTold (Rd.told n r).1 (Rd.told n r).2.1 ++ (Rd.told n r).2.2.rest
  | 0, r, h => ⟨h, rfl⟩
  | k + 1, r, h => by
    obtain ⟨h2, e2⟩ := Rd.told_sound k h
    obtain ⟨h1, e1⟩ := Rd.after_sound h2
    obtain ⟨h0, e0⟩ := Rd.next_sound h1
    refine ⟨h0, ?_⟩
    rw [e0, e1, e2]
    simp [Rd.told, encTold]
theorem Rd.told_len : ∀ (n : Nat) (r : Rd), (Rd.told n r).1.length = n ∧ (Rd.told n r).2.1.length = n
  | 0, _ => ⟨rfl, rfl⟩
  | k + 1, r => by simp [Rd.told, Rd.told_len k]

theorem Rd.frame_sound {r : Rd} (h : r.end_.short = false) : r.short = false ∧ r.rest = encL r.frame ++ r.end_.rest := by
  obtain ⟨g5, e5⟩ := Rd.told_sound _ h
  obtain ⟨g4, e4⟩ := Rd.next_sound g5
  obtain ⟨g3, e3⟩ := Rd.nums_sound _ g4
  obtain ⟨g2, e2⟩ := Rd.next_sound g3
  obtain ⟨g1, e1⟩ := Rd.ops_sound _ g2
  obtain ⟨g0, e0⟩ := Rd.next_sound g1
  obtain ⟨f2, d2⟩ := Rd.next_sound g0
  obtain ⟨f1, d1⟩ := Rd.next_sound f2
  obtain ⟨f0, d0⟩ := Rd.next_sound f1
  refine ⟨f0, ?_⟩
  have n1 : ((Rd.ops r.r1.one.toNat r.r1.next).1.length : Int) = r.r1.one := by rw [Rd.ops_len]; have := r.r1.one_lo; omega
  have n2 : ((Rd.nums r.o1.2.one.toNat r.o1.2.next).1.length : Int) = r.o1.2.one := by rw [Rd.nums_len]; have := r.o1.2.one_lo; omega
  have n3 : ((Rd.told r.d1.2.one.toNat r.d1.2.next).1.length : Int) = r.d1.2.one := by rw [(Rd.told_len _ _).1]; have := r.d1.2.one_lo; omega
  rw [d0, d1, d2]
  unfold encL
  simp only [Rd.frame, Rd.o1, Rd.d1, Rd.t1, Rd.end_] at *
  rw [n1, n2, n3]
  unfold Rd.r1 at *
  rw [e0, e1, e2, e3, e4, e5]
  simp

/- what stands there is read -/
theorem encOps_cons (o : OpL) (zs : List OpL) : encOps (o :: zs) = byt o.1 :: byt o.2.1 :: six o.2.2 ++ encOps zs := by simp [encOps]
/- good frames -/
def toldFrom : Int → List Int → List Int → Bool
  | l, a :: xs, v :: vs => !(decide (a ≤ l) || decide (4 ≤ a)) && decide (-1099511627776 ≤ v ∧ v ≤ 1099511627776) && toldFrom a xs vs
  | _, _, _ => true
def goodOpsF (f : FrameL) : Bool := if f.kind = 1 ∨ f.kind = 3 then goodOpsL f.ops else decide (f.ops.length = 0)
def goodDepsF (f : FrameL) : Bool := if f.kind = 2 ∨ f.kind = 3 then risingFrom (-1) f.deps && !hasL f.deps f.id else decide (f.deps.length = 0)
def goodToldF (f : FrameL) : Bool := decide (f.kind = 5 ∨ f.ats.length = 0) && (decide (f.vals.length = f.ats.length) && toldFrom (-1) f.ats f.vals)
def goodL (f : FrameL) : Int :=
  if f.kind < 1 ∨ 5 < f.kind then 3 else if f.node < 0 ∨ 6 ≤ f.node ∨ f.id < 0 ∨ 32 ≤ f.id then 2
  else if goodOpsF f && (goodDepsF f && goodToldF f) then 0 else 1

theorem rising_in : ∀ (zs : List Int) (l : Int), risingFrom l zs = true → (∀ n ∈ zs, l < n ∧ n < 32) ∧ (zs = [] ∨ (zs.length : Int) ≤ 31 - l)
  | [], l, _ => ⟨by simp, Or.inl rfl⟩
  | n :: r, l, h => by
    rw [risingFrom] at h
    simp only [Bool.and_eq_true, Bool.not_eq_true', Bool.or_eq_false_iff, decide_eq_false_iff_not] at h
    obtain ⟨⟨h1, h2⟩, h3⟩ := h
    obtain ⟨i1, i2⟩ := rising_in r n h3
    refine ⟨fun m hm => ?_, Or.inr ?_⟩
    · rcases List.mem_cons.1 hm with rfl | hm
      · omega
      · have := i1 m hm
        omega
    · rcases i2 with rfl | i2
      · simp; omega
      · simp; omega

theorem told_in : ∀ (xs vs : List Int) (l : Int), vs.length = xs.length → toldFrom l xs vs = true → (∀ n ∈ xs, l < n ∧ n < 4) ∧ (∀ n ∈ vs, -1099511627776 ≤ n ∧ n ≤ 1099511627776) ∧ (xs = [] ∨ (xs.length : Int) ≤ 3 - l)
  | [], [], l, _, _ => ⟨by simp, by simp, Or.inl rfl⟩
  | [], _ :: _, _, h, _ => by simp at h
  | _ :: _, [], _, h, _ => by simp at h
  | a :: xs, v :: vs, l, hl, h => by
    rw [toldFrom] at h
    simp only [Bool.and_eq_true, Bool.not_eq_true', Bool.or_eq_false_iff, decide_eq_false_iff_not, decide_eq_true_eq] at h
    obtain ⟨⟨⟨h1, h2⟩, h3⟩, h4⟩ := h
    obtain ⟨i1, i2, i3⟩ := told_in xs vs a (by simpa using hl) h4
    refine ⟨fun m hm => ?_, fun m hm => ?_, Or.inr ?_⟩
    · rcases List.mem_cons.1 hm with rfl | hm
      · omega
      · have := i1 m hm
        omega
    · rcases List.mem_cons.1 hm with rfl | hm
      · omega
      · exact i2 m hm
    · rcases i3 with rfl | i3
      · simp; omega
      · simp; omega

theorem ops_in {zs : List OpL} (h : goodOpsL zs = true) : zs.length ≤ 4 ∧ ∀ o ∈ zs, goodB o = true := by
  unfold goodOpsL at h
  simp only [Bool.and_eq_true, decide_eq_true_eq] at h
  refine ⟨h.1.2, fun o ho => ?_⟩
  obtain ⟨i, hi, rfl⟩ := List.mem_iff_getElem.1 ho
  have := List.all_eq_true.1 h.2 i (List.mem_range.2 hi)
  unfold goodAt at this
  simp only [Bool.and_eq_true] at this
  have e : zs.getD i (0, 0, 0) = zs[i] := by simp [List.getD, hi]
  rw [e] at this
  exact this.1

theorem good_in {f : FrameL} (h : goodL f = 0) : (1 ≤ f.kind ∧ f.kind ≤ 5) ∧ (0 ≤ f.node ∧ f.node < 6) ∧ (0 ≤ f.id ∧ f.id < 32) ∧ (f.ops.length ≤ 4 ∧ ∀ o ∈ f.ops, goodB o = true) ∧
    (f.deps.length ≤ 32 ∧ ∀ n ∈ f.deps, 0 ≤ n ∧ n < 256) ∧ (f.ats.length ≤ 4 ∧ ∀ n ∈ f.ats, 0 ≤ n ∧ n < 256) ∧ f.vals.length = f.ats.length ∧ ∀ n ∈ f.vals, -140737488355328 ≤ n ∧ n < 140737488355328 := by
  unfold goodL at h
  by_cases h1 : f.kind < 1 ∨ 5 < f.kind
  · rw [if_pos h1] at h
    omega
  rw [if_neg h1] at h
  by_cases h2 : f.node < 0 ∨ 6 ≤ f.node ∨ f.id < 0 ∨ 32 ≤ f.id
  · rw [if_pos h2] at h
    omega
  rw [if_neg h2] at h
  by_cases h3 : (goodOpsF f && (goodDepsF f && goodToldF f)) = true
  · simp only [Bool.and_eq_true] at h3
    obtain ⟨g1, g2, g3⟩ := h3
    refine ⟨by omega, by omega, by omega, ?_, ?_, ?_⟩
    · unfold goodOpsF at g1
      split at g1
      · exact ops_in g1
      · have : f.ops = [] := by simpa using g1
        rw [this]
        simp
    · unfold goodDepsF at g2
      split at g2
      · simp only [Bool.and_eq_true] at g2
        obtain ⟨i1, i2⟩ := rising_in _ _ g2.1
        refine ⟨?_, fun n hn => by have := i1 n hn; omega⟩
        rcases i2 with i2 | i2
        · rw [i2]
          simp
        · omega
      · have : f.deps = [] := by simpa using g2
        rw [this]
        simp
    · unfold goodToldF at g3
      simp only [Bool.and_eq_true, decide_eq_true_eq] at g3
      obtain ⟨_, g4, g5⟩ := g3
      obtain ⟨i1, i2, i3⟩ := told_in _ _ _ g4 g5
      refine ⟨⟨?_, fun n hn => by have := i1 n hn; omega⟩, g4, fun n hn => by have := i2 n hn; omega⟩
      rcases i3 with i3 | i3
      · rw [i3]
        simp
      · omega
  · rw [if_neg h3] at h
    omega

/- Decode -/
def okL (s : List UInt8) : Bool := !((⟨s, false⟩ : Rd).end_.short || !(⟨s, false⟩ : Rd).end_.rest.isEmpty) && (goodL (⟨s, false⟩ : Rd).frame == 0)
def zeroF : FrameL := ⟨0, 0, 0, [], [], [], []⟩
def decL (s : List UInt8) : FrameL := if okL s = true then (⟨s, false⟩ : Rd).frame else zeroF
def decE (s : List UInt8) : Int := if okL s = true then 0 else 1

theorem ok_sound {s : List UInt8} (h : okL s = true) : goodL (decL s) = 0 ∧ encL (decL s) = s := by
  have hd : decL s = (⟨s, false⟩ : Rd).frame := by unfold decL; rw [if_pos h]
  unfold okL at h
  simp only [Bool.and_eq_true, Bool.not_eq_true', Bool.or_eq_false_iff, Bool.not_eq_false', List.isEmpty_iff, beq_iff_eq] at h
  obtain ⟨⟨h1, h2⟩, h3⟩ := h
  refine ⟨by rw [hd]; exact h3, ?_⟩
  obtain ⟨_, e⟩ := Rd.frame_sound h1
  rw [h2, List.append_nil] at e
  rw [hd]
  exact e.symm
theorem encOps_len (zs : List OpL) : (encOps zs).length = 8 * zs.length := by
  induction zs with
  | nil => rfl
  | cons o zs ih => rw [encOps_cons, List.length_append, ih]; simp [six_len]; omega
theorem encTold_len : ∀ (xs vs : List Int), vs.length = xs.length → (encTold xs vs).length = 7 * xs.length
  | [], [], _ => rfl
  | [], _ :: _, h => by simp at h
  | _ :: _, [], h => by simp at h
  | a :: xs, v :: vs, h => by
    have := encTold_len xs vs (by simpa using h)
    simp [encTold, six_len, this]
    omega
end Go.Proofs.Ytgdkjjmnoikhdab

namespace Go.Proofs.Ytgdkjjmnoikhdab
open Go.RowKit

structure EntryL where
  state : Int
  ops : List OpL
  first : List Int
  deps : List Int
  ats : List Int
  vals : List Int
def zeroE : EntryL := ⟨0, [], [], [], [], []⟩
structure NodeL where
  ent : Nat → EntryL
  order : List Int
  vals : Nat → Int
def zeroN : NodeL := ⟨fun _ => zeroE, [], fun _ => 0⟩

/-- At rises, behind l, each below n. -/
def atsFrom : Int → Nat → List Int → Bool
  | _, _, [] => true
  | l, n, k :: r => decide (l < k) && decide (k < (n : Int)) && atsFrom k n r
/-- P5.1: a transaction that is not Nothing. -/
structure Fine (e : EntryL) (n : Nat) : Prop where
  st : 1 ≤ e.state ∧ e.state ≤ 3
  ops : goodOpsL e.ops = true
  first : risingFrom (-1) e.first = true ∧ hasL e.first n = false
  deps : risingFrom (-1) e.deps = true ∧ hasL e.deps n = false
  asked : e.state = 1 → e.deps = []
  told : e.state ≠ 3 → e.ats = []
  ats : atsFrom (-1) e.ops.length e.ats = true
  vals : e.vals.length = e.ats.length
/-- P5.1. -/
structure GoodN (s : NodeL) : Prop where
  ent : ∀ n : Nat, n < 32 → s.ent n = zeroE ∨ Fine (s.ent n) n
  cnt : ∀ n : Nat, n < 32 → s.order.count (n : Int) = if (s.ent n).state = 3 then 1 else 0
  lt : ∀ x ∈ s.order, 0 ≤ x ∧ x < 32

/-- P5.2: what stands ahead. -/
def NodeL.ahead (s : NodeL) (id : Nat) (ops : List OpL) (sh : Int) : List Int := unionTo (fun n => n != id && decide (0 < (s.ent n).state) && conflictL (s.ent n).ops ops sh) 32
/-- P5.3: the operations of a shard, from the i-th on: the values then, which told, and what. -/
def runOps (sh : Int) : Nat → List OpL → (Nat → Int) → (Nat → Int) × List Int × List Int
  | _, [], v => (v, [], [])
  | i, o :: r, v =>
    if o.2.1 % 2 == sh then ((runOps sh (i + 1) r (upd v o.2.1.toNat (doL (v o.2.1.toNat) o.1 o.2.2))).1, (i : Int) :: (runOps sh (i + 1) r (upd v o.2.1.toNat (doL (v o.2.1.toNat) o.1 o.2.2))).2.1,
      doL (v o.2.1.toNat) o.1 o.2.2 :: (runOps sh (i + 1) r (upd v o.2.1.toNat (doL (v o.2.1.toNat) o.1 o.2.2))).2.2)
    else runOps sh (i + 1) r v
def NodeL.exec (s : NodeL) (sh : Int) (n : Nat) : NodeL :=
  ⟨upd s.ent n ⟨3, (s.ent n).ops, (s.ent n).first, (s.ent n).deps, (runOps sh 0 (s.ent n).ops s.vals).2.1, (runOps sh 0 (s.ent n).ops s.vals).2.2⟩, s.order ++ [(n : Int)], (runOps sh 0 (s.ent n).ops s.vals).1⟩
def NodeL.execIf (sh : Int) (s : NodeL) (m : Nat) : NodeL := if (s.ent m).state = 2 then s.exec sh m else s
def NodeL.execs (s : NodeL) (sh : Int) (l : List Nat) : NodeL := l.foldl (NodeL.execIf sh) s
def NodeL.graph (s : NodeL) : GraphL := ⟨fun i => decide (2 ≤ (s.ent i).state), fun i => (s.ent i).deps⟩
def NodeL.round (g : GraphL) (sh : Int) (t : NodeL) (n : Nat) : NodeL := if (t.ent n).state = 2 then t.execs sh (orderI g n) else t
def NodeL.settle (s : NodeL) (sh : Int) : NodeL := (List.range 32).foldl (NodeL.round s.graph sh) s
def NodeL.heard (s : NodeL) (sh : Int) (f : FrameL) : NodeL := { s with ent := upd s.ent f.id.toNat ⟨1, f.ops, s.ahead f.id.toNat f.ops sh, [], [], []⟩ }
def NodeL.asked (s : NodeL) (sh : Int) (f : FrameL) : NodeL := if (s.ent f.id.toNat).state = 0 then s.heard sh f else s
def NodeL.placed (s : NodeL) (sh : Int) (f : FrameL) : NodeL :=
  { s with ent := upd s.ent f.id.toNat ⟨2, f.ops, if (s.ent f.id.toNat).state = 0 then s.ahead f.id.toNat f.ops sh else (s.ent f.id.toNat).first, f.deps, (s.ent f.id.toNat).ats, (s.ent f.id.toNat).vals⟩ }
def NodeL.commit (s : NodeL) (sh : Int) (f : FrameL) : NodeL := if (s.ent f.id.toNat).state < 2 then (s.placed sh f).settle sh else s
def NodeL.answers (s : NodeL) (sh who id : Int) : List FrameL :=
  ⟨4, who, id, [], [], [], []⟩ :: (if (s.ent id.toNat).state = 3 ∧ touchesL (s.ent id.toNat).ops sh = true then [⟨5, who, id, [], [], (s.ent id.toNat).ats, (s.ent id.toNat).vals⟩] else [])

/-! ### Nothing that was known is unknown then, nothing that was done is undone -/
theorem placed_same (s : NodeL) (sh : Int) (f : FrameL) : (s.placed sh f).ent f.id.toNat = ⟨2, f.ops, if (s.ent f.id.toNat).state = 0 then s.ahead f.id.toNat f.ops sh else (s.ent f.id.toNat).first, f.deps, (s.ent f.id.toNat).ats, (s.ent f.id.toNat).vals⟩ := upd_same _ _ _
/-! ### What comes twice is taken once -/
end Go.Proofs.Ytgdkjjmnoikhdab
