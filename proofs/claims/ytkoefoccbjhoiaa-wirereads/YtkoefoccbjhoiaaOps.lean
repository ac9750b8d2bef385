/-
  The contracts of package txn's functions on lists of operations (meets, Conflict, Touches).
-/
import Derived.Test.YtkoefoccbjhoiaaSmall
import Derived.Test.YtkoefoccbjhoiaaLists
set_option linter.unusedVariables false
set_option linter.unusedSimpArgs false
namespace Go.Proofs.Ytkoefoccbjhoiaa
open Go.RowKit

/-- an operation: kind, key, N -/
abbrev OpL := Int × Int × Int

/-- A slice of operations that lies in memory: nothing, or its cells, three an element. -/
def OpsAt (w : World) (a : Option Addr) (zs : List OpL) : Prop :=
  zs = [] ∨ ∃ b off, a = some ⟨b, off, none⟩ ∧ b < w.heap.size ∧ ∀ i, i < zs.length → w.cell? ⟨b, off + i * 3, none⟩ = some (.int .i64 (zs.getD i (0, 0, 0)).1) ∧
    w.cell? ⟨b, off + i * 3 + 1, none⟩ = some (.int .i64 (zs.getD i (0, 0, 0)).2.1) ∧ w.cell? ⟨b, off + i * 3 + 2, none⟩ = some (.int .i64 (zs.getD i (0, 0, 0)).2.2)

theorem OpsAt.later {w w' : World} {a : Option Addr} {zs : List OpL} (h : OpsAt w a zs) (hB : Below w.heap.size w w') : OpsAt w' a zs := by
  rcases h with h | ⟨b, off, ha, hb, hc⟩
  · exact Or.inl h
  · refine Or.inr ⟨b, off, ha, Nat.lt_of_lt_of_le hb hB.size, fun i hi => ?_⟩
    rw [hB.cell (p := ⟨b, off + i * 3, none⟩) hb, hB.cell (p := ⟨b, off + i * 3 + 1, none⟩) hb, hB.cell (p := ⟨b, off + i * 3 + 2, none⟩) hb]
    exact hc i hi

/-- the element at k, in a later world -/
theorem OpsAt.at {w wr : World} {B b off : Nat} {zs : List OpL} (hc : ∀ i, i < zs.length → w.cell? ⟨b, off + i * 3, none⟩ = some (.int .i64 (zs.getD i (0, 0, 0)).1) ∧
    w.cell? ⟨b, off + i * 3 + 1, none⟩ = some (.int .i64 (zs.getD i (0, 0, 0)).2.1) ∧ w.cell? ⟨b, off + i * 3 + 2, none⟩ = some (.int .i64 (zs.getD i (0, 0, 0)).2.2))
    (hb : b < B) (hB : Below B w wr) {k : Nat} (hk : k < zs.length) :
    ∃ q0 q1 q2 : Int, Hid (zs.getD k (0, 0, 0) = (q0, q1, q2)) ∧ wr.cell? ⟨b, off + k * 3, none⟩ = some (.int .i64 q0) ∧ wr.cell? ⟨b, off + k * 3 + 1, none⟩ = some (.int .i64 q1) ∧ wr.cell? ⟨b, off + k * 3 + 2, none⟩ = some (.int .i64 q2) := by
  refine ⟨_, _, _, rfl, ?_⟩
  rw [hB.cell (p := ⟨b, off + k * 3, none⟩) hb, hB.cell (p := ⟨b, off + k * 3 + 1, none⟩) hb, hB.cell (p := ⟨b, off + k * 3 + 2, none⟩) hb]
  exact hc k hk

def meetB (o p : OpL) : Bool := o.2.1 == p.2.1 && (o.1 != 1 || p.1 != 1)
def meetsL (o : OpL) (zs : List OpL) : Bool := zs.any (meetB o)

set_option maxRecDepth 100000 in
set_option maxHeartbeats 400000 in
theorem meets_any (o0 o1 o2 : Int) (a : Option Addr) (cap : Nat) (zs : List OpL) (w : World) (hl : zs.length ≤ maxLen) (hz : OpsAt w a zs) :
    Calls Try.prog 64 #[.agg #[.int .i64 o0, .int .i64 o1, .int .i64 o2], .slice a zs.length cap] w fun e w' => e = .returned (.bool (meetsL (o0, o1, o2) zs)) ∧ Below w.heap.size w w' := by
  unfold maxLen at hl
  rcases hz with rfl | ⟨b, off, rfl, hb, hc⟩
  · go_enter Try.func64, Try.ntmps64
    go_wp2
    refine wp_loop_rounds 1 ?_; rw [rounds_succ]
    go_wp2
    go_ret
    exact ⟨rfl, (Below.refl _ _).alloc (Nat.le_refl _) _⟩
  · go_enter Try.func64, Try.ntmps64
    go_wp2
    go_loopw [9] (fun i wr => ∃ k : Nat, k ≤ zs.length ∧ i = .int .i64 k ∧ (zs.take k).any (meetB (o0, o1, o2)) = false ∧ Below (w.heap.size + 1) (w.alloc (.cells #[.int .i64 o0, .int .i64 o1, .int .i64 o2] 28)) wr) (fun i _ => zs.length - (intOf i).toNat)
    case atStart => exact ⟨0, Nat.zero_le _, rfl, rfl, Below.refl _ _⟩
    case round =>
      obtain ⟨k, hk, rfl, hno, hB⟩ := hrel
      have hBw : Below w.heap.size w wr := ((Below.refl _ w).alloc (Nat.le_refl _) _).trans (hB.mono (by omega))
      have hsz := hBw.size
      have hsz1 : w.heap.size < wr.heap.size := by have := hB.size; simp at this; omega
      have c0 := hB.cell (p := ⟨w.heap.size, 0, none⟩) (by simp)
      have c1 := hB.cell (p := ⟨w.heap.size, 1, none⟩) (by simp)
      simp at c0 c1
      by_cases hlt : k < zs.length
      · obtain ⟨q0, q1, q2, Hq, e0, e1, e2⟩ := OpsAt.at hc hb hBw hlt
        have hm : Hid (meetB (o0, o1, o2) (q0, q1, q2) = (o1 == q1 && (o0 != 1 || q0 != 1))) := rfl
        clear hc
        cases t1 : o1 == q1
        · go_wp2
          go_roundw
          case rel => exact ⟨k + 1, by omega, by go_num, any_step hlt Hq.out hno (by rw [hm.out, t1]; rfl), hB.alloc (by omega) _⟩
          case measure => simp [intOf]; omega
        · cases t2 : o0 != 1
          · cases t3 : q0 != 1
            · go_wp2
              go_roundw
              case rel => exact ⟨k + 1, by omega, by go_num, any_step hlt Hq.out hno (by rw [hm.out, t1, t2, t3]; rfl), hB.alloc (by omega) _⟩
              case measure => simp [intOf]; omega
            · go_wp2
              go_ret
              exact ⟨ret_bool (any_hit hlt Hq.out (by rw [hm.out, t1, t2, t3]; rfl)).symm, hBw.alloc hsz _⟩
          · go_wp2
            go_ret
            exact ⟨ret_bool (any_hit hlt Hq.out (by rw [hm.out, t1, t2]; rfl)).symm, hBw.alloc hsz _⟩
      · go_wp2
        go_ret
        exact ⟨ret_bool (any_end hlt hno).symm, hBw⟩

def touchB (s : Int) (o : OpL) : Bool := o.2.1 % 2 == s
def touchesL (zs : List OpL) (s : Int) : Bool := zs.any (touchB s)

set_option maxRecDepth 100000 in
set_option maxHeartbeats 400000 in
theorem touches_any (a : Option Addr) (cap : Nat) (zs : List OpL) (s : Int) (w : World) (hl : zs.length ≤ maxLen) (hz : OpsAt w a zs) :
    Calls Try.prog 17 #[.slice a zs.length cap, .int .i64 s] w fun e w' => e = .returned (.bool (touchesL zs s)) ∧ Below w.heap.size w w' := by
  unfold maxLen at hl
  rcases hz with rfl | ⟨b, off, rfl, hb, hc⟩
  · go_enter Try.func17, Try.ntmps17
    go_wp2
    refine wp_loop_rounds 1 ?_; rw [rounds_succ]
    go_wp2
    go_ret
    exact ⟨rfl, Below.refl _ _⟩
  · go_enter Try.func17, Try.ntmps17
    go_wp2
    go_loopw [9] (fun i wr => ∃ k : Nat, k ≤ zs.length ∧ i = .int .i64 k ∧ (zs.take k).any (touchB s) = false ∧ Below w.heap.size w wr) (fun i _ => zs.length - (intOf i).toNat)
    case atStart => exact ⟨0, Nat.zero_le _, rfl, rfl, Below.refl _ _⟩
    case round =>
      obtain ⟨k, hk, rfl, hno, hBw⟩ := hrel
      have hsz := hBw.size
      by_cases hlt : k < zs.length
      · obtain ⟨q0, q1, q2, Hq, e0, e1, e2⟩ := OpsAt.at hc hb hBw hlt
        have hm : Hid (touchB s (q0, q1, q2) = (q1 % 2 == s)) := rfl
        clear hc
        cases t1 : q1 % 2 == s
        · go_wp2_with (go_at_call 21; refine (shard_any _ _).mono ?_; rintro e w' ⟨rfl, rfl⟩)
          go_roundw
          case rel => exact ⟨k + 1, by omega, by go_num, any_step hlt Hq.out hno (by rw [hm.out, t1]), hBw.alloc hsz _⟩
          case measure => simp [intOf]; omega
        · go_wp2_with (go_at_call 21; refine (shard_any _ _).mono ?_; rintro e w' ⟨rfl, rfl⟩)
          go_ret
          exact ⟨ret_bool (any_hit hlt Hq.out (by rw [hm.out, t1])).symm, hBw.alloc hsz _⟩
      · go_wp2
        go_ret
        exact ⟨ret_bool (any_end hlt hno).symm, hBw⟩

def conflictB (b : List OpL) (s : Int) (o : OpL) : Bool := o.2.1 % 2 == s && meetsL o b
def conflictL (a b : List OpL) (s : Int) : Bool := a.any (conflictB b s)

set_option maxRecDepth 100000 in
set_option maxHeartbeats 400000 in
theorem conflict_any (a : Option Addr) (cap : Nat) (zs : List OpL) (a' : Option Addr) (cap' : Nat) (ys : List OpL) (s : Int) (w : World) (hl : zs.length ≤ maxLen) (hz : OpsAt w a zs) (hl' : ys.length ≤ maxLen) (hy : OpsAt w a' ys) :
    Calls Try.prog 19 #[.slice a zs.length cap, .slice a' ys.length cap', .int .i64 s] w fun e w' => e = .returned (.bool (conflictL zs ys s)) ∧ Below w.heap.size w w' := by
  have hl2 := hl
  unfold maxLen at hl
  rcases hz with rfl | ⟨b, off, rfl, hb, hc⟩
  · go_enter Try.func19, Try.ntmps19
    go_wp2
    refine wp_loop_rounds 1 ?_; rw [rounds_succ]
    go_wp2
    go_ret
    exact ⟨rfl, Below.refl _ _⟩
  · go_enter Try.func19, Try.ntmps19
    go_wp2
    go_loopw [11] (fun i wr => ∃ k : Nat, k ≤ zs.length ∧ i = .int .i64 k ∧ (zs.take k).any (conflictB ys s) = false ∧ Below w.heap.size w wr) (fun i _ => zs.length - (intOf i).toNat)
    case atStart => exact ⟨0, Nat.zero_le _, rfl, rfl, Below.refl _ _⟩
    case round =>
      obtain ⟨k, hk, rfl, hno, hBw⟩ := hrel
      have hsz := hBw.size
      by_cases hlt : k < zs.length
      · obtain ⟨q0, q1, q2, Hq, e0, e1, e2⟩ := OpsAt.at hc hb hBw hlt
        have hm : Hid (conflictB ys s (q0, q1, q2) = (q1 % 2 == s && meetsL (q0, q1, q2) ys)) := rfl
        have hy' : ∀ o, OpsAt (wr.alloc o) a' ys := fun o => hy.later (hBw.alloc hsz o)
        clear hc
        cases t1 : q1 % 2 == s
        · go_wp2_with (go_at_call 21; refine (shard_any _ _).mono ?_; rintro e w' ⟨rfl, rfl⟩)
          go_roundw
          case rel => exact ⟨k + 1, by omega, by go_num, any_step hlt Hq.out hno (by rw [hm.out, t1]; rfl), hBw.alloc hsz _⟩
          case measure => simp [intOf]; omega
        · go_wp2_with (go_at_call 21; refine (shard_any _ _).mono ?_; rintro e w' ⟨rfl, rfl⟩)
          refine (meets_any q0 q1 q2 a' cap' ys _ hl' (hy' _)).mono ?_
          rintro e w1 ⟨rfl, hb1⟩
          have hb2 : Below w.heap.size w w1 := (hBw.alloc hsz _).trans (hb1.mono (by simp; omega))
          clear hb1
          cases t2 : meetsL (q0, q1, q2) ys
          · go_wp2
            go_roundw
            case rel => exact ⟨k + 1, by omega, by go_num, any_step hlt Hq.out hno (by rw [hm.out, t1, t2]; rfl), hb2⟩
            case measure => simp [intOf]; omega
          · go_wp2
            go_ret
            exact ⟨ret_bool (any_hit hlt Hq.out (by rw [hm.out, t1, t2]; rfl)).symm, hb2⟩
      · go_wp2
        go_ret
        exact ⟨ret_bool (any_end hlt hno).symm, hBw⟩

end Go.Proofs.Ytkoefoccbjhoiaa
