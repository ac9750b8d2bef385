/-
  The contracts of the document's own small answers (ShardOf, OfNode, bound, DoOp, TouchesShard, InWay).
-/
import Derived.Test.YtkoefoccbjhoiabPbg2
set_option linter.unusedVariables false
set_option linter.unusedSimpArgs false
namespace Go.Proofs.Ytkoefoccbjhoiab
open Go.RowKit

set_option maxRecDepth 100000 in
set_option maxHeartbeats 400000 in
theorem shardOf_any (k : Int) (w : World) :
    Calls Try.prog 103 #[.int .i64 k] w fun e w' => e = .returned (.int .i64 (k % 2)) ∧ w' = w := by
  have e := tmod2 k
  by_cases h : k % 2 = 0
  · have h1 : (k.tmod 2 == 0) = true := by rw [e]; simpa using h
    clear e
    go_enter Try.func103, Try.ntmps103
    go_wp2
    go_ret
    exact ⟨ret_int (by omega), rfl⟩
  · have h1 : (k.tmod 2 == 0) = false := by rw [e]; simpa using h
    clear e
    go_enter Try.func103, Try.ntmps103
    go_wp2
    go_ret
    exact ⟨ret_int (by omega), rfl⟩

set_option maxRecDepth 100000 in
set_option maxHeartbeats 400000 in
theorem ofNode_any (k : Int) (w : World) :
    Calls Try.prog 69 #[.int .i64 k] w fun e w' => e = .returned (.int .i64 (ofL k)) ∧ w' = w := by
  by_cases h : k < 3
  · have E : Hid (ofL k = 0) := by unfold ofL Hid; rw [if_pos h]
    go_enter Try.func69, Try.ntmps69
    go_wp2
    go_ret
    exact ⟨ret_int E.out.symm, rfl⟩
  · have E : Hid (ofL k = 1) := by unfold ofL Hid; rw [if_neg h]
    go_enter Try.func69, Try.ntmps69
    go_wp2
    go_ret
    exact ⟨ret_int E.out.symm, rfl⟩

set_option maxRecDepth 100000 in
set_option maxHeartbeats 400000 in
theorem bound_any (n : Int) (w : World) :
    Calls Try.prog 112 #[.int .i64 n] w fun e w' => e = .returned (.int .i64 (near n)) ∧ w' = w := by
  by_cases h1 : n < -1099511627776
  · have E : Hid (near n = -1099511627776) := by unfold near Hid; rw [if_pos h1]
    go_enter Try.func112, Try.ntmps112
    go_wp2
    go_ret
    exact ⟨ret_int E.out.symm, rfl⟩
  · by_cases h2 : 1099511627776 < n
    · have E : Hid (near n = 1099511627776) := by unfold near Hid; rw [if_neg h1, if_pos h2]
      go_enter Try.func112, Try.ntmps112
      go_wp2
      go_ret
      exact ⟨ret_int E.out.symm, rfl⟩
    · have E : Hid (near n = n) := by unfold near Hid; rw [if_neg h1, if_neg h2]
      go_enter Try.func112, Try.ntmps112
      go_wp2
      go_ret
      exact ⟨ret_int E.out.symm, rfl⟩

set_option maxRecDepth 100000 in
set_option maxHeartbeats 400000 in
theorem doOp_any (v kind key n : Int) (w : World) :
    Calls Try.prog 116 #[.int .i64 v, .agg #[.int .i64 kind, .int .i64 key, .int .i64 n]] w fun e w' => e = .returned (.int .i64 (doL v kind n)) ∧ Below w.heap.size w w' := by
  by_cases h2 : kind = 2
  · have E : Hid (doL v kind n = near n) := by unfold doL Hid; rw [if_pos h2]
    have h2' : (kind == 2) = true := by simpa using h2
    clear h2
    go_enter Try.func116, Try.ntmps116
    go_wp2_with (go_at_call 112; refine (bound_any _ _).mono ?_; rintro e w' ⟨rfl, rfl⟩)
    go_ret
    exact ⟨ret_int E.out.symm, (Below.refl _ _).alloc (Nat.le_refl _) _⟩
  · by_cases h3 : kind = 3
    · have E : Hid (doL v kind n = near (near v + near n)) := by unfold doL Hid; rw [if_neg h2, if_pos h3]
      have h2' : (kind == 2) = false := by simpa using h2
      have h3' : (kind == 3) = true := by simpa using h3
      have l1 := near_lo v
      have l2 := near_hi v
      have l3 := near_lo n
      have l4 := near_hi n
      clear h2 h3
      go_enter Try.func116, Try.ntmps116
      go_wp2
      go_quiet ((go_at_call 112; exact Calls.quiet_of_same (bound_any _ _)))
      go_wp2
      go_ret
      exact ⟨ret_int E.out.symm, below_drewN ((Below.refl _ _).alloc (Nat.le_refl _) _) _⟩
    · have E : Hid (doL v kind n = near v) := by unfold doL Hid; rw [if_neg h2, if_neg h3]
      have h2' : (kind == 2) = false := by simpa using h2
      have h3' : (kind == 3) = false := by simpa using h3
      clear h2 h3
      go_enter Try.func116, Try.ntmps116
      go_wp2_with (go_at_call 112; refine (bound_any _ _).mono ?_; rintro e w' ⟨rfl, rfl⟩)
      go_ret
      exact ⟨ret_int E.out.symm, (Below.refl _ _).alloc (Nat.le_refl _) _⟩

theorem any_next {α : Type} {p : α → Bool} {zs : List α} {k : Nat} {d x : α} (hk : k < zs.length) (hx : zs.getD k d = x) : (zs.take (k + 1)).any p = ((zs.take k).any p || p x) := by
  have : zs[k] = x := by rw [← hx]; simp [List.getD, hk]
  rw [List.take_succ_eq_append_getElem hk, List.any_append, this]
  simp

theorem any_all {α : Type} {p : α → Bool} {zs : List α} {k : Nat} (hk : ¬ k < zs.length) : (zs.take k).any p = zs.any p := by
  rw [List.take_of_length_le (by omega)]

set_option maxRecDepth 100000 in
set_option maxHeartbeats 400000 in
theorem touchesShard_any (a : Option Addr) (cap : Nat) (zs : List OpL) (s : Int) (w : World) (hl : zs.length ≤ maxLen) (hz : OpsAt w a zs) :
    Calls Try.prog 70 #[.slice a zs.length cap, .int .i64 s] w fun e w' => e = .returned (.bool (touchesL zs s)) ∧ Below w.heap.size w w' := by
  unfold maxLen at hl
  rcases hz with rfl | ⟨b, off, rfl, hb, hc⟩
  · go_enter Try.func70, Try.ntmps70
    go_wp2
    refine wp_loop_rounds 1 ?_; rw [rounds_succ]
    go_wp2
    go_ret
    exact ⟨rfl, Below.refl _ _⟩
  · go_enter Try.func70, Try.ntmps70
    go_wp2
    go_loopw [5, 10] (fun v i wr => ∃ (k : Nat) (t : Bool), k ≤ zs.length ∧ i = .int .i64 k ∧ v = .bool t ∧ Hid ((zs.take k).any (touchB s) = t) ∧ Below w.heap.size w wr) (fun _ i _ => zs.length - (intOf i).toNat)
    case atStart => exact ⟨0, false, Nat.zero_le _, rfl, rfl, rfl, Below.refl _ _⟩
    case round =>
      obtain ⟨k, t, hk, rfl, rfl, ht, hBw⟩ := hrel
      have hsz := hBw.size
      by_cases hlt : k < zs.length
      · obtain ⟨q0, q1, q2, Hq, e0, e1, e2⟩ := OpsAt.at hc hb hBw hlt
        have hm : Hid ((zs.take (k + 1)).any (touchB s) = (t || q1 % 2 == s)) := by
          unfold Hid
          rw [any_next hlt Hq.out, ht.out]
          rfl
        clear hc
        cases t
        · go_wp2_with (go_at_call 103; refine (shardOf_any _ _).mono ?_; rintro e w' ⟨rfl, rfl⟩)
          go_roundw
          case rel => exact ⟨k + 1, _, by omega, by go_num, rfl, by rw [hm.out, Bool.false_or]; rfl, hBw.alloc hsz _⟩
          case measure => simp [intOf]; omega
        · go_wp2
          go_roundw
          case rel => exact ⟨k + 1, _, by omega, by go_num, rfl, by rw [hm.out, Bool.true_or]; rfl, hBw.alloc hsz _⟩
          case measure => simp [intOf]; omega
      · go_wp2
        go_ret
        exact ⟨ret_bool (by rw [← ht.out, any_all hlt]; rfl), hBw⟩

def wayB (s : Int) (x y : OpL) : Bool := x.2.1 == y.2.1 && x.2.1 % 2 == s && !(x.1 == 1 && y.1 == 1)
def wayL (zs ys : List OpL) (s : Int) : Bool := zs.any fun x => ys.any (wayB s x)

set_option maxRecDepth 100000 in
set_option maxHeartbeats 1000000 in
theorem inWay_any (a : Option Addr) (cap : Nat) (zs : List OpL) (a' : Option Addr) (cap' : Nat) (ys : List OpL) (s : Int) (w : World) (hl : zs.length ≤ maxLen) (hz : OpsAt w a zs) (hl' : ys.length ≤ maxLen) (hy : OpsAt w a' ys) :
    Calls Try.prog 113 #[.slice a zs.length cap, .slice a' ys.length cap', .int .i64 s] w fun e w' => e = .returned (.bool (wayL zs ys s)) ∧ Below w.heap.size w w' := by
  unfold maxLen at hl hl'
  rcases hz with rfl | ⟨b, off, rfl, hb, hc⟩
  · go_enter Try.func113, Try.ntmps113
    go_wp2
    refine wp_loop_rounds 1 ?_; rw [rounds_succ]
    go_wp2
    go_ret
    exact ⟨rfl, Below.refl _ _⟩
  · go_enter Try.func113, Try.ntmps113
    go_wp2
    go_loopw [7, 14] (fun v i wr => ∃ (k : Nat) (t : Bool), k ≤ zs.length ∧ i = .int .i64 k ∧ v = .bool t ∧ Hid ((zs.take k).any (fun x => ys.any (wayB s x)) = t) ∧ Below w.heap.size w wr) (fun _ i _ => zs.length - (intOf i).toNat)
    case atStart => exact ⟨0, false, Nat.zero_le _, rfl, rfl, rfl, Below.refl _ _⟩
    case round =>
      obtain ⟨wo, hwo⟩ : ∃ wo, wo = wr := ⟨_, rfl⟩
      subst hwo
      obtain ⟨k, t, hk, rfl, rfl, ht, hBw⟩ := hrel
      have hsz := hBw.size
      by_cases hlt : k < zs.length
      · obtain ⟨q0, q1, q2, Hq, e0, e1, e2⟩ := OpsAt.at hc hb hBw hlt
        have hm : Hid ((zs.take (k + 1)).any (fun x => ys.any (wayB s x)) = (t || ys.any (wayB s (q0, q1, q2)))) := by
          unfold Hid
          rw [any_next hlt Hq.out, ht.out]
        clear hc
        go_wp2
        go_loopw [7, 20] (fun v i wx => ∃ (j : Nat) (u : Bool), j ≤ ys.length ∧ i = .int .i64 j ∧ v = .bool u ∧ Hid ((t || (ys.take j).any (wayB s (q0, q1, q2))) = u) ∧ Below (wo.heap.size + 1) (wo.alloc (.cells #[.int .i64 q0, .int .i64 q1, .int .i64 q2] 108)) wx) (fun _ i _ => ys.length - (intOf i).toNat)
        case atStart => exact ⟨0, t, Nat.zero_le _, rfl, rfl, by simp [Hid], Below.refl _ _⟩
        case round =>
          obtain ⟨j, u, hj, rfl, rfl, hu, hBx⟩ := hrel
          have hBv : Below w.heap.size w wr := (hBw.alloc hsz _).trans (hBx.mono (by omega))
          have hsx := hBv.size
          have hsy : wo.heap.size < wr.heap.size := by have := hBx.size; simp at this; omega
          by_cases hjt : j < ys.length
          · rcases hy with rfl | ⟨b', off', rfl, hb', hc'⟩
            · simp at hjt
            obtain ⟨p0, p1, p2, Hp, f0, f1, f2⟩ := OpsAt.at hc' hb' hBv hjt
            have c0 := hBx.cell (p := ⟨wo.heap.size, 0, none⟩) (by simp)
            have c1 := hBx.cell (p := ⟨wo.heap.size, 1, none⟩) (by simp)
            simp at c0 c1
            have hn : Hid ((t || (ys.take (j + 1)).any (wayB s (q0, q1, q2))) = (u || (q1 == p1 && q1 % 2 == s && !(q0 == 1 && p0 == 1)))) := by
              unfold Hid
              rw [any_next hjt Hp.out, ← Bool.or_assoc, hu.out]
              rfl
            clear hc' e0 e1 e2
            cases u
            · cases t1 : q1 == p1
              · go_wp2
                go_roundw
                case rel => exact ⟨j + 1, _, by omega, by go_num, rfl, by rw [hn.out, t1]; rfl, hBx.alloc (by omega) _⟩
                case measure => simp [intOf]; omega
              · cases t2 : q1 % 2 == s
                · go_wp2_with (go_at_call 103; refine (shardOf_any _ _).mono ?_; rintro e w' ⟨rfl, rfl⟩)
                  go_roundw
                  case rel => exact ⟨j + 1, _, by omega, by go_num, rfl, by rw [hn.out, t1, t2]; rfl, hBx.alloc (by omega) _⟩
                  case measure => simp [intOf]; omega
                · cases t3 : q0 == 1
                  · go_wp2_with (go_at_call 103; refine (shardOf_any _ _).mono ?_; rintro e w' ⟨rfl, rfl⟩)
                    go_roundw
                    case rel => exact ⟨j + 1, _, by omega, by go_num, rfl, by rw [hn.out, t1, t2, t3]; rfl, hBx.alloc (by omega) _⟩
                    case measure => simp [intOf]; omega
                  · cases t4 : p0 == 1
                    · go_wp2_with (go_at_call 103; refine (shardOf_any _ _).mono ?_; rintro e w' ⟨rfl, rfl⟩)
                      go_roundw
                      case rel => exact ⟨j + 1, _, by omega, by go_num, rfl, by rw [hn.out, t1, t2, t3, t4]; rfl, hBx.alloc (by omega) _⟩
                      case measure => simp [intOf]; omega
                    · go_wp2_with (go_at_call 103; refine (shardOf_any _ _).mono ?_; rintro e w' ⟨rfl, rfl⟩)
                      go_roundw
                      case rel => exact ⟨j + 1, _, by omega, by go_num, rfl, by rw [hn.out, t1, t2, t3, t4]; rfl, hBx.alloc (by omega) _⟩
                      case measure => simp [intOf]; omega
            · go_wp2
              go_roundw
              case rel => exact ⟨j + 1, _, by omega, by go_num, rfl, by rw [hn.out]; rfl, hBx.alloc (by omega) _⟩
              case measure => simp [intOf]; omega
          · have hf : Hid ((t || ys.any (wayB s (q0, q1, q2))) = u) := by
              unfold Hid
              rw [← hu.out, any_all hjt]
            go_wp2
            go_roundw
            case rel => exact ⟨k + 1, u, by omega, by go_num, rfl, by rw [hm.out, hf.out]; rfl, hBv⟩
            case measure => simp [intOf]; omega
      · go_wp2
        go_ret
        exact ⟨ret_bool (by rw [← ht.out, any_all hlt]; rfl), hBw⟩

end Go.Proofs.Ytkoefoccbjhoiab
