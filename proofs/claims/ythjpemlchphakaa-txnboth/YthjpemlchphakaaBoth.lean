/-
  The walk of TxnBoth: it answers true at all operations, and writes nothing that was there.
-/
import Derived.Test.YthjpemlchphakaaOpen
import Derived.Test.YthjpemlchphakaaCounts
namespace Go.Proofs.Ythjpemlchphakaa
open Go.RowKit

theorem meetB_comm (o p : OpL) : meetB o p = meetB p o := by
  unfold meetB
  rw [Bool.or_comm (o.1 != 1)]
  have : (o.2.1 == p.2.1) = (p.2.1 == o.2.1) := by
    rw [Bool.eq_iff_iff, beq_iff_eq, beq_iff_eq]
    exact eq_comm
  rw [this]

theorem conflict_iff (a b : List OpL) (s : Int) : conflictL a b s = true ↔ ∃ o ∈ a, ∃ p ∈ b, o.2.1 % 2 = s ∧ meetB o p = true := by
  simp only [conflictL, conflictB, meetsL, List.any_eq_true, Bool.and_eq_true, beq_iff_eq]
  constructor
  · rintro ⟨o, ho, hs, p, hp, hm⟩
    exact ⟨o, ho, p, hp, hs, hm⟩
  · rintro ⟨o, ho, p, hp, hs, hm⟩
    exact ⟨o, ho, hs, p, hp, hm⟩

theorem meet_key {o p : OpL} (h : meetB o p = true) : o.2.1 = p.2.1 := by
  unfold meetB at h
  simp at h
  exact h.1

theorem conflict_comm (a b : List OpL) (s : Int) : conflictL a b s = conflictL b a s := by
  rw [Bool.eq_iff_iff, conflict_iff, conflict_iff]
  constructor
  · rintro ⟨o, ho, p, hp, hs, hm⟩
    exact ⟨p, hp, o, ho, by rw [← meet_key hm]; exact hs, by rw [meetB_comm]; exact hm⟩
  · rintro ⟨o, ho, p, hp, hs, hm⟩
    exact ⟨p, hp, o, ho, by rw [← meet_key hm]; exact hs, by rw [meetB_comm]; exact hm⟩

theorem conflict_touches {a b : List OpL} {s : Int} (h : conflictL a b s = true) : touchesL a s = true ∧ touchesL b s = true := by
  obtain ⟨o, ho, p, hp, hs, hm⟩ := (conflict_iff a b s).1 h
  constructor
  · exact List.any_eq_true.2 ⟨o, ho, by simp [touchB, hs]⟩
  · exact List.any_eq_true.2 ⟨p, hp, by simp [touchB, ← meet_key hm, hs]⟩

set_option maxHeartbeats 400000 in
theorem both_walk (a : Option Addr) (cap : Nat) (zs : List OpL) (a' : Option Addr) (cap' : Nat) (ys : List OpL) (s : Int) (w : World) (hl : zs.length ≤ maxLen) (hz : OpsAt w a zs) (_ : ∀ o ∈ zs, FitsOp o) (hl' : ys.length ≤ maxLen) (hy : OpsAt w a' ys) (_ : ∀ o ∈ ys, FitsOp o) (_ : Fits s) :
    Calls Try.prog 5 #[.slice a zs.length cap, .slice a' ys.length cap', .int .i64 s] w fun e w' => e = .returned (.bool true) ∧ Below w.heap.size w w' := by
  go_enter Try.func5, Try.ntmps5
  go_wp2_with fail
  refine (conflict_any _ _ _ _ _ _ _ _ hl hz hl' hy).mono ?_
  rintro e w1 ⟨rfl, hb1⟩
  go_wp2_with fail
  refine (conflict_any _ _ _ _ _ _ _ _ hl' (hy.later hb1) hl (hz.later hb1)).mono ?_
  rintro e w2 ⟨rfl, hb2⟩
  have hb3 := hb1.trans (hb2.mono hb1.size)
  clear hb1 hb2
  rw [conflict_comm ys zs s]
  cases tc : conflictL zs ys s
  · go_wp2_with fail
    refine (keep_counts _).mono ?_
    rintro e w3 ⟨rfl, hb4⟩
    have hb5 := hb3.trans (hb4.mono hb3.size)
    clear hb4 hb3
    go_wp2
    go_ret
    exact ⟨rfl, hb5⟩
  · obtain ⟨t1, t2⟩ := conflict_touches tc
    have T1 : Hid (touchesL zs s = true) := t1
    have T2 : Hid (touchesL ys s = true) := t2
    clear t1 t2 tc
    go_wp2_with fail
    refine (touches_any _ _ _ _ _ hl (hz.later hb3)).mono ?_
    rintro e w3 ⟨rfl, hb4⟩
    have hb5 := hb3.trans (hb4.mono hb3.size)
    clear hb4 hb3
    rw [T1.out]
    go_wp2_with fail
    refine (touches_any _ _ _ _ _ hl' (hy.later hb5)).mono ?_
    rintro e w4 ⟨rfl, hb6⟩
    have hb7 := hb5.trans (hb6.mono hb5.size)
    clear hb5 hb6
    rw [T2.out]
    go_wp2_with fail
    refine (keep_counts _).mono ?_
    rintro e w5 ⟨rfl, hb8⟩
    have hb9 := hb7.trans (hb8.mono hb7.size)
    clear hb7 hb8
    go_wp2
    go_ret
    exact ⟨rfl, hb9⟩

end Go.Proofs.Ythjpemlchphakaa
