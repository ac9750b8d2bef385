/-
  The contracts of the statements' own sameOps, sameNumbers, sameFrame, pick and frames.
-/
import Derived.Test.YtmdfeodkkdaadaaWEncode
namespace Go.Proofs.Ytmdfeodkkdaadaa
open Go.RowKit

set_option maxHeartbeats 400000 in
theorem keep_same_any (a : Option Addr) (cap : Nat) (zs : List Int) (a' : Option Addr) (cap' : Nat) (w : World) (hl : zs.length ≤ maxLen) (hz : IntsAt w.heap.size w a zs) (hy : IntsAt w.heap.size w a' zs) :
    Calls Try.prog 61 #[.slice a zs.length cap, .slice a' zs.length cap'] w fun e w' => e = .returned (.bool true) ∧ Below w.heap.size w w' := by
  unfold maxLen at hl
  have hne : ((zs.length : Int) != (zs.length : Int)) = false := by simp
  rcases hz with rfl | ⟨b, off, rfl, hb, hc⟩
  · go_enter Try.func61, Try.ntmps61
    go_wp2
    refine wp_loop_rounds 1 ?_; rw [rounds_succ]
    go_wp2
    go_ret
    exact ⟨rfl, Below.refl _ _⟩
  rcases hy with rfl | ⟨b', off', rfl, hb', hc'⟩
  · go_enter Try.func61, Try.ntmps61
    go_wp2
    refine wp_loop_rounds 1 ?_; rw [rounds_succ]
    go_wp2
    go_ret
    exact ⟨rfl, Below.refl _ _⟩
  go_enter Try.func61, Try.ntmps61
  go_wp2
  go_loopw [13] (fun i wr => ∃ k : Nat, k ≤ zs.length ∧ i = .int .i64 k ∧ Below w.heap.size w wr) (fun i _ => zs.length - (intOf i).toNat)
  case atStart => exact ⟨0, Nat.zero_le _, rfl, Below.refl _ _⟩
  case round =>
    obtain ⟨k, hk, rfl, hB⟩ := hrel
    by_cases hlt : k < zs.length
    · obtain ⟨q, Hq, e0⟩ := IntsAt.at hc hb hB hlt
      have f0 : wr.cell? ⟨b', off' + k, none⟩ = some (.int .i64 q) := by rw [hB.cell (p := ⟨b', off' + k, none⟩) hb', ← Hq.out]; exact hc' k hlt
      have hi : (k : Int) < (zs.length : Int) := by omega
      clear hc hc'
      go_wp2
      go_quiet (fail)
      go_wp2
      go_roundw
      case rel => exact ⟨k + 1, by omega, by go_num, below_drewN hB _⟩
      case measure => simp [intOf]; omega
    · go_wp2
      go_ret
      exact ⟨rfl, hB⟩

set_option maxHeartbeats 400000 in
theorem keep_sameOps_any (a : Option Addr) (cap : Nat) (zs : List OpL) (a' : Option Addr) (cap' : Nat) (w : World) (hl : zs.length ≤ maxLen) (hz : OpsAt w a zs) (hy : OpsAt w a' zs) :
    Calls Try.prog 60 #[.slice a zs.length cap, .slice a' zs.length cap'] w fun e w' => e = .returned (.bool true) ∧ Below w.heap.size w w' := by
  unfold maxLen at hl
  have hne : ((zs.length : Int) != (zs.length : Int)) = false := by simp
  rcases hz with rfl | ⟨b, off, rfl, hb, hc⟩
  · go_enter Try.func60, Try.ntmps60
    go_wp2
    refine wp_loop_rounds 1 ?_; rw [rounds_succ]
    go_wp2
    go_ret
    exact ⟨rfl, Below.refl _ _⟩
  rcases hy with rfl | ⟨b', off', rfl, hb', hc'⟩
  · go_enter Try.func60, Try.ntmps60
    go_wp2
    refine wp_loop_rounds 1 ?_; rw [rounds_succ]
    go_wp2
    go_ret
    exact ⟨rfl, Below.refl _ _⟩
  go_enter Try.func60, Try.ntmps60
  go_wp2
  go_loopw [13] (fun i wr => ∃ k : Nat, k ≤ zs.length ∧ i = .int .i64 k ∧ Below w.heap.size w wr) (fun i _ => zs.length - (intOf i).toNat)
  case atStart => exact ⟨0, Nat.zero_le _, rfl, Below.refl _ _⟩
  case round =>
    obtain ⟨k, hk, rfl, hB⟩ := hrel
    by_cases hlt : k < zs.length
    · obtain ⟨q0, q1, q2, Hq, e0, e1, e2⟩ := OpsAt.at hc hb hB hlt
      obtain ⟨p0, p1, p2, Hp, f0, f1, f2⟩ := OpsAt.at hc' hb' hB hlt
      have hh : (q0, q1, q2) = (p0, p1, p2) := Hq.out.symm.trans Hp.out
      simp at hh
      obtain ⟨rfl, rfl, rfl⟩ := hh
      have hi : (k : Int) < (zs.length : Int) := by omega
      clear hc hc'
      go_wp2
      go_quiet (fail)
      go_wp2
      go_roundw
      case rel => exact ⟨k + 1, by omega, by go_num, below_drewN hB _⟩
      case measure => simp [intOf]; omega
    · go_wp2
      go_ret
      exact ⟨rfl, hB⟩

set_option maxHeartbeats 1000000 in
theorem keep_sameFrame_any (v v' : Value) (f : FrameL) (w : World) (hv : FrameV w v f) (hv' : FrameV w v' f) :
    Calls Try.prog 42 #[v, v'] w fun e w' => e = .returned (.bool true) ∧ Below w.heap.size w w' := by
  obtain ⟨a3, c3, a4, c4, a5, c5, a6, c6, rfl, h3, h4, h5, h6⟩ := hv
  obtain ⟨b3, d3, b4, d4, b5, d5, b6, d6, rfl, k3, k4, k5, k6⟩ := hv'
  obtain ⟨kind, node, id, ops, deps, ats, vals⟩ := f
  simp only at *
  have tk : (kind == kind) = true := by simp
  have tn : (node == node) = true := by simp
  have ti : (id == id) = true := by simp
  go_enter Try.func42, Try.ntmps42
  go_wp2_with fail
  obtain ⟨W, hW⟩ : ∃ W, W = (w.alloc (.cells #[.int .i64 kind, .int .i64 node, .int .i64 id, .slice a3 ops.length c3, .slice a4 deps.length c4, .slice a5 ats.length c5, .slice a6 vals.length c6] 39)).alloc (.cells #[.int .i64 kind, .int .i64 node, .int .i64 id, .slice b3 ops.length d3, .slice b4 deps.length d4, .slice b5 ats.length d5, .slice b6 vals.length d6] 39) := ⟨_, rfl⟩
  have hf1 : FAt W w.heap.size kind node id (.slice a3 ops.length c3) (.slice a4 deps.length c4) (.slice a5 ats.length c5) (.slice a6 vals.length c6) := by rw [hW]; exact ⟨39, by rw [Below.heap_alloc _ _ _ (by rw [alloc_size]; omega), heap_new]⟩
  have hg1 : FAt W (w.heap.size + 1) kind node id (.slice b3 ops.length d3) (.slice b4 deps.length d4) (.slice b5 ats.length d5) (.slice b6 vals.length d6) := by rw [hW]; exact ⟨39, heap_new2 _ _ _⟩
  have hb1 : Below w.heap.size w W := by rw [hW]; exact ((Below.refl _ w).alloc (Nat.le_refl _) _).alloc (by rw [alloc_size]; omega) _
  rw [← hW]
  clear hW
  refine (keep_sameOps_any a3 c3 ops b3 d3 _ h3.2.1 (h3.later hb1).1 (k3.later hb1).1).mono ?_
  rintro e w1 ⟨rfl, hc⟩
  have hb2 := hb1.trans (hc.mono hb1.size)
  have hf2 := hf1.block (hc.block _ hf1.lt)
  have hg2 := hg1.block (hc.block _ hg1.lt)
  clear hc hf1 hg1 hb1
  have x4 := hf2.cell.2.2.2.2.1
  have y4 := hg2.cell.2.2.2.2.1
  go_wp2_with fail
  refine (keep_same_any a4 c4 deps b4 d4 _ h4.2.1 (h4.later hb2).1 (k4.later hb2).1).mono ?_
  rintro e w2 ⟨rfl, hc⟩
  have hb3 := hb2.trans (hc.mono hb2.size)
  have hf3 := hf2.block (hc.block _ hf2.lt)
  have hg3 := hg2.block (hc.block _ hg2.lt)
  clear hc hf2 hg2 hb2 x4 y4
  have x5 := hf3.cell.2.2.2.2.2.1
  have y5 := hg3.cell.2.2.2.2.2.1
  go_wp2_with fail
  refine (keep_same_any a5 c5 ats b5 d5 _ h5.2.1 (h5.later hb3).1 (k5.later hb3).1).mono ?_
  rintro e w3 ⟨rfl, hc⟩
  have hb4 := hb3.trans (hc.mono hb3.size)
  have hf4 := hf3.block (hc.block _ hf3.lt)
  have hg4 := hg3.block (hc.block _ hg3.lt)
  clear hc hf3 hg3 hb3 x5 y5
  have x6 := hf4.cell.2.2.2.2.2.2
  have y6 := hg4.cell.2.2.2.2.2.2
  go_wp2_with fail
  refine (keep_same_any a6 c6 vals b6 d6 _ h6.2.1 (h6.later hb4).1 (k6.later hb4).1).mono ?_
  rintro e w4 ⟨rfl, hc⟩
  have hb5 := hb4.trans (hc.mono hb4.size)
  clear hc hf4 hg4 hb4 x6 y6
  go_wp2
  go_ret
  exact ⟨rfl, hb5⟩

def knownF : FrameL := ⟨4, 2, 7, [], [], [], []⟩
theorem known_good : goodL knownF = 0 := by decide
theorem known_enc : encE knownF = [4, 2, 7, 0, 0, 0] := by decide
theorem known_frame (w : World) : FrameV w (.agg #[.int .i64 4, .int .i64 2, .int .i64 7, .slice none 0 0, .slice none 0 0, .slice none 0 0, .slice none 0 0]) knownF :=
  ⟨none, 0, none, 0, none, 0, none, 0, rfl, ⟨Or.inl rfl, Nat.zero_le _, Nat.le_refl _, fun _ => ⟨rfl, rfl⟩⟩, ⟨Or.inl rfl, Nat.zero_le _, Nat.le_refl _, fun _ => ⟨rfl, rfl⟩⟩, ⟨Or.inl rfl, Nat.zero_le _, Nat.le_refl _, fun _ => ⟨rfl, rfl⟩⟩, ⟨Or.inl rfl, Nat.zero_le _, Nat.le_refl _, fun _ => ⟨rfl, rfl⟩⟩⟩
theorem str_list (l : List UInt8) : (str l).toList = l := by rw [Lib.toList_data]; rfl

set_option maxHeartbeats 400000 in
theorem keep_frames_any (w : World) : Calls Try.prog 40 #[] w fun e w' => e = .returned (.bool true) ∧ Below w.heap.size w w' := by
  go_enter Try.func40, Try.ntmps40
  go_wp2_with fail
  refine (encode_any _ _ _ (known_frame w)).mono ?_
  rintro e w1 ⟨rfl, hb⟩
  rw [known_good, known_enc]
  have hs : str [4, 2, 7, 0, 0, 0] = ⟨#[4, 2, 7, 0, 0, 0]⟩ := rfl
  rw [hs]
  go_wp2
  go_ret
  exact ⟨rfl, hb⟩

set_option maxHeartbeats 400000 in
theorem keep_pick_any (a : Int) (n : Nat) (w : World) (h1 : 1 ≤ n) (h2 : n ≤ 1000) :
    Calls Try.prog 41 #[.int .i64 a, .int .i64 n] w fun e w' => (∃ p : Nat, p < n ∧ e = .returned (.int .i64 p)) ∧ w' = w := by
  have e := Int.tmod_eq_emod (a := a) (b := (n : Int))
  have l1 := Int.emod_nonneg a (show (n : Int) ≠ 0 by omega)
  have l2 := Int.emod_lt_of_pos a (show (0 : Int) < (n : Int) by omega)
  have hn : ((n : Int) == 0) = false := by simp; omega
  have bb : -(n : Int) < a.tmod n ∧ a.tmod n < n := by rw [e]; split <;> simp <;> omega
  obtain ⟨b1, b2⟩ := bb
  clear e l1 l2
  by_cases hlt : a.tmod n < 0
  · go_enter Try.func41, Try.ntmps41
    go_wp2
    go_ret
    refine ⟨⟨(a.tmod n + n).toNat, by omega, ret_int ?_⟩, rfl⟩
    omega
  · go_enter Try.func41, Try.ntmps41
    go_wp2
    go_ret
    refine ⟨⟨(a.tmod n).toNat, by omega, ret_int ?_⟩, rfl⟩
    omega

end Go.Proofs.Ytmdfeodkkdaadaa
