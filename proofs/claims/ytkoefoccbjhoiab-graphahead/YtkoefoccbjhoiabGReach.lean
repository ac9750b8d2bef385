/-
  The contracts of package graph's allKnown, Reach and Ready.
-/
import Derived.Test.YtkoefoccbjhoiabGSearch
set_option linter.unusedVariables false
set_option linter.unusedSimpArgs false
namespace Go.Proofs.Ytkoefoccbjhoiab
open Go.RowKit

/-- What n hangs on. -/
def hangB (g : GraphL) (n j : Nat) : Bool := (visitL g.adj 32 St.none n).reach n j
theorem hangB_iff (g : GraphL) {n : Nat} (hn : n < 32) (j : Nat) : hangB g n j = true ↔ Hangs g.adj n j := (search_whole g.adj_lt hn).2.1 n (.refl n) j
def reachI (g : GraphL) (n : Int) (j : Nat) : Bool := txnB' n && hangB g n.toNat j
def knowsB (g : GraphL) (S : Nat → Bool) (k : Nat) : Bool := (List.range k).all fun i => !S i || g.known i
def readyI (g : GraphL) (n : Int) : Bool := txnB' n && knowsB g (hangB g n.toNat) 32
theorem knowsB_hit {g : GraphL} {S : Nat → Bool} {k : Nat} (h : knowsB g S k = true) (h' : (!S k || g.known k) = true) : knowsB g S (k + 1) = true := by
  unfold knowsB at *
  rw [List.range_succ, List.all_append, h]
  simpa using h'
theorem knowsB_miss {g : GraphL} {S : Nat → Bool} {k n : Nat} (hk : k < n) (h' : (!S k || g.known k) = false) : knowsB g S n = false := by
  unfold knowsB
  rw [List.all_eq_false]
  exact ⟨k, List.mem_range.2 hk, by rw [h']; simp⟩

theorem Try.zeroBuilt : Try.prog.built 22 [] = some (bools 32 fun _ => false) := by kernel_rfl

set_option maxRecDepth 100000 in
set_option maxHeartbeats 400000 in
theorem allKnown_any (gv : Nat → Value) (g : GraphL) (B : Nat) (S : Nat → Bool) (w : World) (hg : GraphC B w gv g) :
    Calls Try.prog 62 #[.agg (rowF 64 gv), .agg (bools 32 S)] w fun e w' => e = .returned (.bool (knowsB g S 32)) ∧ Below w.heap.size w w' := by
  obtain ⟨gr, hgr⟩ : ∃ gr, gr = rowF 64 gv := ⟨_, rfl⟩
  rw [← hgr]
  have HGR : Hid (gr = rowF 64 gv) := hgr
  clear hgr
  have hr := two_rows w (.cells gr 26) (.cells (bools 32 S) 22)
  have hb : Below w.heap.size w ((w.alloc (.cells gr 26)).alloc (.cells (bools 32 S) 22)) := ((Below.refl _ _).alloc (Nat.le_refl _) _).alloc (by rw [size_push]; omega) _
  go_enter Try.func62, Try.ntmps62
  go_upto_region 1 with fail
  obtain ⟨W, hW⟩ : ∃ W, W = (w.alloc (.cells gr 26)).alloc (.cells (bools 32 S) 22) := ⟨_, rfl⟩
  rw [← hW] at hr hb ⊢
  obtain ⟨hr1, hr2⟩ := hr
  have HK : Hid (∀ i, i < 32 → W.cell? ⟨w.heap.size, i, none⟩ = some (.bool (g.known i))) := by
    intro i hi
    rw [cell_of_row W _ i _ _ _ hr1, HGR.out, rowF_get gv (by omega), hg.known i hi]
  clear hW hr1 hg
  go_wp2_with (refine wpList_load_row rfl 22 _ rfl (w.heap.size + 1) rfl 22 (bools 32 S) (0, 0) _ hr2 Try.underlying22 rfl (Try.sizeSet' _) ?_)
  go_loop [8] (fun v => ∃ k : Nat, k ≤ 32 ∧ v = .int .i64 k ∧ knowsB g S k = true) (fun v => 32 - (intOf v).toNat)
  case atStart => exact ⟨0, Nat.zero_le _, rfl, rfl⟩
  case round =>
    obtain ⟨k, hk, rfl, hko⟩ := hrel
    by_cases hlt : k < 32
    · have hix := fun wx => run_index_bools Try.underlying22 Try.underlying4 Try.infoBool S hlt wx
      have c0 := HK.out k hlt
      have k1 : (0 : Int) ≤ (k : Int) ∧ (k : Int) < 32 := by omega
      have HKO : Hid (knowsB g S k = true) := hko
      clear hko
      cases tk : S k
      · rw [tk] at hix
        go_wp2
        go_round
        case rel => exact ⟨k + 1, by omega, by go_num, knowsB_hit HKO.out (by rw [tk]; rfl)⟩
        case measure => simp [intOf]; omega
      · rw [tk] at hix
        cases tg : g.known k
        · rw [tg] at c0
          have HF : Hid (knowsB g S 32 = false) := knowsB_miss hlt (by rw [tk, tg]; rfl)
          go_wp2
          go_ret
          exact ⟨ret_bool HF.out.symm, hb⟩
        · rw [tg] at c0
          go_wp2
          go_round
          case rel => exact ⟨k + 1, by omega, by go_num, knowsB_hit HKO.out (by rw [tk, tg]; rfl)⟩
          case measure => simp [intOf]; omega
    · obtain rfl : k = 32 := by omega
      have HKO : Hid (knowsB g S 32 = true) := hko
      clear hko
      go_wp2
      go_ret
      exact ⟨ret_bool HKO.out.symm, hb⟩

set_option maxRecDepth 100000 in
set_option maxHeartbeats 400000 in
theorem reach_any (gv : Nat → Value) (g : GraphL) (n : Int) (w : World) (hg : GraphC w.heap.size w gv g) :
    Calls Try.prog 18 #[.agg (rowF 64 gv), .int .i64 n] w fun e w' => e = .returned (.agg (bools 32 (reachI g n))) ∧ Below w.heap.size w w' := by
  obtain ⟨gr, hgr⟩ : ∃ gr, gr = rowF 64 gv := ⟨_, rfl⟩
  rw [← hgr]
  have hsz := Try.sizeGraph gv
  rw [← hgr] at hsz
  have HGR : Hid (gr = rowF 64 gv) := hgr
  clear hgr
  have hr := two_rows w (.cells gr 26) (.cells (bools 32 fun _ => false) 22)
  have hb : Below w.heap.size w ((w.alloc (.cells gr 26)).alloc (.cells (bools 32 fun _ => false) 22)) := ((Below.refl _ _).alloc (Nat.le_refl _) _).alloc (by rw [size_push]; omega) _
  have hz : ((w.alloc (.cells gr 26)).alloc (.cells (bools 32 fun _ => false) 22)).heap.size = w.heap.size + 2 := by rw [size_push, size_push]
  by_cases ht : 0 ≤ n ∧ n < 32
  · obtain ⟨m, rfl⟩ := Int.eq_ofNat_of_zero_le ht.1
    have hm : m < 32 := by omega
    have tb : txnB' (m : Int) = true := by simp [txnB']; omega
    have E : Hid (reachI g (m : Int) = hangB g m) := by
      unfold Hid
      funext j
      unfold reachI
      rw [tb]
      rfl
    go_enter Try.func18, Try.ntmps18
    go_upto_region 1 with fail
    rw [← Try.zero22]
    obtain ⟨W, hW⟩ : ∃ W, W = (w.alloc (.cells gr 26)).alloc (.cells (bools 32 fun _ => false) 22) := ⟨_, rfl⟩
    rw [← hW] at hr hb hz ⊢
    obtain ⟨hr1, hr2⟩ := hr
    have hse := searchFrom_any gv g m W hm ((hg.later hb).mono (by omega))
    rw [← HGR.out] at hse
    clear hW hg
    go_wp2_with (first
      | (go_at_call 60; refine (g_isTxn _ _).mono ?_; rintro e w' ⟨rfl, rfl⟩)
      | (refine wpList_load_row rfl 26 _ rfl w.heap.size rfl 26 gr (0, 0) _ hr1 Try.underlying26 rfl hsz ?_))
    refine hse.mono ?_
    rintro e w1 ⟨c, sv, rfl, hc, hS, hb1⟩
    have hw1 := hb1.size
    have r1 := hS.row hm
    have hr3 : w1.heap[w.heap.size + 1]? = some (.cells (bools 32 fun _ => false) 22 (0, 0)) := by rw [hb1.block _ (by omega)]; exact hr2
    have m1 : (0 : Int) ≤ (m : Int) ∧ (m : Int) < 32 := ht
    have hb2 : Below w.heap.size w w1 := hb.trans (hb1.mono (by omega))
    have z1 := Try.sizeSet ((visitL g.adj 32 St.none m).reach m)
    have z2 := Try.sizeSet' (hangB g m)
    clear hse hS hr1 hr2 hb hb1
    obtain ⟨row, hrow⟩ : ∃ row, row = bools 32 (hangB g m) := ⟨_, rfl⟩
    have hrow' : bools 32 ((visitL g.adj 32 St.none m).reach m) = row := hrow.symm
    have ha : row.all (·.oneCell') = true := by rw [hrow]; exact bools_all _ _
    have hsr : (bools 32 fun _ => false).size = row.size := by rw [hrow, bools_size, bools_size]
    rw [hrow'] at r1 z1
    rw [← hrow] at z2
    go_wp2_with (first
      | (refine wpList_load_mid rfl 22 _ rfl c (162 + m * 32) rfl row.toList _ r1 Try.underlying22 rfl z1 ?_)
      | (refine wpList_store_row rfl 22 _ _ rfl (w.heap.size + 1) row rfl rfl 22 _ hr3 z2 hsr ha ?_))
    refine bodyPost_ret (v := .agg row) (results_cell_row Try.results18 _ _ (w.heap.size + 1) 22 _ (0, 0) _ rfl (heap_setRow hr3) Try.underlying22 rfl z2) rfl ⟨by rw [E.out, hrow], setRow_below hb2 (by omega) _⟩
  · have tb : txnB' n = false := by simp [txnB']; omega
    have E : Hid (bools 32 (reachI g n) = bools 32 fun _ => false) := by
      unfold Hid
      congr 1
      funext j
      unfold reachI
      rw [tb]
      rfl
    go_enter Try.func18, Try.ntmps18
    go_upto_region 1 with fail
    rw [← Try.zero22]
    obtain ⟨W, hW⟩ : ∃ W, W = (w.alloc (.cells gr 26)).alloc (.cells (bools 32 fun _ => false) 22) := ⟨_, rfl⟩
    rw [← hW] at hr hb ⊢
    obtain ⟨hr1, hr2⟩ := hr
    clear hW hz hr1
    go_wp2_with (first
      | (go_at_call 60; refine (g_isTxn _ _).mono ?_; rintro e w' ⟨rfl, rfl⟩)
      | (refine wpList_build_to rfl 22 _ rfl [] (by simp) (bools 32 fun _ => false) Try.zeroBuilt ?_)
      | (refine wpList_store_row rfl 22 _ _ rfl (w.heap.size + 1) (bools 32 fun _ => false) rfl rfl 22 _ hr2 (Try.sizeSet' _) rfl (bools_all _ _) ?_))
    refine bodyPost_ret (v := .agg (bools 32 fun _ => false)) (results_cell_row Try.results18 _ _ (w.heap.size + 1) 22 _ (0, 0) _ rfl (heap_setRow hr2) Try.underlying22 rfl (Try.sizeSet' _)) rfl ⟨by rw [E.out], setRow_below hb (by omega) _⟩

end Go.Proofs.Ytkoefoccbjhoiab
