/-
  The contract of package graph's ahead.
-/
import Derived.Test.YtkoefoccbjhoiaaGIncl
import Derived.Deep.Cut
import Derived.Deep.CutRange
set_option linter.unusedVariables false
set_option linter.unusedSimpArgs false
namespace Go.Proofs.Ytkoefoccbjhoiaa
open Go.RowKit

theorem Try.sizeSet' (S : Nat → Bool) : (Try.prog.info? 60).map (·.size) = some (bools 32 S).size := by rw [bools_size]; exact Try.infoSet

set_option maxRecDepth 100000 in
set_option maxHeartbeats 400000 in
theorem ahead_any (c : Nat) (gv : Nat → Value) (g : GraphL) (s : St) (sv : Value) (n : Nat) (hn : n < 32) (w : World) (hs : StAt w c gv s sv) (hg : GraphC c w gv g) :
    Calls Try.prog 97 #[.pointer (some ⟨c, 0, none⟩), .int .i64 n] w fun e w' => e = .returned (.agg (bools 32 (g.adj n))) ∧ Below w.heap.size w w' := by
  have hlt := hs.lt
  have n1 : (0 : Int) ≤ (n : Int) ∧ (n : Int) < 32 := by omega
  have k0 : w.cell? ⟨c, n, none⟩ = some (.bool (g.known n)) := by rw [BlkAt.cell hs (by omega), sCell_graph _ _ _ (by omega), hg.known n hn]
  cases hk : g.known n
  · rw [hk] at k0
    have E : Hid (bools 32 (g.adj n) = bools 32 (fun _ => false)) := by
      unfold Hid
      congr 1
      funext j
      simp [GraphL.adj, hk]
    go_enter Try.func97, Try.ntmps97
    go_upto_region 3 with fail
    rw [← Try.zero60]
    obtain ⟨W, hW⟩ : ∃ W, W = (w.alloc (.cells (bools 32 fun _ => false) 60)).alloc (.cells (bools 32 fun _ => false) 60) := ⟨_, rfl⟩
    have hr := two_rows w (.cells (bools 32 fun _ => false) 60) (.cells (bools 32 fun _ => false) 60)
    have hb : Below w.heap.size w W := by rw [hW]; exact ((Below.refl _ _).alloc (Nat.le_refl _) _).alloc (by rw [size_push]; omega) _
    rw [← hW] at hr ⊢
    obtain ⟨hr1, hr2⟩ := hr
    clear hW hs hg k0
    go_wp2_with (first
      | (refine wpList_load_row rfl 60 _ rfl (w.heap.size + 1) rfl 60 (bools 32 fun _ => false) (0, 0) _ hr2 Try.underlying60 rfl (Try.sizeSet' _) ?_)
      | (refine wpList_store_row rfl 60 _ _ rfl w.heap.size (bools 32 fun _ => false) rfl rfl 60 _ hr1 (Try.sizeSet' _) rfl (bools_all _ _) ?_))
    refine bodyPost_ret (v := .agg (bools 32 fun _ => false)) (results_cell_row Try.results97 _ _ w.heap.size 60 _ (0, 0) _ rfl (heap_setRow hr1) Try.underlying60 rfl (Try.sizeSet' _)) rfl ⟨by rw [E.out], setRow_below hb (Nat.le_refl _) _⟩
  · rw [hk] at k0
    obtain ⟨a, cap, hd, hz, hl⟩ := hg.deps n hn
    have d0 : w.cell? ⟨c, 32 + n, none⟩ = some (.slice a (g.deps n).length cap) := by rw [BlkAt.cell hs (by omega), sCell_graph _ _ _ (by omega), hd]
    have E : Hid (bools 32 (g.adj n) = bools 32 (fun j => (g.deps n).contains (j : Int))) := by
      unfold Hid bools
      congr 1
      refine List.map_congr_left fun j hj => ?_
      have := List.mem_range.1 hj
      simp [GraphL.adj, hk, hn, this]
    generalize g.deps n = zs at hz hl d0 E
    clear hd
    have hl' := hl
    unfold maxLen at hl'
    have h64 : (zs.length : Int) ≤ 9223372036854775807 := by omega
    go_enter Try.func97, Try.ntmps97
    go_upto_region 4 with fail
    rw [← Try.zero60]
    obtain ⟨W, hW⟩ : ∃ W, W = (w.alloc (.cells (bools 32 fun _ => false) 60)).alloc (.cells (bools 32 fun _ => false) 60) := ⟨_, rfl⟩
    have hr := two_rows w (.cells (bools 32 fun _ => false) 60) (.cells (bools 32 fun _ => false) 60)
    have hb : Below w.heap.size w W := by rw [hW]; exact ((Below.refl _ _).alloc (Nat.le_refl _) _).alloc (by rw [size_push]; omega) _
    rw [← hW] at hr ⊢
    obtain ⟨hr1, hr2⟩ := hr
    have d1 : W.cell? ⟨c, 32 + n, none⟩ = some (.slice a zs.length cap) := by rw [hb.cell (p := ⟨c, 32 + n, none⟩) hlt]; exact d0
    have hS0 : SetAt 32 W (w.heap.size + 1) (fun _ => false) := ⟨60, hr2⟩
    have hz' : IntsAt w.heap.size w a zs := hz.mono (by omega)
    clear hW hs hg k0 d0 hr2 hz
    rcases hz' with rfl | ⟨b, off, rfl, hbb, hc⟩
    · go_wp2_with fail
      refine wp_loop_rounds 1 ?_; rw [rounds_succ]
      obtain ⟨t, hS0⟩ := hS0
      go_wp2_with (first
        | (refine wpList_load_row rfl 60 _ rfl (w.heap.size + 1) rfl t (bools 32 fun _ => false) (0, 0) _ hS0 Try.underlying60 rfl (Try.sizeSet' _) ?_)
        | (refine wpList_store_row rfl 60 _ _ rfl w.heap.size (bools 32 fun _ => false) rfl rfl 60 _ hr1 (Try.sizeSet' _) rfl (bools_all _ _) ?_))
      refine bodyPost_ret (v := .agg (bools 32 fun _ => false)) (results_cell_row Try.results97 _ _ w.heap.size 60 _ (0, 0) _ rfl (heap_setRow hr1) Try.underlying60 rfl (Try.sizeSet' _)) rfl ⟨by rw [E.out]; rfl, setRow_below hb (Nat.le_refl _) _⟩
    · go_wp2_with fail
      go_loopw [23] (fun i wr => ∃ k : Nat, k ≤ zs.length ∧ i = .int .i64 k ∧ SetAt 32 wr (w.heap.size + 1) (fun i => (zs.take k).contains (i : Int)) ∧ Below w.heap.size w wr ∧ wr.heap[w.heap.size]? = some (.cells (bools 32 fun _ => false) 60 (0, 0))) (fun i _ => zs.length - (intOf i).toNat)
      case atStart => exact ⟨0, Nat.zero_le _, rfl, hS0.congr (by simp), hb, hr1⟩
      case round =>
        obtain ⟨k, hk', rfl, hS, hBw, hr⟩ := hrel
        clear hS0 hr1 d1
        have hsz := hBw.size
        by_cases hlt' : k < zs.length
        · obtain ⟨q, Hq⟩ : ∃ q : Int, Hid (zs.getD k 0 = q) := ⟨_, rfl⟩
          have e0 : wr.cell? ⟨b, off + k, none⟩ = some (.int .i64 q) := by rw [hBw.cell (p := ⟨b, off + k, none⟩) hbb, ← Hq.out]; exact hc k hlt'
          have HC : Hid (∀ i : Nat, (zs.take (k + 1)).contains (i : Int) = ((zs.take k).contains (i : Int) || (i : Int) == q)) := contains_step hlt' Hq.out
          clear hc
          by_cases t1 : 0 ≤ q ∧ q < 32
          · obtain ⟨m, rfl⟩ := Int.eq_ofNat_of_zero_le t1.1
            have hm : m < 32 := by omega
            have tb : txnB' (m : Int) = true := by simp [txnB']; omega
            have f0 := hS.cell hm
            have f1 := hS.frozen m
            have HS : Hid (SetAt 32 wr (w.heap.size + 1) (fun i => (zs.take k).contains (i : Int))) := hS
            have m1 : (0 : Int) ≤ (m : Int) ∧ (m : Int) < 32 := t1
            clear hS
            go_wp2_with (go_at_call 84; refine (g_isTxn _ _).mono ?_; rintro e w' ⟨rfl, rfl⟩)
            go_roundw
            case rel =>
              refine ⟨k + 1, by omega, by go_num, (HS.out.put m true).congr (fun i _ => ?_), hBw.setCell (by simp) _, by rw [heap_setCell_other _ _ _ _ (by simp)]; exact hr⟩
              rw [HC.out]
              have := or_cast false ((zs.take k).contains (i : Int)) i m
              simpa using this
            case measure => simp [intOf]; omega
          · have tb : txnB' q = false := by simp [txnB']; omega
            go_wp2_with (go_at_call 84; refine (g_isTxn _ _).mono ?_; rintro e w' ⟨rfl, rfl⟩)
            go_roundw
            case rel =>
              refine ⟨k + 1, by omega, by go_num, hS.congr (fun i hi => ?_), hBw, hr⟩
              rw [HC.out]
              have : ((i : Int) == q) = false := by simp; omega
              rw [this, Bool.or_false]
            case measure => simp [intOf]; omega
        · have hS' : SetAt 32 wr (w.heap.size + 1) (fun j => zs.contains (j : Int)) := hS.congr (fun i hi => by rw [List.take_of_length_le (by omega)])
          obtain ⟨t, hS'⟩ := hS'
          clear hS
          go_wp2_with (first
            | (refine wpList_load_row rfl 60 _ rfl (w.heap.size + 1) rfl t (bools 32 fun j => zs.contains (j : Int)) (0, 0) _ hS' Try.underlying60 rfl (Try.sizeSet' _) ?_)
            | (refine wpList_store_row rfl 60 _ _ rfl w.heap.size (bools 32 fun j => zs.contains (j : Int)) rfl rfl 60 _ hr (Try.sizeSet' _) rfl (bools_all _ _) ?_))
          refine bodyPost_ret (v := .agg (bools 32 fun j => zs.contains (j : Int))) (results_cell_row Try.results97 _ _ w.heap.size 60 _ (0, 0) _ rfl (heap_setRow hr) Try.underlying60 rfl (Try.sizeSet' _)) rfl ⟨by rw [E.out], setRow_below hBw (Nat.le_refl _) _⟩

end Go.Proofs.Ytkoefoccbjhoiaa
