/-
  The contract of package graph's Ready.
-/
import Derived.Test.YtkoefoccbjhoiabGReach
set_option linter.unusedVariables false
set_option linter.unusedSimpArgs false
namespace Go.Proofs.Ytkoefoccbjhoiab
open Go.RowKit

theorem rowF_toList (N : Nat) (f : Nat → Value) : (rowF N f).toList.length = N := by simp [rowF]
theorem row_range {N : Nat} {w : World} {c : Nat} {f : Nat → Value} (h : BlkAt N w c f) : w.rangeAt c 0 (rowF N f).toList := by
  have := BlkAt.range h (o := 0) (n := N) (by omega)
  simpa [rowF] using this
theorem range_later {w w' : World} {B c o : Nat} {cs : List Value} (h : w.rangeAt c o cs) (hb : Below B w w') (hc : c < B) : w'.rangeAt c o cs := fun j v hv => by
  rw [hb.cell (p := ⟨c, o + j, none⟩) hc]
  exact h j v hv

theorem reach_use (gv : Nat → Value) (g : GraphL) (n : Int) (B : Nat) (w : World) (hB : B < w.heap.size) (hg : GraphC B w gv g) (cs : List Value) (hcs : cs.toArray = rowF 64 gv) (hc : w.rangeAt B 0 cs) :
    Calls Try.prog 18 #[.agg cs.toArray, .int .i64 n] w fun e w' => e = .returned (.agg (bools 32 (reachI g n))) ∧ w'.rangeAt B 0 cs ∧ Below w.heap.size w w' := by
  rw [hcs]
  refine (reach_any gv g n w (hg.mono (by omega))).mono ?_
  rintro e w' ⟨rfl, hb⟩
  exact ⟨rfl, range_later hc hb hB, hb⟩
theorem known_use (gv : Nat → Value) (g : GraphL) (S : Nat → Bool) (B : Nat) (w : World) (hB : B < w.heap.size) (hg : GraphC B w gv g) (cs : List Value) (hcs : cs.toArray = rowF 64 gv) (hc : w.rangeAt B 0 cs) :
    Calls Try.prog 62 #[.agg cs.toArray, .agg (bools 32 S)] w fun e w' => e = .returned (.bool (knowsB g S 32)) ∧ w'.rangeAt B 0 cs ∧ Below w.heap.size w w' := by
  rw [hcs]
  refine (allKnown_any gv g B S w hg).mono ?_
  rintro e w' ⟨rfl, hb⟩
  exact ⟨rfl, range_later hc hb hB, hb⟩

set_option maxRecDepth 100000 in
set_option maxHeartbeats 1000000 in
theorem ready_any (gv : Nat → Value) (g : GraphL) (n : Int) (w : World) (hg : GraphC w.heap.size w gv g) :
    Calls Try.prog 16 #[.agg (rowF 64 gv), .int .i64 n] w fun e w' => e = .returned (.bool (readyI g n)) ∧ Below w.heap.size w w' := by
  obtain ⟨gr, hgr⟩ : ∃ gr, gr = rowF 64 gv := ⟨_, rfl⟩
  obtain ⟨cs, hcs⟩ : ∃ cs, cs = (rowF 64 gv).toList := ⟨_, rfl⟩
  rw [← hgr]
  have hb : Below w.heap.size w (w.alloc (.cells gr 26)) := (Below.refl _ _).alloc (Nat.le_refl _) _
  have hc : (w.alloc (.cells gr 26)).rangeAt w.heap.size 0 cs := by
    rw [hcs]
    exact row_range ⟨26, by rw [← hgr]; exact heap_new _ _⟩
  have hz : (w.alloc (.cells gr 26)).heap.size = w.heap.size + 1 := size_push _ _
  have hsz : (Try.prog.info? 26).map (·.size) = some cs.length := by rw [hcs, rowF_toList]; exact Try.infoGraph
  have HCS : Hid (cs.toArray = rowF 64 gv) := by unfold Hid; rw [hcs]
  clear hgr hcs
  go_enter Try.func16, Try.ntmps16
  go_upto_region 1 with fail
  obtain ⟨W, hW⟩ : ∃ W, W = w.alloc (.cells gr 26) := ⟨_, rfl⟩
  rw [← hW] at hc hb hz ⊢
  clear hW
  by_cases ht : 0 ≤ n ∧ n < 32
  · have tb : txnB' n = true := by simp [txnB']; omega
    have E : Hid (readyI g n = knowsB g (reachI g n) 32) := by
      unfold Hid readyI
      rw [tb, Bool.true_and]
      congr 1
      funext j
      unfold reachI
      rw [tb]
      rfl
    have hre := reach_use gv g n w.heap.size W.drew (by show w.heap.size < W.heap.size; omega) (hg.later (Below.drew hb)) cs HCS.out hc
    have hkn := fun w1 (h : Below W.heap.size W.drew w1) (h2 : w1.rangeAt w.heap.size 0 cs) => known_use gv g (reachI g n) w.heap.size w1 (by have := h.size; have e : W.drew.heap.size = W.heap.size := rfl; omega) ((hg.later (Below.drew hb)).later (h.mono (by omega))) cs HCS.out h2
    have HKN : Hid (∀ w1 : World, Below W.heap.size W.drew w1 → w1.rangeAt w.heap.size 0 cs → _) := hkn
    have HB : Hid (Below w.heap.size w W) := hb
    have HZ : Hid (W.heap.size = w.heap.size + 1) := hz
    clear hkn hb hg hz
    refine wp_region_held_drew (S := fun w' => w'.rangeAt w.heap.size 0 cs) (by kernel_rfl) hc ?_
    intro hH
    refine wpAnyH_takeD (i := 0) (d := some 5) (v := .int .i64 n) rfl rfl (by kernel_rfl) (by kernel_rfl) (by kernel_rfl) (fun _ _ _ h => h) (Or.inl ⟨by rfl, fun _ _ => by go_simp⟩) hH ?_
    simp only [Act.put, List.setIfInBounds_toArray, List.set_cons_zero, List.set_cons_succ]
    refine wpAnyH_ready (rs := [1]) (by kernel_rfl) (by simp) ?_
    refine AllReadyH.cons rfl (fun K hK => ?_) AllReadyH.nil
    go_simp
    refine (g_isTxn _ _).mono ?_
    rintro e w' ⟨rfl, rfl⟩
    go_wp2_with fail
    refine hK.out _ _ (hH) (fun hH2 => ?_)
    clear hK K hH
    have hH := hH2
    clear hH2
    refine wpAnyH_takeD (i := 2) (d := some 7) (v := .bool true) rfl rfl (by kernel_rfl) (by kernel_rfl) (by kernel_rfl) (fun _ _ _ h => h) (Or.inl ⟨by rfl, fun _ _ => by go_simp⟩) hH ?_
    simp only [Act.put, List.setIfInBounds_toArray, List.set_cons_zero, List.set_cons_succ]
    refine wpAnyH_takeD (i := 3) (d := some 8) (v := .agg cs.toArray) rfl rfl (by kernel_rfl) (by kernel_rfl) (by kernel_rfl) (fun _ _ _ h => h) (yieldsIf_load_mid (by rfl) _ _ rfl _ _ rfl cs _ (fun _ h => h) Try.underlying26 rfl hsz) hH ?_
    simp only [Act.put, List.setIfInBounds_toArray, List.set_cons_zero, List.set_cons_succ]
    refine wpAnyH_takeD (i := 4) (d := some 9) (v := .agg cs.toArray) rfl rfl (by kernel_rfl) (by kernel_rfl) (by kernel_rfl) (fun _ _ _ h => h) (yieldsIf_load_mid (by rfl) _ _ rfl _ _ rfl cs _ (fun _ h => h) Try.underlying26 rfl hsz) hH ?_
    simp only [Act.put, List.setIfInBounds_toArray, List.set_cons_zero, List.set_cons_succ]
    refine wpAnyH_takeD (i := 5) (d := some 10) (v := .int .i64 n) rfl rfl (by kernel_rfl) (by kernel_rfl) (by kernel_rfl) (fun _ _ _ h => h) (Or.inl ⟨by rfl, fun _ _ => by go_simp⟩) hH ?_
    simp only [Act.put, List.setIfInBounds_toArray, List.set_cons_zero, List.set_cons_succ]
    refine wpAnyH_ready (rs := [6]) (by kernel_rfl) (by simp) ?_
    refine AllReadyH.cons rfl (fun K hK => ?_) AllReadyH.nil
    go_simp
    refine (hre).mono ?_
    rintro e w1 ⟨rfl, hc1, hb1⟩
    go_wp2_with fail
    refine hK.out _ _ (hc1) (fun hH2 => ?_)
    clear hK K hH
    have hH := hH2
    clear hH2
    refine wpAnyH_ready (rs := [7]) (by kernel_rfl) (by simp) ?_
    refine AllReadyH.cons rfl (fun K hK => ?_) AllReadyH.nil
    go_simp
    refine (HKN.out w1 hb1 hc1).mono ?_
    rintro e w2 ⟨rfl, hc2, hb2⟩
    go_wp2_with fail
    refine hK.out _ _ (hc2) (fun hH2 => ?_)
    clear hK K hH
    have hH := hH2
    clear hH2
    refine wpAnyH_takeD (i := 8) (d := some 13) (v := .bool (knowsB g (reachI g n) 32)) rfl rfl (by kernel_rfl) (by kernel_rfl) (by kernel_rfl) (fun _ _ _ h => h) (Or.inl ⟨by rfl, fun _ _ => by go_simp⟩) hH ?_
    simp only [Act.put, List.setIfInBounds_toArray, List.set_cons_zero, List.set_cons_succ]
    refine wpAnyH_takeD (i := 9) (d := some 4) (v := .bool (knowsB g (reachI g n) 32)) rfl rfl (by kernel_rfl) (by kernel_rfl) (by kernel_rfl) (fun _ _ _ h => h) (Or.inl ⟨by rfl, fun _ _ => by go_simp⟩) hH ?_
    simp only [Act.put, List.setIfInBounds_toArray, List.set_cons_zero, List.set_cons_succ]
    refine wpAnyH_done (by kernel_rfl) ?_ _
    go_wp2_with fail
    go_ret
    refine ⟨ret_bool E.out.symm, HB.out.trans ((below_drewN (Below.refl _ _) 1).trans ?_)⟩
    have h1 := HZ.out
    have h2 := hb1.size
    have e1 : W.drew.heap.size = W.heap.size := rfl
    exact (hb1.mono (by omega)).trans (hb2.mono (by omega))
  · have tb : txnB' n = false := by simp [txnB']; omega
    have E : Hid (readyI g n = false) := by unfold Hid readyI; rw [tb]; rfl
    refine wp_region_held_drew (S := fun w' => w'.rangeAt w.heap.size 0 cs) (by kernel_rfl) hc ?_
    intro hH
    refine wpAnyH_takeD (i := 0) (d := some 5) (v := .int .i64 n) rfl rfl (by kernel_rfl) (by kernel_rfl) (by kernel_rfl) (fun _ _ _ h => h) (Or.inl ⟨by rfl, fun _ _ => by go_simp⟩) hH ?_
    simp only [Act.put, List.setIfInBounds_toArray, List.set_cons_zero, List.set_cons_succ]
    refine wpAnyH_ready (rs := [1]) (by kernel_rfl) (by simp) ?_
    refine AllReadyH.cons rfl (fun K hK => ?_) AllReadyH.nil
    go_simp
    refine (g_isTxn _ _).mono ?_
    rintro e w' ⟨rfl, rfl⟩
    go_wp2_with fail
    refine hK.out _ _ (hH) (fun hH2 => ?_)
    clear hK K hH
    have hH := hH2
    clear hH2
    refine wpAnyH_takeD (i := 2) (d := some 7) (v := .bool false) rfl rfl (by kernel_rfl) (by kernel_rfl) (by kernel_rfl) (fun _ _ _ h => h) (Or.inl ⟨by rfl, fun _ _ => by go_simp⟩) hH ?_
    simp only [Act.put, List.setIfInBounds_toArray, List.set_cons_zero, List.set_cons_succ]
    refine wpAnyH_takeD (i := 3) (d := some 8) (v := undef) rfl rfl (by kernel_rfl) (by kernel_rfl) (by kernel_rfl) (fun _ _ _ h => h) (Or.inr ⟨by rfl, rfl⟩) hH ?_
    simp only [Act.put, List.setIfInBounds_toArray, List.set_cons_zero, List.set_cons_succ]
    refine wpAnyH_takeD (i := 4) (d := some 9) (v := undef) rfl rfl (by kernel_rfl) (by kernel_rfl) (by kernel_rfl) (fun _ _ _ h => h) (Or.inr ⟨by rfl, rfl⟩) hH ?_
    simp only [Act.put, List.setIfInBounds_toArray, List.set_cons_zero, List.set_cons_succ]
    refine wpAnyH_takeD (i := 5) (d := some 10) (v := undef) rfl rfl (by kernel_rfl) (by kernel_rfl) (by kernel_rfl) (fun _ _ _ h => h) (Or.inr ⟨by rfl, rfl⟩) hH ?_
    simp only [Act.put, List.setIfInBounds_toArray, List.set_cons_zero, List.set_cons_succ]
    refine wpAnyH_takeD (i := 6) (d := some 11) (v := undef) rfl rfl (by kernel_rfl) (by kernel_rfl) (by kernel_rfl) (fun _ _ _ h => h) (Or.inr ⟨by rfl, rfl⟩) hH ?_
    simp only [Act.put, List.setIfInBounds_toArray, List.set_cons_zero, List.set_cons_succ]
    refine wpAnyH_takeD (i := 7) (d := some 12) (v := undef) rfl rfl (by kernel_rfl) (by kernel_rfl) (by kernel_rfl) (fun _ _ _ h => h) (Or.inr ⟨by rfl, rfl⟩) hH ?_
    simp only [Act.put, List.setIfInBounds_toArray, List.set_cons_zero, List.set_cons_succ]
    refine wpAnyH_takeD (i := 8) (d := some 13) (v := .bool false) rfl rfl (by kernel_rfl) (by kernel_rfl) (by kernel_rfl) (fun _ _ _ h => h) (Or.inl ⟨by rfl, fun _ _ => by go_simp⟩) hH ?_
    simp only [Act.put, List.setIfInBounds_toArray, List.set_cons_zero, List.set_cons_succ]
    refine wpAnyH_takeD (i := 9) (d := some 4) (v := .bool false) rfl rfl (by kernel_rfl) (by kernel_rfl) (by kernel_rfl) (fun _ _ _ h => h) (Or.inl ⟨by rfl, fun _ _ => by go_simp⟩) hH ?_
    simp only [Act.put, List.setIfInBounds_toArray, List.set_cons_zero, List.set_cons_succ]
    refine wpAnyH_done (by kernel_rfl) ?_ _
    go_wp2_with fail
    go_ret
    exact ⟨ret_bool E.out.symm, hb.drew⟩

end Go.Proofs.Ytkoefoccbjhoiab
