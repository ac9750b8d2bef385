/-
  The walk of the statement GraphOrders.
-/
import Derived.Test.YtkoefoccbjhoiaaGRefO
import Derived.Test.YtkoefoccbjhoiaaGRefX
import Derived.Test.YtkoefoccbjhoiaaGOrdersL
set_option linter.unusedVariables false
set_option linter.unusedSimpArgs false
namespace Go.Proofs.Ytkoefoccbjhoiaa
open Go.RowKit

set_option maxRecDepth 100000 in
set_option maxHeartbeats 2000000 in
theorem orders_walk (gv : Nat → Value) (g : GraphL) (n : Int) (w : World) (hg : GraphC w.heap.size w gv g) :
    Calls Try.prog 14 #[.agg (rowF 64 gv), .int .i64 n] w fun e w' => e = .returned (.bool true) ∧ Below w.heap.size w w' := by
  obtain ⟨gr, hgr⟩ : ∃ gr, gr = rowF 64 gv := ⟨_, rfl⟩
  obtain ⟨cs, hcs⟩ : ∃ cs, cs = (rowF 64 gv).toList := ⟨_, rfl⟩
  rw [← hgr]
  have hb : Below w.heap.size w (w.alloc (.cells gr 63)) := (Below.refl _ _).alloc (Nat.le_refl _) _
  have hc : (w.alloc (.cells gr 63)).rangeAt w.heap.size 0 cs := by
    rw [hcs]
    exact row_range ⟨63, by rw [← hgr]; exact heap_new _ _⟩
  have hz : (w.alloc (.cells gr 63)).heap.size = w.heap.size + 1 := size_push _ _
  have hsz : (Try.prog.info? 63).map (·.size) = some cs.length := by rw [hcs, rowF_toList]; exact Try.infoGraph
  have HCS : Hid (cs.toArray = rowF 64 gv) := by unfold Hid; rw [hcs]
  clear hgr hcs
  go_enter Try.func14, Try.ntmps14
  go_upto_region 1 with fail
  obtain ⟨W, hW⟩ : ∃ W, W = w.alloc (.cells gr 63) := ⟨_, rfl⟩
  rw [← hW] at hc hb hz ⊢
  clear hW
  have hlist : GraphC W.heap.size W gv g := (hg.later hb).mono (by omega)
  obtain ⟨R1, hR1⟩ : ∃ R1, R1 = reachI g n := ⟨_, rfl⟩
  obtain ⟨RD, hRD⟩ : ∃ RD, RD = readyI g n := ⟨_, rfl⟩
  have HR1 : Hid (R1 = reachI g n) := hR1
  have HRD : Hid (RD = readyI g n) := hRD
  clear hR1 hRD
  have HRc : Hid (∀ wx, Below W.drew.heap.size W.drew wx → Calls Try.prog 56 #[.agg cs.toArray, .int .i64 n] wx fun e w' => e = .returned (.agg (bools 32 R1)) ∧ Below wx.heap.size wx w') := by
    intro wx hx
    have hx' : Below W.heap.size W wx := (below_drewN (Below.refl _ _) 1).trans hx
    have h := reach_any gv g n wx ((hlist.later hx').mono hx'.size)
    rw [HCS.out, HR1.out]
    exact h
  have HRo : Hid (∀ wx, Below W.drew.heap.size W.drew wx → Calls Try.prog 57 #[.agg cs.toArray, .int .i64 n] wx fun e w' => e = .returned (.agg (bools 32 R1)) ∧ Below wx.heap.size wx w') := by
    intro wx hx
    have hx' : Below W.heap.size W wx := (below_drewN (Below.refl _ _) 1).trans hx
    have h := reachOf_any gv g n wx ((hlist.later hx').mono hx'.size)
    rw [HCS.out, HR1.out]
    exact h
  have HRd : Hid (∀ wx, Below W.drew.heap.size W.drew wx → Calls Try.prog 58 #[.agg cs.toArray, .int .i64 n] wx fun e w' => e = .returned (.bool RD) ∧ Below wx.heap.size wx w') := by
    intro wx hx
    have hx' : Below W.heap.size W wx := (below_drewN (Below.refl _ _) 1).trans hx
    have h := ready_any gv g n wx ((hlist.later hx').mono hx'.size)
    rw [HCS.out, HRD.out]
    exact h
  have HRi : Hid (∀ wx, Below W.drew.heap.size W.drew wx → Calls Try.prog 59 #[.agg cs.toArray, .int .i64 n] wx fun e w' => e = .returned (.bool RD) ∧ Below wx.heap.size wx w') := by
    intro wx hx
    have hx' : Below W.heap.size W wx := (below_drewN (Below.refl _ _) 1).trans hx
    have h := readyIn_any gv g n wx ((hlist.later hx').mono hx'.size)
    rw [HCS.out, HRD.out]
    exact h
  have HOr : Hid (∀ wx, Below W.drew.heap.size W.drew wx → Calls Try.prog 60 #[.agg cs.toArray, .int .i64 n] wx fun e w' => ∃ v, e = .returned v ∧ w'.ownsRow wx.heap.size 3 1 v (ints (orderI g n)).length (intCells (ints (orderI g n))) ∧ Below wx.heap.size wx w') := by
    intro wx hx
    have hx' : Below W.heap.size W wx := (below_drewN (Below.refl _ _) 1).trans hx
    have h := order_any gv g n wx ((hlist.later hx').mono hx'.size)
    rw [HCS.out]
    exact h
  have HOo : Hid (∀ wx, Below W.drew.heap.size W.drew wx → Calls Try.prog 61 #[.agg cs.toArray, .int .i64 n] wx fun e w' => ∃ v, e = .returned v ∧ w'.ownsRow wx.heap.size 3 1 v (ints (orderI g n)).length (intCells (ints (orderI g n))) ∧ Below wx.heap.size wx w') := by
    intro wx hx
    have hx' : Below W.heap.size W wx := (below_drewN (Below.refl _ _) 1).trans hx
    have h := orderOf_any gv g n wx ((hlist.later hx').mono hx'.size)
    rw [HCS.out]
    exact h
  have HK : Hid (∀ wx, Below W.drew.heap.size W.drew wx → wx.rangeAt w.heap.size 0 cs) := by
    intro wx hx
    have hx' : Below W.heap.size W wx := (below_drewN (Below.refl _ _) 1).trans hx
    exact range_later hc hx' (by omega)
  have HLn : Hid ((ints (orderI g n)).length ≤ maxLen) := by
    have h1 := ints_len (orderI g n)
    have h2 : (orderI g n).length ≤ 32 := by
      unfold orderI
      split
      · exact (placed_at _ _ 32).len
      · simp
    unfold Hid maxLen
    omega
  have hgd := Try.setGuard
  have hee : sameB 32 R1 R1 = true := sameB_iff.2 fun _ _ => rfl
  have he := fun w => run_equalIn_bools 9998 Try.underlying60 Try.underlying4 Try.infoBool R1 R1 w
  rw [hee] at he
  have hrr : (RD == RD) = true := by simp
  have HB : Hid (Below w.heap.size w W) := hb
  have hlz : w.heap.size ≤ W.heap.size := by omega
  clear hg hlist hb hee HR1 HRD
  refine wp_region_held_drew (S := fun w' => w'.rangeAt w.heap.size 0 cs) (by kernel_rfl) hc ?_
  intro hH
  refine wpAnyH_takeD (i := 0) (d := some 5) (v := .agg cs.toArray) rfl rfl (by kernel_rfl) (by kernel_rfl) (by kernel_rfl) (fun _ _ _ h => h) (yieldsIf_load_mid (by rfl) _ _ rfl _ _ rfl cs _ (fun _ h => h) Try.underlying63 rfl hsz) hH ?_
  simp only [Act.put, List.setIfInBounds_toArray, List.set_cons_zero, List.set_cons_succ]
  refine wpAnyH_takeD (i := 1) (d := some 6) (v := .int .i64 n) rfl rfl (by kernel_rfl) (by kernel_rfl) (by kernel_rfl) (fun _ _ _ h => h) (Or.inl ⟨by rfl, fun _ _ => by go_simp⟩) hH ?_
  simp only [Act.put, List.setIfInBounds_toArray, List.set_cons_zero, List.set_cons_succ]
  refine wpAnyH_takeD (i := 3) (d := some 8) (v := .agg cs.toArray) rfl rfl (by kernel_rfl) (by kernel_rfl) (by kernel_rfl) (fun _ _ _ h => h) (yieldsIf_load_mid (by rfl) _ _ rfl _ _ rfl cs _ (fun _ h => h) Try.underlying63 rfl hsz) hH ?_
  simp only [Act.put, List.setIfInBounds_toArray, List.set_cons_zero, List.set_cons_succ]
  refine wpAnyH_takeD (i := 4) (d := some 9) (v := .int .i64 n) rfl rfl (by kernel_rfl) (by kernel_rfl) (by kernel_rfl) (fun _ _ _ h => h) (Or.inl ⟨by rfl, fun _ _ => by go_simp⟩) hH ?_
  simp only [Act.put, List.setIfInBounds_toArray, List.set_cons_zero, List.set_cons_succ]
  refine wpAnyH_ready (rs := [2]) (by kernel_rfl) (by simp) ?_
  refine AllReadyH.cons rfl (fun K hK => ?_) AllReadyH.nil
  go_simp
  refine (HRc.out _ (Below.refl _ _)).mono ?_
  rintro e w1 ⟨rfl, hb1⟩
  go_wp2_with fail
  refine hK.out _ _ (HK.out w1 hb1) (fun hH2 => ?_)
  clear hK K hH
  have hH := hH2
  clear hH2
  refine wpAnyH_ready (rs := [5]) (by kernel_rfl) (by simp) ?_
  refine AllReadyH.cons rfl (fun K hK => ?_) AllReadyH.nil
  go_simp
  refine (HRo.out w1 hb1).mono ?_
  rintro e w2 ⟨rfl, hb2⟩
  have hb2 := hb1.trans (hb2.mono hb1.size)
  go_wp2_with fail
  refine hK.out _ _ (HK.out w2 hb2) (fun hH2 => ?_)
  clear hK K hH
  have hH := hH2
  clear hH2
  refine wpAnyH_takeD (i := 6) (d := some 11) (v := .bool true) rfl rfl (by kernel_rfl) (by kernel_rfl) (by kernel_rfl) (fun _ _ _ h => h) (Or.inl ⟨by rfl, fun _ _ => by go_simp⟩) hH ?_
  simp only [Act.put, List.setIfInBounds_toArray, List.set_cons_zero, List.set_cons_succ]
  refine wpAnyH_takeD (i := 7) (d := some 12) (v := .bool true) rfl rfl (by kernel_rfl) (by kernel_rfl) (by kernel_rfl) (fun _ _ _ h => h) (Or.inl ⟨by rfl, fun _ _ => by go_simp⟩) hH ?_
  simp only [Act.put, List.setIfInBounds_toArray, List.set_cons_zero, List.set_cons_succ]
  refine wpAnyH_takeD (i := 8) (d := some 13) (v := .agg cs.toArray) rfl rfl (by kernel_rfl) (by kernel_rfl) (by kernel_rfl) (fun _ _ _ h => h) (yieldsIf_load_mid (by rfl) _ _ rfl _ _ rfl cs _ (fun _ h => h) Try.underlying63 rfl hsz) hH ?_
  simp only [Act.put, List.setIfInBounds_toArray, List.set_cons_zero, List.set_cons_succ]
  refine wpAnyH_takeD (i := 9) (d := some 14) (v := .int .i64 n) rfl rfl (by kernel_rfl) (by kernel_rfl) (by kernel_rfl) (fun _ _ _ h => h) (Or.inl ⟨by rfl, fun _ _ => by go_simp⟩) hH ?_
  simp only [Act.put, List.setIfInBounds_toArray, List.set_cons_zero, List.set_cons_succ]
  refine wpAnyH_takeD (i := 11) (d := some 16) (v := .agg cs.toArray) rfl rfl (by kernel_rfl) (by kernel_rfl) (by kernel_rfl) (fun _ _ _ h => h) (yieldsIf_load_mid (by rfl) _ _ rfl _ _ rfl cs _ (fun _ h => h) Try.underlying63 rfl hsz) hH ?_
  simp only [Act.put, List.setIfInBounds_toArray, List.set_cons_zero, List.set_cons_succ]
  refine wpAnyH_takeD (i := 12) (d := some 17) (v := .int .i64 n) rfl rfl (by kernel_rfl) (by kernel_rfl) (by kernel_rfl) (fun _ _ _ h => h) (Or.inl ⟨by rfl, fun _ _ => by go_simp⟩) hH ?_
  simp only [Act.put, List.setIfInBounds_toArray, List.set_cons_zero, List.set_cons_succ]
  refine wpAnyH_ready (rs := [10]) (by kernel_rfl) (by simp) ?_
  refine AllReadyH.cons rfl (fun K hK => ?_) AllReadyH.nil
  go_simp
  refine (HRd.out w2 hb2).mono ?_
  rintro e w3 ⟨rfl, hb3⟩
  have hb3 := hb2.trans (hb3.mono hb2.size)
  go_wp2_with fail
  refine hK.out _ _ (HK.out w3 hb3) (fun hH2 => ?_)
  clear hK K hH
  have hH := hH2
  clear hH2
  refine wpAnyH_ready (rs := [13]) (by kernel_rfl) (by simp) ?_
  refine AllReadyH.cons rfl (fun K hK => ?_) AllReadyH.nil
  go_simp
  refine (HRi.out w3 hb3).mono ?_
  rintro e w4 ⟨rfl, hb4⟩
  have hb4 := hb3.trans (hb4.mono hb3.size)
  go_wp2_with fail
  refine hK.out _ _ (HK.out w4 hb4) (fun hH2 => ?_)
  clear hK K hH
  have hH := hH2
  clear hH2
  refine wpAnyH_takeD (i := 14) (d := some 19) (v := .bool true) rfl rfl (by kernel_rfl) (by kernel_rfl) (by kernel_rfl) (fun _ _ _ h => h) (Or.inl ⟨by rfl, fun _ _ => by go_simp⟩) hH ?_
  simp only [Act.put, List.setIfInBounds_toArray, List.set_cons_zero, List.set_cons_succ]
  refine wpAnyH_takeD (i := 15) (d := some 20) (v := .bool true) rfl rfl (by kernel_rfl) (by kernel_rfl) (by kernel_rfl) (fun _ _ _ h => h) (Or.inl ⟨by rfl, fun _ _ => by go_simp⟩) hH ?_
  simp only [Act.put, List.setIfInBounds_toArray, List.set_cons_zero, List.set_cons_succ]
  refine wpAnyH_takeD (i := 16) (d := some 21) (v := .bool true) rfl rfl (by kernel_rfl) (by kernel_rfl) (by kernel_rfl) (fun _ _ _ h => h) (Or.inl ⟨by rfl, fun _ _ => by go_simp⟩) hH ?_
  simp only [Act.put, List.setIfInBounds_toArray, List.set_cons_zero, List.set_cons_succ]
  refine wpAnyH_takeD (i := 17) (d := some 22) (v := .agg cs.toArray) rfl rfl (by kernel_rfl) (by kernel_rfl) (by kernel_rfl) (fun _ _ _ h => h) (yieldsIf_load_mid (by rfl) _ _ rfl _ _ rfl cs _ (fun _ h => h) Try.underlying63 rfl hsz) hH ?_
  simp only [Act.put, List.setIfInBounds_toArray, List.set_cons_zero, List.set_cons_succ]
  refine wpAnyH_takeD (i := 18) (d := some 23) (v := .int .i64 n) rfl rfl (by kernel_rfl) (by kernel_rfl) (by kernel_rfl) (fun _ _ _ h => h) (Or.inl ⟨by rfl, fun _ _ => by go_simp⟩) hH ?_
  simp only [Act.put, List.setIfInBounds_toArray, List.set_cons_zero, List.set_cons_succ]
  refine wpAnyH_takeD (i := 20) (d := some 25) (v := .agg cs.toArray) rfl rfl (by kernel_rfl) (by kernel_rfl) (by kernel_rfl) (fun _ _ _ h => h) (yieldsIf_load_mid (by rfl) _ _ rfl _ _ rfl cs _ (fun _ h => h) Try.underlying63 rfl hsz) hH ?_
  simp only [Act.put, List.setIfInBounds_toArray, List.set_cons_zero, List.set_cons_succ]
  refine wpAnyH_takeD (i := 21) (d := some 26) (v := .int .i64 n) rfl rfl (by kernel_rfl) (by kernel_rfl) (by kernel_rfl) (fun _ _ _ h => h) (Or.inl ⟨by rfl, fun _ _ => by go_simp⟩) hH ?_
  simp only [Act.put, List.setIfInBounds_toArray, List.set_cons_zero, List.set_cons_succ]
  refine wpAnyH_ready (rs := [19]) (by kernel_rfl) (by simp) ?_
  refine AllReadyH.cons rfl (fun K hK => ?_) AllReadyH.nil
  go_simp
  refine (HOr.out w4 hb4).mono ?_
  rintro e w5 ⟨v1, rfl, ho1, hb5⟩
  have hb5 := hb4.trans (hb5.mono hb4.size)
  obtain ⟨a1, c1, hv1, _, _⟩ := own_form ho1
  obtain ⟨b1, d1, hx1, hi1⟩ := IntsAt.of_owns ho1
  rw [hv1] at hx1
  cases hx1
  rw [hv1]
  go_wp2_with fail
  refine hK.out _ _ (HK.out w5 hb5) (fun hH2 => ?_)
  clear hK K hH
  have hH := hH2
  clear hH2
  refine wpAnyH_ready (rs := [22]) (by kernel_rfl) (by simp) ?_
  refine AllReadyH.cons rfl (fun K hK => ?_) AllReadyH.nil
  go_simp
  refine (HOo.out w5 hb5).mono ?_
  rintro e w6 ⟨v2, rfl, ho2, hb6⟩
  have hi1 := (hi1.later hb6).mono hb6.size
  have hb6 := hb5.trans (hb6.mono hb5.size)
  obtain ⟨a2, c2, hv2, _, _⟩ := own_form ho2
  obtain ⟨b2, d2, hx2, hi2⟩ := IntsAt.of_owns ho2
  rw [hv2] at hx2
  cases hx2
  rw [hv2]
  go_wp2_with fail
  refine hK.out _ _ (HK.out w6 hb6) (fun hH2 => ?_)
  clear hK K hH
  have hH := hH2
  clear hH2
  refine wpAnyH_ready (rs := [23]) (by kernel_rfl) (by simp) ?_
  refine AllReadyH.cons rfl (fun K hK => ?_) AllReadyH.nil
  go_simp
  refine (sameNumbers_any a1 c1 (ints (orderI g n)) a2 c2 w6 HLn.out hi1 hi2).mono ?_
  rintro e w7 ⟨rfl, hb7⟩
  have hb7 := hb6.trans (hb7.mono hb6.size)
  go_wp2_with fail
  refine hK.out _ _ (HK.out w7 hb7) (fun hH2 => ?_)
  clear hK K hH
  have hH := hH2
  clear hH2
  refine wpAnyH_takeD (i := 24) (d := some 29) (v := .bool true) rfl rfl (by kernel_rfl) (by kernel_rfl) (by kernel_rfl) (fun _ _ _ h => h) (Or.inl ⟨by rfl, fun _ _ => by go_simp⟩) hH ?_
  simp only [Act.put, List.setIfInBounds_toArray, List.set_cons_zero, List.set_cons_succ]
  refine wpAnyH_takeD (i := 25) (d := some 30) (v := .bool true) rfl rfl (by kernel_rfl) (by kernel_rfl) (by kernel_rfl) (fun _ _ _ h => h) (Or.inl ⟨by rfl, fun _ _ => by go_simp⟩) hH ?_
  simp only [Act.put, List.setIfInBounds_toArray, List.set_cons_zero, List.set_cons_succ]
  refine wpAnyH_ready (rs := [26]) (by kernel_rfl) (by simp) ?_
  refine AllReadyH.cons rfl (fun K hK => ?_) AllReadyH.nil
  go_simp
  refine (law_orders w7).mono ?_
  rintro e w8 ⟨rfl, hb8⟩
  have hb8 := hb7.trans (hb8.mono hb7.size)
  go_wp2_with fail
  refine hK.out _ _ (HK.out w8 hb8) (fun hH2 => ?_)
  clear hK K hH
  have hH := hH2
  clear hH2
  refine wpAnyH_takeD (i := 27) (d := some 32) (v := .bool true) rfl rfl (by kernel_rfl) (by kernel_rfl) (by kernel_rfl) (fun _ _ _ h => h) (Or.inl ⟨by rfl, fun _ _ => by go_simp⟩) hH ?_
  simp only [Act.put, List.setIfInBounds_toArray, List.set_cons_zero, List.set_cons_succ]
  refine wpAnyH_takeD (i := 28) (d := some 4) (v := .bool true) rfl rfl (by kernel_rfl) (by kernel_rfl) (by kernel_rfl) (fun _ _ _ h => h) (Or.inl ⟨by rfl, fun _ _ => by go_simp⟩) hH ?_
  simp only [Act.put, List.setIfInBounds_toArray, List.set_cons_zero, List.set_cons_succ]
  refine wpAnyH_done (by kernel_rfl) ?_ _
  go_wp2_with fail
  go_ret
  refine ⟨rfl, HB.out.trans ((below_drewN (Below.refl _ _) 1).trans (hb8.mono ?_))⟩
  exact hlz

end Go.Proofs.Ytkoefoccbjhoiaa
