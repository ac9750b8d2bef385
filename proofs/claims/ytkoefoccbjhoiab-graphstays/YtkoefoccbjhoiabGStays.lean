/-
  The walk of the statement GraphStays.
-/
import Derived.Test.YtkoefoccbjhoiabGOrders
import Derived.Test.YtkoefoccbjhoiabGLearn
import Derived.Test.YtkoefoccbjhoiabKSame
import Derived.Deep.WholeRow
set_option linter.unusedVariables false
set_option linter.unusedSimpArgs false
namespace Go.Proofs.Ytkoefoccbjhoiab
open Go.RowKit

/-- The cells of the graph in which m is known. -/
def learnV (gv : Nat → Value) (m : Nat) (v : Value) (o : Nat) : Value := if o = 32 + m then v else if o = m then .bool true else gv o
theorem learn_cells {B : Nat} {w : World} {gv : Nat → Value} {g : GraphL} {m : Nat} {a : Option Addr} {cap : Nat} {zs : List Int} (hm : m < 32) (h : GraphC B w gv g) (hz : IntsAt B w a zs) (hl : zs.length ≤ maxLen) : GraphC B w (learnV gv m (.slice a zs.length cap)) (g.learn m zs) := by
  refine ⟨fun i hi => ?_, fun i hi => ?_⟩
  · unfold learnV GraphL.learn upd
    rw [if_neg (by omega)]
    by_cases e : i = m
    · simp [e]
    · simp [e, h.known i hi]
  · by_cases e : i = m
    · subst e
      have ed : (g.learn i zs).deps i = zs := upd_same _ _ _
      rw [ed]
      exact ⟨a, cap, by unfold learnV; rw [if_pos rfl], hz, hl⟩
    · have ed : (g.learn m zs).deps i = g.deps i := upd_other _ _ e
      rw [ed]
      obtain ⟨a', cap', h1, h2, h3⟩ := h.deps i hi
      exact ⟨a', cap', by unfold learnV; rw [if_neg (by omega), if_neg (by omega)]; exact h1, h2, h3⟩

theorem graph_one {B : Nat} {w : World} {gv : Nat → Value} {g : GraphL} (h : GraphC B w gv g) : (rowF 64 gv).all (·.oneCell') = true := by
  rw [Array.all_eq_true_iff_forall_mem]
  intro v hv
  simp [rowF] at hv
  obtain ⟨i, hi, rfl⟩ := hv
  by_cases e : i < 32
  · rw [h.known i e]; rfl
  · obtain ⟨a, cap, h1, _⟩ := h.deps (i - 32) (by omega)
    rw [show i = 32 + (i - 32) by omega, h1]
    rfl
theorem ints_order_len (g : GraphL) (n : Int) : (ints (orderI g n)).length ≤ 32 := by
  rw [ints_len]
  unfold orderI
  split
  · exact (placed_at _ _ 32).len
  · simp

set_option maxRecDepth 100000 in
set_option maxHeartbeats 2000000 in
theorem stays_walk (gv : Nat → Value) (g : GraphL) (n m : Int) (a : Option Addr) (cap : Nat) (zs : List Int) (w : World) (hg : GraphC w.heap.size w gv g) (hl : zs.length ≤ maxLen) (hz : IntsAt w.heap.size w a zs) :
    Calls Try.prog 5 #[.agg (rowF 64 gv), .int .i64 n, .int .i64 m, .slice a zs.length cap] w fun e w' => e = .returned (.bool true) ∧ Below w.heap.size w w' := by
  obtain ⟨gr, hgr⟩ : ∃ gr, gr = rowF 64 gv := ⟨_, rfl⟩
  rw [← hgr]
  have hb0 : Below w.heap.size w (w.alloc (.cells gr 26)) := (Below.refl _ _).alloc (Nat.le_refl _) _
  have hz0 : (w.alloc (.cells gr 26)).heap.size = w.heap.size + 1 := size_push _ _
  have hbox : GBox w.heap.size (w.alloc (.cells gr 26)) gv g gr := ⟨heap_new _ _, hgr, (hg.later hb0).mono (by omega)⟩
  have hsg := hbox.size
  have HGR : Hid (gr = rowF 64 gv) := hgr
  clear hgr hg
  go_enter Try.func5, Try.ntmps5
  go_upto_region 1 with fail
  obtain ⟨W, hW⟩ : ∃ W, W = w.alloc (.cells gr 26) := ⟨_, rfl⟩
  rw [← hW] at hb0 hz0 hbox ⊢
  clear hW
  have hr0 := hbox.row
  have hrd := hbox.ready n
  have HBX : Hid (GBox w.heap.size W gv g gr) := hbox
  have HB0 : Hid (Below w.heap.size w W) := hb0
  have HZ0 : Hid (W.heap.size = w.heap.size + 1) := hz0
  have hlW : w.heap.size < W.heap.size := by omega
  clear hbox hb0 hz0
  by_cases m0 : m < 0
  · go_wp2_with (go_at_call 17; refine (keep_orders _).mono ?_; rintro e w9 ⟨rfl, hb9⟩)
    go_ret
    exact ⟨rfl, HB0.out.trans (hb9.mono (by omega))⟩
  · by_cases m1 : 32 ≤ m
    · go_wp2_with (go_at_call 17; refine (keep_orders _).mono ?_; rintro e w9 ⟨rfl, hb9⟩)
      go_ret
      exact ⟨rfl, HB0.out.trans (hb9.mono (by omega))⟩
    · obtain ⟨k, rfl⟩ := Int.eq_ofNat_of_zero_le (show 0 ≤ m by omega)
      have hk : k < 32 := by omega
      have k1 : (0 : Int) ≤ (k : Int) ∧ (k : Int) < 32 := by omega
      cases tr : readyI g n
      · rw [tr] at hrd
        go_wp2_with (first
          | (refine wpList_wanted (by rfl) fun K hK => wp_load_row 26 _ rfl w.heap.size rfl 26 gr (0, 0) _ hr0 Try.underlying26 rfl hsg (hK _ _ ?_))
          | (go_at_call 16; refine hrd.mono ?_; rintro e w1 ⟨rfl, hb1⟩)
          | (go_at_call 17; refine (keep_orders _).mono ?_; rintro e w9 ⟨rfl, hb9⟩))
        go_ret
        exact ⟨rfl, HB0.out.trans ((hb1.mono (by omega)).trans (hb9.mono (by have := hb1.size; omega)))⟩
      · rw [tr] at hrd
        go_wp2_with (first
          | (refine wpList_wanted (by rfl) fun K hK => wp_load_row 26 _ rfl w.heap.size rfl 26 gr (0, 0) _ hr0 Try.underlying26 rfl hsg (hK _ _ ?_)))
        refine hrd.mono ?_
        rintro e w1 ⟨rfl, hb1⟩
        have hbox1 := HBX.out.later hb1
        have hr1 := hbox1.row
        have hrc := hbox1.reach n
        have HBX1 : Hid (GBox w.heap.size w1 gv g gr) := hbox1
        have hs1 := hb1.size
        have HB1 : Hid (Below w.heap.size w w1) := HB0.out.trans (hb1.mono (by omega))
        have hix := fun wx => run_index_bools Try.underlying22 Try.underlying4 Try.infoBool (reachI g n) hk wx
        clear hrd hr0 hbox1 hb1
        cases tm : reachI g n k
        · rw [tm] at hix
          go_wp2_with (first
            | (refine wpList_wanted (by rfl) fun K hK => wp_load_row 26 _ rfl w.heap.size rfl 26 gr (0, 0) _ hr1 Try.underlying26 rfl hsg (hK _ _ ?_)))
          refine hrc.mono ?_
          rintro e w2 ⟨rfl, hb2⟩
          go_upto_region 3 with fail
          have hs2 := hb2.size
          have hbox2 := HBX1.out.later hb2
          have hr2 := hbox2.row
          have HB2 : Hid (Below w.heap.size w w2) := HB1.out.trans (hb2.mono (by omega))
          have hgs : gr.size = 64 := by rw [HGR.out, rowF_size]
          have hall : gr.all (·.oneCell') = true := by rw [HGR.out]; exact graph_one hbox2.lists
          have HBX2 : Hid (GBox w.heap.size w2 gv g gr) := hbox2
          have HTR : Hid (readyI g n = true) := tr
          have HTM : Hid (reachI g n k = false) := tm
          clear hrc hr1 hix hb2 hbox2 tr tm
          go_upto_region 4 with (first
            | (refine wpList_load_row rfl 26 _ rfl w.heap.size rfl 26 gr (0, 0) _ hr2 Try.underlying26 rfl hsg ?_)
            | (refine wpList_store_row rfl 26 _ _ rfl w2.heap.size gr rfl rfl 26 _ (heap_new _ _) hsg (by rw [hgs]; rfl) hall ?_))
          rw [World.setRow_alloc_new]
          obtain ⟨W3, hW3⟩ : ∃ W3, W3 = w2.alloc (.cells gr 26) := ⟨_, rfl⟩
          rw [← hW3]
          have hk3 : BlkAt 64 W3 w2.heap.size gv := ⟨26, by rw [hW3, ← HGR.out]; exact heap_new _ _⟩
          have hb3 : Below w2.heap.size w2 W3 := by rw [hW3]; exact (Below.refl _ _).alloc (Nat.le_refl _) _
          have hz3 : W3.heap.size = w2.heap.size + 1 := by rw [hW3]; exact size_push _ _
          have hbox3 : GBox w.heap.size W3 gv g gr := HBX2.out.later hb3
          have c1 : W3.cell? ⟨w2.heap.size, k, none⟩ = some (gv k) := BlkAt.cell hk3 (by omega)
          have c2 : W3.cell? ⟨w2.heap.size, 32 + k, none⟩ = some (gv (32 + k)) := BlkAt.cell hk3 (by omega)
          have f1 : W3.frozen? ⟨w2.heap.size, k, none⟩ = false := BlkAt.frozen hk3 _
          have f2 : W3.frozen? ⟨w2.heap.size, 32 + k, none⟩ = false := BlkAt.frozen hk3 _
          have hk4 := (hk3.put k (.bool true)).put (32 + k) (.slice a zs.length cap)
          have hb4 := (hb3.setCell (p := ⟨w2.heap.size, k, none⟩) (Nat.le_refl _) (.bool true)).setCell (p := ⟨w2.heap.size, 32 + k, none⟩) (Nat.le_refl _) (.slice a zs.length cap)
          have HZ3 : Hid (W3.heap.size = w2.heap.size + 1) := hz3
          clear hW3 hk3 hb3 hz3 hr2 hgs hall hbox3
          go_upto_region 5 with fail
          obtain ⟨W4, hW4⟩ : ∃ W4, W4 = (W3.setCell ⟨w2.heap.size, k, none⟩ (.bool true)).setCell ⟨w2.heap.size, 32 + k, none⟩ (.slice a zs.length cap) := ⟨_, rfl⟩
          have hz4 : W4.heap.size = w2.heap.size + 1 := by rw [hW4, ← HZ3.out]; simp [World.setCell]
          rw [← hW4] at hk4 hb4 ⊢
          clear hW4 c1 c2 f1 f2
          have hk5 : BlkAt 64 W4 w2.heap.size (learnV gv k (.slice a zs.length cap)) := hk4.congr (fun i _ => rfl)
          obtain ⟨t5, hrow5⟩ := hk5
          have hbW : Below w.heap.size w W4 := HB2.out.trans (hb4.mono (by omega))
          have hz4' : IntsAt W4.heap.size W4 a zs := (hz.later hbW).mono (by omega)
          have hboxA : GBox w.heap.size W4 gv g gr := ⟨by rw [hb4.block _ HBX2.out.lt]; exact HBX2.out.row, HBX2.out.eq, (HBX2.out.lists.later hb4).mono (by omega)⟩
          have hlistB : GraphC W4.heap.size W4 (learnV gv k (.slice a zs.length cap)) (g.learn k zs) := learn_cells hk hboxA.lists hz4' hl
          obtain ⟨gv2, hgv2⟩ : ∃ gv2, gv2 = learnV gv k (.slice a zs.length cap) := ⟨_, rfl⟩
          obtain ⟨g2, hg2⟩ : ∃ g2, g2 = g.learn k zs := ⟨_, rfl⟩
          rw [← hgv2] at hrow5 hlistB
          rw [← hg2] at hlistB
          obtain ⟨cs2, hcs2⟩ : ∃ cs2, cs2 = (rowF 64 gv2).toList := ⟨_, rfl⟩
          obtain ⟨cs, hcs⟩ : ∃ cs, cs = gr.toList := ⟨_, rfl⟩
          have hsz2 : (Try.prog.info? 26).map (·.size) = some cs2.length := by rw [hcs2, rowF_toList]; exact Try.infoGraph
          have hsz : (Try.prog.info? 26).map (·.size) = some cs.length := by rw [hcs, Array.length_toList]; exact hsg
          have hH0 : W4.rangeAt w2.heap.size 0 cs2 ∧ W4.rangeAt w.heap.size 0 cs := by
            refine ⟨by rw [hcs2]; exact row_range ⟨t5, hrow5⟩, ?_⟩
            rw [hcs, HGR.out]
            exact row_range ⟨26, by rw [← HGR.out]; exact hboxA.row⟩
          have ea : cs.toArray = gr := by rw [hcs]
          have ea2 : cs2.toArray = rowF 64 gv2 := by rw [hcs2]
          -- the mathematics
          have hmath : readyI g2 n = true ∧ orderI g2 n = orderI g n := by
            have h1 := HTR.out
            have h2 := HTM.out
            unfold readyI at h1
            rw [Bool.and_eq_true] at h1
            have hn : n.toNat < 32 := by have := h1.1; unfold txnB' at this; simp at this; omega
            unfold reachI at h2
            rw [h1.1, Bool.true_and] at h2
            have h3 := stays_math (zs := zs) hn h1.2 h2
            rw [← hg2] at h3
            have h4 : readyI g2 n = true := by unfold readyI; rw [h1.1, h3.1]; rfl
            refine ⟨h4, ?_⟩
            unfold orderI
            rw [h4, HTR.out]
            exact h3.2
          have HRd : Hid (∀ wx, Below W4.drew.heap.size W4.drew wx → Calls Try.prog 16 #[.agg cs2.toArray, .int .i64 n] wx fun e w' => e = .returned (.bool true) ∧ Below wx.heap.size wx w') := by
            intro wx hx
            rw [ea2, ← hmath.1]
            have hx' : Below W4.heap.size W4 wx := (below_drewN (Below.refl _ _) 1).trans hx
            exact ready_any gv2 g2 n wx ((hlistB.later hx').mono hx'.size)
          have HOr2 : Hid (∀ wx, Below W4.drew.heap.size W4.drew wx → Calls Try.prog 15 #[.agg cs2.toArray, .int .i64 n] wx fun e w' => ∃ v, e = .returned v ∧ w'.ownsRow wx.heap.size 3 1 v (ints (orderI g n)).length (intCells (ints (orderI g n))) ∧ Below wx.heap.size wx w') := by
            intro wx hx
            rw [ea2, ← hmath.2]
            have hx' : Below W4.heap.size W4 wx := (below_drewN (Below.refl _ _) 1).trans hx
            exact order_any gv2 g2 n wx ((hlistB.later hx').mono hx'.size)
          have HOr1 : Hid (∀ wx, Below W4.drew.heap.size W4.drew wx → Calls Try.prog 15 #[.agg cs.toArray, .int .i64 n] wx fun e w' => ∃ v, e = .returned v ∧ w'.ownsRow wx.heap.size 3 1 v (ints (orderI g n)).length (intCells (ints (orderI g n))) ∧ Below wx.heap.size wx w') := by
            intro wx hx
            rw [ea]
            have hx' : Below W4.heap.size W4 wx := (below_drewN (Below.refl _ _) 1).trans hx
            exact (hboxA.later hx').order n
          have HK : Hid (∀ wx, Below W4.drew.heap.size W4.drew wx → wx.rangeAt w2.heap.size 0 cs2 ∧ wx.rangeAt w.heap.size 0 cs) := by
            intro wx hx
            have hx' : Below W4.heap.size W4 wx := (below_drewN (Below.refl _ _) 1).trans hx
            exact ⟨range_later hH0.1 hx' (by omega), range_later hH0.2 hx' hboxA.lt⟩
          have HLn : Hid ((ints (orderI g n)).length ≤ maxLen) := by
            have := ints_order_len g n
            unfold Hid maxLen
            omega
          have HBW : Hid (Below w.heap.size w W4) := hbW
          have hlz : w.heap.size ≤ W4.heap.size := hbW.size
          clear hk4 hb4 hz4 hbW hz4' hboxA hlistB hrow5 hgv2 hg2 hcs2 hcs ea ea2 hmath
          refine wp_region_held_drew (S := fun w' => w'.rangeAt w2.heap.size 0 cs2 ∧ w'.rangeAt w.heap.size 0 cs) (by kernel_rfl) hH0 ?_
          intro hH
          refine wpAnyH_takeD (i := 0) (d := some 38) (v := .agg cs2.toArray) rfl rfl (by kernel_rfl) (by kernel_rfl) (by kernel_rfl) (fun _ _ _ h => h) (yieldsIf_load_mid (by rfl) _ _ rfl _ _ rfl cs2 _ (fun _ h => h.1) Try.underlying26 rfl hsz2) hH ?_
          simp only [Act.put, List.setIfInBounds_toArray, List.set_cons_zero, List.set_cons_succ]
          refine wpAnyH_takeD (i := 1) (d := some 39) (v := .int .i64 n) rfl rfl (by kernel_rfl) (by kernel_rfl) (by kernel_rfl) (fun _ _ _ h => h) (Or.inl ⟨by rfl, fun _ _ => by go_simp⟩) hH ?_
          simp only [Act.put, List.setIfInBounds_toArray, List.set_cons_zero, List.set_cons_succ]
          refine wpAnyH_ready (rs := [2]) (by kernel_rfl) (by simp) ?_
          refine AllReadyH.cons rfl (fun K hK => ?_) AllReadyH.nil
          go_simp
          refine (HRd.out _ (Below.refl _ _)).mono ?_
          rintro e w1 ⟨rfl, hb1⟩
          go_wp2_with fail
          refine hK.out _ _ (HK.out w1 hb1) (fun hH2 => ?_)
          clear hK K hH
          have hH := hH2
          clear hH2
          refine wpAnyH_takeD (i := 3) (d := some 41) (v := .bool true) rfl rfl (by kernel_rfl) (by kernel_rfl) (by kernel_rfl) (fun _ _ _ h => h) (Or.inl ⟨by rfl, fun _ _ => by go_simp⟩) hH ?_
          simp only [Act.put, List.setIfInBounds_toArray, List.set_cons_zero, List.set_cons_succ]
          refine wpAnyH_takeD (i := 4) (d := some 42) (v := .agg cs2.toArray) rfl rfl (by kernel_rfl) (by kernel_rfl) (by kernel_rfl) (fun _ _ _ h => h) (yieldsIf_load_mid (by rfl) _ _ rfl _ _ rfl cs2 _ (fun _ h => h.1) Try.underlying26 rfl hsz2) hH ?_
          simp only [Act.put, List.setIfInBounds_toArray, List.set_cons_zero, List.set_cons_succ]
          refine wpAnyH_takeD (i := 5) (d := some 43) (v := .int .i64 n) rfl rfl (by kernel_rfl) (by kernel_rfl) (by kernel_rfl) (fun _ _ _ h => h) (Or.inl ⟨by rfl, fun _ _ => by go_simp⟩) hH ?_
          simp only [Act.put, List.setIfInBounds_toArray, List.set_cons_zero, List.set_cons_succ]
          refine wpAnyH_takeD (i := 7) (d := some 45) (v := .agg cs.toArray) rfl rfl (by kernel_rfl) (by kernel_rfl) (by kernel_rfl) (fun _ _ _ h => h) (yieldsIf_load_mid (by rfl) _ _ rfl _ _ rfl cs _ (fun _ h => h.2) Try.underlying26 rfl hsz) hH ?_
          simp only [Act.put, List.setIfInBounds_toArray, List.set_cons_zero, List.set_cons_succ]
          refine wpAnyH_takeD (i := 8) (d := some 46) (v := .int .i64 n) rfl rfl (by kernel_rfl) (by kernel_rfl) (by kernel_rfl) (fun _ _ _ h => h) (Or.inl ⟨by rfl, fun _ _ => by go_simp⟩) hH ?_
          simp only [Act.put, List.setIfInBounds_toArray, List.set_cons_zero, List.set_cons_succ]
          refine wpAnyH_ready (rs := [6]) (by kernel_rfl) (by simp) ?_
          refine AllReadyH.cons rfl (fun K hK => ?_) AllReadyH.nil
          go_simp
          refine (HOr2.out w1 hb1).mono ?_
          rintro e w2 ⟨v1, rfl, ho1, hb2⟩
          have hb2 := hb1.trans (hb2.mono hb1.size)
          obtain ⟨a1, c1, hv1, _, _⟩ := own_form ho1
          obtain ⟨b1, d1, hx1, hi1⟩ := IntsAt.of_owns ho1
          rw [hv1] at hx1
          cases hx1
          rw [hv1]
          go_wp2_with fail
          refine hK.out _ _ (HK.out w2 hb2) (fun hH2 => ?_)
          clear hK K hH
          have hH := hH2
          clear hH2
          refine wpAnyH_ready (rs := [9]) (by kernel_rfl) (by simp) ?_
          refine AllReadyH.cons rfl (fun K hK => ?_) AllReadyH.nil
          go_simp
          refine (HOr1.out w2 hb2).mono ?_
          rintro e w3 ⟨v2, rfl, ho2, hb3⟩
          have hi1 := (hi1.later hb3).mono hb3.size
          have hb3 := hb2.trans (hb3.mono hb2.size)
          obtain ⟨a2, c2, hv2, _, _⟩ := own_form ho2
          obtain ⟨b2, d2, hx2, hi2⟩ := IntsAt.of_owns ho2
          rw [hv2] at hx2
          cases hx2
          rw [hv2]
          go_wp2_with fail
          refine hK.out _ _ (HK.out w3 hb3) (fun hH2 => ?_)
          clear hK K hH
          have hH := hH2
          clear hH2
          refine wpAnyH_ready (rs := [10]) (by kernel_rfl) (by simp) ?_
          refine AllReadyH.cons rfl (fun K hK => ?_) AllReadyH.nil
          go_simp
          refine (keep_same_any a1 c1 (ints (orderI g n)) a2 c2 w3 HLn.out hi1 hi2).mono ?_
          rintro e w4 ⟨rfl, hb4⟩
          have hb4 := hb3.trans (hb4.mono hb3.size)
          go_wp2_with fail
          refine hK.out _ _ (HK.out w4 hb4) (fun hH2 => ?_)
          clear hK K hH
          have hH := hH2
          clear hH2
          refine wpAnyH_takeD (i := 11) (d := some 49) (v := .bool true) rfl rfl (by kernel_rfl) (by kernel_rfl) (by kernel_rfl) (fun _ _ _ h => h) (Or.inl ⟨by rfl, fun _ _ => by go_simp⟩) hH ?_
          simp only [Act.put, List.setIfInBounds_toArray, List.set_cons_zero, List.set_cons_succ]
          refine wpAnyH_takeD (i := 12) (d := some 50) (v := .bool true) rfl rfl (by kernel_rfl) (by kernel_rfl) (by kernel_rfl) (fun _ _ _ h => h) (Or.inl ⟨by rfl, fun _ _ => by go_simp⟩) hH ?_
          simp only [Act.put, List.setIfInBounds_toArray, List.set_cons_zero, List.set_cons_succ]
          refine wpAnyH_ready (rs := [13]) (by kernel_rfl) (by simp) ?_
          refine AllReadyH.cons rfl (fun K hK => ?_) AllReadyH.nil
          go_simp
          refine (keep_orders w4).mono ?_
          rintro e w5 ⟨rfl, hb5⟩
          have hb5 := hb4.trans (hb5.mono hb4.size)
          go_wp2_with fail
          refine hK.out _ _ (HK.out w5 hb5) (fun hH2 => ?_)
          clear hK K hH
          have hH := hH2
          clear hH2
          refine wpAnyH_takeD (i := 14) (d := some 52) (v := .bool true) rfl rfl (by kernel_rfl) (by kernel_rfl) (by kernel_rfl) (fun _ _ _ h => h) (Or.inl ⟨by rfl, fun _ _ => by go_simp⟩) hH ?_
          simp only [Act.put, List.setIfInBounds_toArray, List.set_cons_zero, List.set_cons_succ]
          refine wpAnyH_takeD (i := 15) (d := some 8) (v := .bool true) rfl rfl (by kernel_rfl) (by kernel_rfl) (by kernel_rfl) (fun _ _ _ h => h) (Or.inl ⟨by rfl, fun _ _ => by go_simp⟩) hH ?_
          simp only [Act.put, List.setIfInBounds_toArray, List.set_cons_zero, List.set_cons_succ]
          refine wpAnyH_done (by kernel_rfl) ?_ _
          go_wp2_with fail
          go_ret
          refine ⟨rfl, HBW.out.trans ((below_drewN (Below.refl _ _) 1).trans (hb5.mono ?_))⟩
          exact hlz
        · rw [tm] at hix
          go_wp2_with (first
            | (refine wpList_wanted (by rfl) fun K hK => wp_load_row 26 _ rfl w.heap.size rfl 26 gr (0, 0) _ hr1 Try.underlying26 rfl hsg (hK _ _ ?_))
            | (go_at_call 18; refine hrc.mono ?_; rintro e w2 ⟨rfl, hb2⟩)
            | (go_at_call 17; refine (keep_orders _).mono ?_; rintro e w9 ⟨rfl, hb9⟩))
          go_ret
          exact ⟨rfl, HB1.out.trans ((hb2.mono (by omega)).trans (hb9.mono (by have := hb2.size; omega)))⟩

end Go.Proofs.Ytkoefoccbjhoiab
