/-
  The contract of package graph's Order.
-/
import Derived.Test.YtkoefoccbjhoiaaGOrdL
set_option linter.unusedVariables false
set_option linter.unusedSimpArgs false
namespace Go.Proofs.Ytkoefoccbjhoiaa
open Go.RowKit

def lenOf : Value → Nat
  | .slice _ n _ => n
  | _ => 0

/-- The search's end, from n on. -/
def endOf (g : GraphL) (n : Nat) : St := visitL g.adj 32 St.none n
theorem end_turn (g : GraphL) {n : Nat} (hn : n < 32) (i : Nat) : (endOf g n).turn i ≤ 32 := by
  obtain ⟨⟨ext, P⟩, _⟩ := visit_post g.adj_lt 32 St.none n (pre_none g.adj hn) (by simp [St.none])
  have h1 := P.inv.le i
  have h2 := P.inv.all
  unfold endOf
  omega
def orderNat (g : GraphL) (n : Nat) : List Nat := orderN (endOf g n).reach (endOf g n).turn
/-- The order of n: nothing, if it is not ready. -/
def orderI (g : GraphL) (n : Int) : List Nat := if readyI g n then orderNat g n.toNat else []

theorem known_use2 (gv : Nat → Value) (g : GraphL) (S : Nat → Bool) (B c o : Nat) (w : World) (hB : B < w.heap.size) (hc : c < w.heap.size) (hg : GraphC B w gv g) (cs rs : List Value) (hcs : cs.toArray = rowF 64 gv) (hrs : rs.toArray = bools 32 S) (h : w.rangeAt B 0 cs ∧ w.rangeAt c o rs) :
    Calls Try.prog 87 #[.agg cs.toArray, .agg rs.toArray] w fun e w' => e = .returned (.bool (knowsB g S 32)) ∧ (w'.rangeAt B 0 cs ∧ w'.rangeAt c o rs) ∧ Below w.heap.size w w' := by
  rw [hcs, hrs]
  refine (allKnown_any gv g B S w hg).mono ?_
  rintro e w' ⟨rfl, hb⟩
  exact ⟨rfl, ⟨range_later h.1 hb hB, range_later h.2 hb hc⟩, hb⟩

theorem ints_append (a b : List Nat) : ints (a ++ b) = ints a ++ ints b := by simp [ints]
theorem cells_append (a b : List Int) : intCells (a ++ b) = intCells a ++ intCells b := by simp [intCells]
theorem Own.join {w : World} {c : Nat} {v : Value} {a b : List Nat} (h : w.ownsRow (c + 1) 3 1 v ((ints a).length + (ints b).length) (intCells (ints a) ++ intCells (ints b))) : Own w c v (a ++ b) := by
  unfold Own
  rw [ints_append, cells_append, List.length_append]
  exact h
theorem contains_snoc {l : List Nat} {k : Nat} (hk : k < l.length) (i : Nat) : (l.take (k + 1)).contains i = ((l.take k).contains i || i == l.getD k 0) := by
  rw [take_snoc hk, Bool.eq_iff_iff]
  simp
theorem own_later {w w' : World} {base : Nat} {e : TypeId} {size : Nat} {v : Value} {n : Nat} {xs : List Value} (h : w.ownsRow base e size v n xs) (hb : Below w.heap.size w w') : w'.ownsRow base e size v n xs :=
  World.ownsRow.kept h (below_grown hb none) (by
    cases v.ownBlock with
    | none => exact Or.inl rfl
    | some k => exact Or.inr (by simp))

set_option maxRecDepth 100000 in
set_option maxHeartbeats 2000000 in
theorem order_any (gv : Nat → Value) (g : GraphL) (n : Int) (w : World) (hg : GraphC w.heap.size w gv g) :
    Calls Try.prog 60 #[.agg (rowF 64 gv), .int .i64 n] w fun e w' => ∃ v, e = .returned v ∧ w'.ownsRow w.heap.size 3 1 v (ints (orderI g n)).length (intCells (ints (orderI g n))) ∧ Below w.heap.size w w' := by
  obtain ⟨gr, hgr⟩ : ∃ gr, gr = rowF 64 gv := ⟨_, rfl⟩
  obtain ⟨cs, hcs⟩ : ∃ cs, cs = (rowF 64 gv).toList := ⟨_, rfl⟩
  rw [← hgr]
  have hsg := Try.sizeGraph gv
  rw [← hgr] at hsg
  have hb : Below w.heap.size w (w.alloc (.cells gr 63)) := (Below.refl _ _).alloc (Nat.le_refl _) _
  have hr1 : (w.alloc (.cells gr 63)).heap[w.heap.size]? = some (.cells gr 63 (0, 0)) := heap_new _ _
  have hc0 : (w.alloc (.cells gr 63)).rangeAt w.heap.size 0 cs := by
    rw [hcs]
    exact row_range ⟨63, by rw [← hgr]; exact heap_new _ _⟩
  have hz : (w.alloc (.cells gr 63)).heap.size = w.heap.size + 1 := size_push _ _
  have hsz : (Try.prog.info? 63).map (·.size) = some cs.length := by rw [hcs, rowF_toList]; exact Try.infoGraph
  have HCS : Hid (cs.toArray = rowF 64 gv) := by unfold Hid; rw [hcs]
  have HGR : Hid (gr = rowF 64 gv) := hgr
  clear hgr hcs
  by_cases ht : 0 ≤ n ∧ n < 32
  · obtain ⟨m, rfl⟩ := Int.eq_ofNat_of_zero_le ht.1
    have hm : m < 32 := by omega
    have tb : txnB' (m : Int) = true := by simp [txnB']; omega
    have m1 : (0 : Int) ≤ (m : Int) ∧ (m : Int) < 32 := ht
    have ER : Hid (readyI g (m : Int) = knowsB g (hangB g m) 32) := by
      unfold Hid readyI
      rw [tb]
      rfl
    go_enter Try.func60, Try.ntmps60
    go_upto_region 1 with fail
    obtain ⟨W, hW⟩ : ∃ W, W = w.alloc (.cells gr 63) := ⟨_, rfl⟩
    rw [← hW] at hc0 hb hz hr1 ⊢
    have hse := searchFrom_any gv g m W hm ((hg.later hb).mono (by omega))
    rw [← HGR.out] at hse
    clear hW
    go_wp2_with (first
      | (go_at_call 84; refine (g_isTxn _ _).mono ?_; rintro e w' ⟨rfl, rfl⟩)
      | (refine wpList_load_row rfl 63 _ rfl w.heap.size rfl 63 gr (0, 0) _ hr1 Try.underlying63 rfl hsg ?_))
    refine hse.mono ?_
    rintro e w1 ⟨c, sv, rfl, hcc, hS, hb1⟩
    go_upto_region 4 with fail
    have hw1 := hb1.size
    have hbw1 : Below w.heap.size w w1 := hb.trans (hb1.mono (by omega))
    have hcl := hS.lt
    obtain ⟨rs, hrs⟩ : ∃ rs, rs = (bools 32 ((visitL g.adj 32 St.none m).reach m)).toList := ⟨_, rfl⟩
    have hH0 : w1.rangeAt w.heap.size 0 cs ∧ w1.rangeAt c (162 + m * 32) rs := ⟨range_later hc0 hb1 (by omega), by rw [hrs]; exact hS.row hm⟩
    have z1 : (Try.prog.info? 60).map (·.size) = some rs.length := by rw [hrs]; exact Try.sizeSet _
    have hkn := known_use2 gv g (hangB g m) w.heap.size c (162 + m * 32) w1.drew (by show w.heap.size < w1.heap.size; omega) hcl (hg.later (Below.drew hbw1)) cs rs HCS.out (by rw [hrs]; simp; rfl) hH0
    have HS : Hid (StAt w1 c gv (endOf g m) sv) := hS
    have HB1 : Hid (Below w.heap.size w w1) := hbw1
    have HW1 : Hid (w.heap.size < c ∧ c < w1.heap.size) := ⟨by omega, hcl⟩
    clear hS hrs hse hb1 hb hr1 hc0 hg
    cases hrd : knowsB g (hangB g m) 32
    · rw [hrd] at hkn
      have EO : Hid (orderI g (m : Int) = []) := by unfold Hid orderI; rw [ER.out, hrd]; rfl
      refine wp_region_held_drew (S := fun w' => w'.rangeAt w.heap.size 0 cs ∧ w'.rangeAt c (162 + m * 32) rs) (by kernel_rfl) hH0 ?_
      intro hH
      refine wpAnyH_takeD (i := 0) (d := some 17) (v := .agg cs.toArray) rfl rfl (by kernel_rfl) (by kernel_rfl) (by kernel_rfl) (fun _ _ _ h => h) (yieldsIf_load_mid (by rfl) _ _ rfl _ _ rfl cs _ (fun _ h => h.1) Try.underlying63 rfl hsz) hH ?_
      simp only [Act.put, List.setIfInBounds_toArray, List.set_cons_zero, List.set_cons_succ]
      refine wpAnyH_takeD (i := 1) (d := some 18) (v := .pointer (some ⟨c, 0, none⟩)) rfl rfl (by kernel_rfl) (by kernel_rfl) (by kernel_rfl) (fun _ _ _ h => h) (Or.inl ⟨by rfl, fun _ _ => by go_simp⟩) hH ?_
      simp only [Act.put, List.setIfInBounds_toArray, List.set_cons_zero, List.set_cons_succ]
      refine wpAnyH_takeD (i := 2) (d := some 19) (v := .int .i64 m) rfl rfl (by kernel_rfl) (by kernel_rfl) (by kernel_rfl) (fun _ _ _ h => h) (Or.inl ⟨by rfl, fun _ _ => by go_simp⟩) hH ?_
      simp only [Act.put, List.setIfInBounds_toArray, List.set_cons_zero, List.set_cons_succ]
      refine wpAnyH_takeD (i := 3) (d := some 20) (v := .pointer (some ⟨c, 0, none⟩)) rfl rfl (by kernel_rfl) (by kernel_rfl) (by kernel_rfl) (fun _ _ _ h => h) (Or.inl ⟨by rfl, fun _ _ => by go_simp⟩) hH ?_
      simp only [Act.put, List.setIfInBounds_toArray, List.set_cons_zero, List.set_cons_succ]
      refine wpAnyH_takeD (i := 4) (d := some 21) (v := .pointer (some ⟨c, 162, none⟩)) rfl rfl (by kernel_rfl) (by kernel_rfl) (by kernel_rfl) (fun _ _ _ h => h) (Or.inl ⟨by rfl, fun _ _ => by go_simp⟩) hH ?_
      simp only [Act.put, List.setIfInBounds_toArray, List.set_cons_zero, List.set_cons_succ]
      refine wpAnyH_takeD (i := 5) (d := some 22) (v := .pointer (some ⟨c, 162 + m * 32, none⟩)) rfl rfl (by kernel_rfl) (by kernel_rfl) (by kernel_rfl) (fun _ _ _ h => h) (Or.inl ⟨by rfl, fun _ _ => by go_simp⟩) hH ?_
      simp only [Act.put, List.setIfInBounds_toArray, List.set_cons_zero, List.set_cons_succ]
      refine wpAnyH_takeD (i := 6) (d := some 23) (v := .agg rs.toArray) rfl rfl (by kernel_rfl) (by kernel_rfl) (by kernel_rfl) (fun _ _ _ h => h) (yieldsIf_load_mid (by rfl) _ _ rfl _ _ rfl rs _ (fun _ h => h.2) Try.underlying60 rfl z1) hH ?_
      simp only [Act.put, List.setIfInBounds_toArray, List.set_cons_zero, List.set_cons_succ]
      refine wpAnyH_ready (rs := [7]) (by kernel_rfl) (by simp) ?_
      refine AllReadyH.cons rfl (fun K hK => ?_) AllReadyH.nil
      go_simp
      refine (hkn).mono ?_
      rintro e w2 ⟨rfl, hc2, hb2⟩
      go_wp2_with fail
      refine hK.out _ _ (hc2) (fun hH2 => ?_)
      clear hK K hH
      have hH := hH2
      clear hH2
      refine wpAnyH_takeD (i := 8) (d := some 25) (v := .bool true) rfl rfl (by kernel_rfl) (by kernel_rfl) (by kernel_rfl) (fun _ _ _ h => h) (Or.inl ⟨by rfl, fun _ _ => by go_simp⟩) hH ?_
      simp only [Act.put, List.setIfInBounds_toArray, List.set_cons_zero, List.set_cons_succ]
      refine wpAnyH_done (by kernel_rfl) ?_ _
      go_wp2_with fail
      go_ret
      refine ⟨_, rfl, by rw [EO.out]; exact World.ownsRow_nil _ _ _ _, HB1.out.trans ((below_drewN (Below.refl _ _) 1).trans (hb2.mono ?_))⟩
      have := HW1.out
      show w.heap.size ≤ w1.heap.size
      omega
    · rw [hrd] at hkn
      have EO : Hid (orderI g (m : Int) = orderN (endOf g m).reach (endOf g m).turn) := by unfold Hid orderI; rw [ER.out, hrd]; rfl
      refine wp_region_held_drew (S := fun w' => w'.rangeAt w.heap.size 0 cs ∧ w'.rangeAt c (162 + m * 32) rs) (by kernel_rfl) hH0 ?_
      intro hH
      refine wpAnyH_takeD (i := 0) (d := some 17) (v := .agg cs.toArray) rfl rfl (by kernel_rfl) (by kernel_rfl) (by kernel_rfl) (fun _ _ _ h => h) (yieldsIf_load_mid (by rfl) _ _ rfl _ _ rfl cs _ (fun _ h => h.1) Try.underlying63 rfl hsz) hH ?_
      simp only [Act.put, List.setIfInBounds_toArray, List.set_cons_zero, List.set_cons_succ]
      refine wpAnyH_takeD (i := 1) (d := some 18) (v := .pointer (some ⟨c, 0, none⟩)) rfl rfl (by kernel_rfl) (by kernel_rfl) (by kernel_rfl) (fun _ _ _ h => h) (Or.inl ⟨by rfl, fun _ _ => by go_simp⟩) hH ?_
      simp only [Act.put, List.setIfInBounds_toArray, List.set_cons_zero, List.set_cons_succ]
      refine wpAnyH_takeD (i := 2) (d := some 19) (v := .int .i64 m) rfl rfl (by kernel_rfl) (by kernel_rfl) (by kernel_rfl) (fun _ _ _ h => h) (Or.inl ⟨by rfl, fun _ _ => by go_simp⟩) hH ?_
      simp only [Act.put, List.setIfInBounds_toArray, List.set_cons_zero, List.set_cons_succ]
      refine wpAnyH_takeD (i := 3) (d := some 20) (v := .pointer (some ⟨c, 0, none⟩)) rfl rfl (by kernel_rfl) (by kernel_rfl) (by kernel_rfl) (fun _ _ _ h => h) (Or.inl ⟨by rfl, fun _ _ => by go_simp⟩) hH ?_
      simp only [Act.put, List.setIfInBounds_toArray, List.set_cons_zero, List.set_cons_succ]
      refine wpAnyH_takeD (i := 4) (d := some 21) (v := .pointer (some ⟨c, 162, none⟩)) rfl rfl (by kernel_rfl) (by kernel_rfl) (by kernel_rfl) (fun _ _ _ h => h) (Or.inl ⟨by rfl, fun _ _ => by go_simp⟩) hH ?_
      simp only [Act.put, List.setIfInBounds_toArray, List.set_cons_zero, List.set_cons_succ]
      refine wpAnyH_takeD (i := 5) (d := some 22) (v := .pointer (some ⟨c, 162 + m * 32, none⟩)) rfl rfl (by kernel_rfl) (by kernel_rfl) (by kernel_rfl) (fun _ _ _ h => h) (Or.inl ⟨by rfl, fun _ _ => by go_simp⟩) hH ?_
      simp only [Act.put, List.setIfInBounds_toArray, List.set_cons_zero, List.set_cons_succ]
      refine wpAnyH_takeD (i := 6) (d := some 23) (v := .agg rs.toArray) rfl rfl (by kernel_rfl) (by kernel_rfl) (by kernel_rfl) (fun _ _ _ h => h) (yieldsIf_load_mid (by rfl) _ _ rfl _ _ rfl rs _ (fun _ h => h.2) Try.underlying60 rfl z1) hH ?_
      simp only [Act.put, List.setIfInBounds_toArray, List.set_cons_zero, List.set_cons_succ]
      refine wpAnyH_ready (rs := [7]) (by kernel_rfl) (by simp) ?_
      refine AllReadyH.cons rfl (fun K hK => ?_) AllReadyH.nil
      go_simp
      refine (hkn).mono ?_
      rintro e w2 ⟨rfl, hc2, hb2⟩
      go_wp2_with fail
      refine hK.out _ _ (hc2) (fun hH2 => ?_)
      clear hK K hH
      have hH := hH2
      clear hH2
      refine wpAnyH_takeD (i := 8) (d := some 25) (v := .bool false) rfl rfl (by kernel_rfl) (by kernel_rfl) (by kernel_rfl) (fun _ _ _ h => h) (Or.inl ⟨by rfl, fun _ _ => by go_simp⟩) hH ?_
      simp only [Act.put, List.setIfInBounds_toArray, List.set_cons_zero, List.set_cons_succ]
      refine wpAnyH_done (by kernel_rfl) ?_ _
      -- SECOND HALF
      have HW2 : Hid (w1.heap.size ≤ w2.heap.size) := hb2.size
      have HB2 : Hid (Below w1.heap.size w1 w2) := (below_drewN (Below.refl _ _) 1).trans hb2
      clear hb2 hc2 hH hkn hH0 z1 hsz hsg
      obtain ⟨F, hF⟩ : ∃ F, F = endOf g m := ⟨_, rfl⟩
      have HT : Hid (∀ i, F.turn i ≤ 32) := by unfold Hid; rw [hF]; exact end_turn g hm
      rw [← hF] at HS EO
      clear hF
      go_upto_region 8 with fail
      rw [← Try.zero60]
      obtain ⟨W3, hW3⟩ : ∃ W3, W3 = w2.alloc (.cells (bools 32 fun _ => false) 60) := ⟨_, rfl⟩
      have hp3 : W3.heap[w2.heap.size]? = some (.cells (bools 32 fun i => (outAt F.reach F.turn 0).contains i) 60 (0, 0)) := by rw [hW3]; exact heap_new _ _
      have hb3 : Below w2.heap.size w2 W3 := by rw [hW3]; exact (Below.refl _ _).alloc (Nat.le_refl _) _
      have hz3 : W3.heap.size = w2.heap.size + 1 := by rw [hW3]; exact size_push _ _
      rw [← hW3]
      have hx := HW1.out
      have hx2 := HW2.out
      have HP : Hid (w.heap.size < w2.heap.size ∧ c < w2.heap.size) := ⟨by omega, by omega⟩
      have hS2 : StAt w2 c gv F sv := HS.out.later HB2.out hx.2
      have HS2 : Hid (StAt w2 c gv F sv) := hS2
      have HBW : Hid (Below w.heap.size w w2) := HB1.out.trans (HB2.out.mono (by omega))
      have hnx := next_any c gv F sv (fun i => (outAt F.reach F.turn 0).contains i) W3 (hS2.later hb3 (by omega)) HT.out
      have HB3 : Hid (Below w2.heap.size w2 W3) := hb3
      have HZ3 : Hid (W3.heap.size = w2.heap.size + 1) := hz3
      clear hW3 hx hx2 hb3 hz3 hS2 HB1 HB2 HS HW1 HW2
      go_wp2_with (first
        | (refine wpList_load_row rfl 60 _ rfl w2.heap.size rfl 60 (bools 32 fun i => (outAt F.reach F.turn 0).contains i) (0, 0) _ hp3 Try.underlying60 rfl (Try.sizeSet' _) ?_))
      refine hnx.mono ?_
      rintro e w4 ⟨v8, rfl, ho8, hb4⟩
      have hz3 := HZ3.out
      have hb5 : Below w2.heap.size w2 w4 := HB3.out.trans (hb4.mono (by omega))
      have hp4 : SetAt 32 w4 w2.heap.size (fun i => (outAt F.reach F.turn 0).contains i) := ⟨60, by rw [hb4.block _ (by omega)]; exact hp3⟩
      have ho9 : Own w4 w2.heap.size v8 (nextL F.reach F.turn fun i => (outAt F.reach F.turn 0).contains i) := own_mono ho8 (by omega)
      clear hnx hp3 ho8 hb4 hz3 HB3 HZ3
      go_wp2_with fail
      go_loopw [7, 8] (fun v7 v8 wr => ∃ j : Nat, j ≤ (outAt F.reach F.turn j).length ∧ Own wr w2.heap.size v7 (outAt F.reach F.turn j) ∧ Own wr w2.heap.size v8 (nextL F.reach F.turn fun i => (outAt F.reach F.turn j).contains i) ∧ SetAt 32 wr w2.heap.size (fun i => (outAt F.reach F.turn j).contains i) ∧ Below w2.heap.size w2 wr) (fun v7 _ _ => 32 - lenOf v7)
      case atStart => exact ⟨0, Nat.zero_le _, World.ownsRow_nil _ _ _ _, ho9, hp4, hb5⟩
      case round =>
        obtain ⟨j, hj, ho7, ho8, hP, hBr⟩ := hrel
        clear ho9 hp4 hb5
        obtain ⟨wo, hwo⟩ : ∃ wo, wo = wr := ⟨_, rfl⟩
        subst hwo
        have HJ : Hid (outAt F.reach F.turn (j + 1) = outAt F.reach F.turn j ++ nextL F.reach F.turn fun i => (outAt F.reach F.turn j).contains i) := rfl
        have HL : Hid ((outAt F.reach F.turn (j + 1)).length ≤ 32) := (placed_at F.reach F.turn (j + 1)).len
        have HLt : Hid (∀ x ∈ outAt F.reach F.turn (j + 1), x < 32) := (placed_at F.reach F.turn (j + 1)).lt
        have HOA : Hid (nextL F.reach F.turn (fun i => (outAt F.reach F.turn j).contains i) = [] → orderN F.reach F.turn = outAt F.reach F.turn j) := order_at hj
        have HJJ : Hid (j ≤ (outAt F.reach F.turn j).length) := hj
        obtain ⟨out, hout⟩ : ∃ out, out = outAt F.reach F.turn j := ⟨_, rfl⟩
        rw [← hout] at ho7 ho8 hP HJ HOA HJJ
        obtain ⟨ring, hring⟩ : ∃ ring, ring = nextL F.reach F.turn (fun i => out.contains i) := ⟨_, rfl⟩
        rw [← hring] at ho8 HJ HOA
        clear hout hring hj
        by_cases hr : ring = []
        · have hl0 : (ints ring).length = 0 := by rw [hr]; rfl
          obtain ⟨a8, cap8, hv8, _, _⟩ := own_form ho8
          have HO7 : Hid (Own wo w2.heap.size u7 out) := ho7
          rw [hl0] at hv8
          have E : Hid (orderI g (m : Int) = out) := EO.out.trans (HOA.out hr)
          rw [hv8]
          clear ho7 ho8 hl0 hv8 hr
          go_wp2_with fail
          go_ret
          refine ⟨_, rfl, by rw [E.out]; exact own_mono HO7.out (by have := HP.out; omega), HBW.out.trans (hBr.mono (by have := HP.out; omega))⟩
        · have hlr : 0 < ring.length := List.length_pos_iff.2 hr
          obtain ⟨g8, cap8, hv8, hg8, hcap8, hmax8, hgl8, hcell8⟩ := ho8.form hlr
          obtain ⟨a7, cap7, hv7, _, _⟩ := own_form ho7
          have hlen1 := HL.out
          rw [HJ.out, List.length_append] at hlen1
          have hil : (ints ring).length = ring.length := ints_len ring
          have hlp : (0 : Int) < ((ints ring).length : Int) := by omega
          have hl32 : (ints ring).length ≤ 32 := by omega
          have HR32 : Hid (∀ x ∈ ring, x < 32) := fun x hx => HLt.out x (by rw [HJ.out]; exact List.mem_append_right _ hx)
          have HC8 : Hid (∀ i, i < (ints ring).length → wo.cell? ⟨g8, i, none⟩ = some (.int .i64 ((ints ring).getD i 0))) := hcell8
          have HO7 : Hid (Own wo w2.heap.size u7 out) := ho7
          have HBr : Hid (Below w2.heap.size w2 wo) := hBr
          have HIL : Hid ((ints ring).length = ring.length) := hil
          have HL1 : Hid (out.length + ring.length ≤ 32) := hlen1
          have HV7 : Hid (u7 = .slice a7 (ints out).length cap7) := hv7
          have HO8 : Hid (Own wo w2.heap.size u8 ring) := ho8
          rw [hv8]
          have HV8 : Hid (u8 = .slice (some ⟨g8, 0, none⟩) (ints ring).length cap8) := hv8
          clear hcell8 ho7 ho8 hBr hil hlen1 hv7 hv8 hr
          go_wp2_with fail
          go_loopw [37] (fun i wr => ∃ k : Nat, k ≤ (ints ring).length ∧ i = .int .i64 k ∧ SetAt 32 wr w2.heap.size (fun i => out.contains i || (ring.take k).contains i) ∧ wo.grownBy wr (some w2.heap.size)) (fun i _ => (ints ring).length - (intOf i).toNat)
          case atStart => exact ⟨0, Nat.zero_le _, rfl, hP.congr (by simp), World.grownBy.refl _ _⟩
          case round =>
            obtain ⟨k, hk, rfl, hS, hG⟩ := hrel
            by_cases hlt : k < (ints ring).length
            · obtain ⟨x, Hx⟩ : ∃ x : Nat, Hid (ring.getD k 0 = x) := ⟨_, rfl⟩
              have hkr : k < ring.length := by have := HIL.out; omega
              have hx32 : x < 32 := by
                have : ring.getD k 0 ∈ ring := by
                  rw [List.getD, List.getElem?_eq_getElem hkr]
                  exact List.getElem_mem hkr
                rw [← Hx.out]
                exact HR32.out _ this
              have e0 : wr.cell? ⟨g8, k, none⟩ = some (.int .i64 x) := by
                rw [World.grownBy.cell hG (HC8.out k hlt) (by simp; omega), ints_get _ hkr, Hx.out]
              have x1 : (0 : Int) ≤ (x : Int) ∧ (x : Int) < 32 := by omega
              have f0 := hS.cell hx32
              have f1 := hS.frozen x
              have HSx : Hid (SetAt 32 wr w2.heap.size (fun i => out.contains i || (ring.take k).contains i)) := hS
              have HGx : Hid (wo.grownBy wr (some w2.heap.size)) := hG
              clear hS hG hP
              go_wp2_with fail
              go_roundw
              case rel =>
                refine ⟨k + 1, by omega, by go_num, (HSx.out.put x true).congr (fun i _ => ?_), grown_put_same HGx.out _ _⟩
                rw [contains_snoc hkr, Hx.out]
                by_cases e : i = x
                · subst e; simp
                · have : (i == x) = false := by simpa using e
                  rw [if_neg e, this, Bool.or_false]
              case measure => simp [intOf]; omega
            · have hS1 : SetAt 32 wr w2.heap.size (fun i => (outAt F.reach F.turn (j + 1)).contains i) := hS.congr (fun i _ => by
                rw [HJ.out, List.contains_append, List.take_of_length_le (by have := HIL.out; omega)])
              obtain ⟨tP, hP1⟩ := hS1
              have hPlt : w2.heap.size < wr.heap.size := SetAt.lt ⟨tP, hP1⟩
              have ho7 : Own wr w2.heap.size u7 out := HO7.out.kept hG
              have ho7R : wr.ownsRow (w2.heap.size + 1) 3 1 u7 (ints out).length (intCells (ints out)) := ho7
              obtain ⟨i0, hi, hz0, hz1, hz2⟩ := info_parts Try.infoInt
              have HCr : Hid (∀ i, i < (ints ring).length → wr.cell? ⟨g8, i, none⟩ = some (.int .i64 ((ints ring).getD i 0))) := fun i hi => World.grownBy.cell hG (HC8.out i hi) (by simp; omega)
              have hil2 : (ints out).length = out.length := ints_len out
              have HIO : Hid ((ints out).length = out.length) := hil2
              have hob : (ints out).length + (ints ring).length ≤ 32 := by have := HIL.out; have := HL1.out; omega
              have HGr : Hid (wo.grownBy wr (some w2.heap.size)) := hG
              clear hS hG hP hil2
              go_wp2_with (first
                | (at_builtin; refine wpList_append_own _ rfl _ _ 32 rfl (w2.heap.size + 1) 3 i0 (.int .i64 0) 1 8 Try.underlying32 hi hz0 hz1 hz2 rfl (by decide) _ _ _ rfl ho7R ⟨g8, 0, none⟩ (ints ring).length cap8 (intCells (ints ring)) rfl ?hl ?c1 ?c2 ?c3 ?c4 ?c5 ?_)
                | go_in)
              case hl => simp [intCells]
              case c1 =>
                intro q u hq
                have hql : q < (ints ring).length := by
                  have := (List.getElem?_eq_some_iff.1 hq).1
                  simpa [intCells] using this
                rw [Addr.add_mid, Nat.zero_add, HCr.out q hql]
                simp [intCells, hql] at hq
                simp [List.getD, hql, hq]
              case c2 =>
                intro u hu
                simp [intCells] at hu
                obtain ⟨_, _, rfl⟩ := hu
                rfl
              case c3 => unfold maxLen; omega
              case c4 => omega
              case c5 => omega
              intro v7 w5 hown' hgrow _
              have hn7 : some w2.heap.size ≠ u7.ownBlock := ho7.notC
              have hP5 : w5.heap[w2.heap.size]? = some (.cells (bools 32 fun i => (outAt F.reach F.turn (j + 1)).contains i) tP (0, 0)) := by rw [hgrow.block _ hPlt hn7]; exact hP1
              have ho5 : Own w5 w2.heap.size v7 (out ++ ring) := Own.join hown'
              obtain ⟨a9, cap9, hv9, _, _⟩ := own_form hown'
              have HV9 : Hid (v7 = .slice a9 ((ints out).length + (ints ring).length) cap9) := hv9
              have hb5 : Below w2.heap.size w2 w5 := (HBr.out.grown HGr.out (by have := HBr.out.size; omega) (by intro k hk; cases hk; exact Nat.le_refl _)).grown hgrow (by omega) (ho7.below)
              have hsz5 := hgrow.size
              have hnx := next_any c gv F sv (fun i => (outAt F.reach F.turn (j + 1)).contains i) w5 (HS2.out.later hb5 HP.out.2) HT.out
              have HO5 : Hid (Own w5 w2.heap.size v7 (out ++ ring)) := ho5
              have HB5 : Hid (Below w2.heap.size w2 w5) := hb5
              obtain ⟨pl, hpl⟩ : ∃ pl : Nat → Bool, pl = fun i => (outAt F.reach F.turn (j + 1)).contains i := ⟨_, rfl⟩
              rw [← hpl] at hP5 hnx
              have HPL : Hid (pl = fun i => (outAt F.reach F.turn (j + 1)).contains i) := hpl
              clear hgrow ho7 ho7R hown' hP1 ho5 hb5 hv9 hi hz0 hz1 hz2 hpl
              go_wp2_with (first
                | (refine wpList_load_row rfl 60 _ rfl w2.heap.size rfl tP (bools 32 pl) (0, 0) _ hP5 Try.underlying60 rfl (Try.sizeSet' _) ?_))
              refine hnx.mono ?_
              rintro e w6 ⟨v8, rfl, ho6, hb6⟩
              go_wp2_with fail
              go_roundw
              case rel =>
                rw [HPL.out] at ho6 hP5
                refine ⟨j + 1, ?_, ?_, own_mono ho6 (by omega), ⟨tP, by rw [hb6.block _ (by omega)]; exact hP5⟩, HB5.out.trans (hb6.mono (by omega))⟩
                · rw [HJ.out, List.length_append]
                  have := HJJ.out
                  omega
                · rw [HJ.out]
                  exact own_later HO5.out hb6
              case measure =>
                rw [HV9.out, HV7.out]
                simp [lenOf]
                have := HIL.out
                omega
  · have tb : txnB' n = false := by simp [txnB']; omega
    have E : Hid (orderI g n = []) := by unfold Hid orderI readyI; rw [tb]; rfl
    go_enter Try.func60, Try.ntmps60
    go_upto_region 1 with fail
    obtain ⟨W, hW⟩ : ∃ W, W = w.alloc (.cells gr 63) := ⟨_, rfl⟩
    rw [← hW] at hb ⊢
    clear hW hr1 hc0 hz
    go_wp2_with (first
      | (go_at_call 84; refine (g_isTxn _ _).mono ?_; rintro e w' ⟨rfl, rfl⟩))
    go_ret
    exact ⟨_, rfl, by rw [E.out]; exact World.ownsRow_nil _ _ _ _, hb⟩

end Go.Proofs.Ytkoefoccbjhoiaa
