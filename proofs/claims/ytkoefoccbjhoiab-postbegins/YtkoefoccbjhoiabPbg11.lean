/-
  The contracts of the document's own lacks and AgainCase.
-/
import Derived.Test.YtkoefoccbjhoiabPbg9
import Derived.Test.YtkoefoccbjhoiabPbg6
import Derived.Test.YtkoefoccbjhoiabPbg10
set_option linter.unusedVariables false
set_option linter.unusedSimpArgs false
namespace Go.Proofs.Ytkoefoccbjhoiab
open Go.RowKit
set_option linter.unusedSimpArgs false

theorem range_keep {w w' : World} {b off : Nat} {cs : List Value} {B : Nat} (h : w.rangeAt b off cs) (hb : Below B w w') (hB : b < B) : w'.rangeAt b off cs := fun j v hv => by
  rw [hb.cell (p := ⟨b, off + j, none⟩) hB]
  exact h j v hv

set_option maxRecDepth 100000 in
set_option maxHeartbeats 1000000 in
theorem ref_lacks (gr : Array Value) (c : CaseL) (sh : Int) (w : World) (h : CaseV w gr c) (h4 : c.ops.length ≤ 4) :
    Calls Try.prog 92 #[.agg gr, .int .i64 sh] w fun e w' => e = .returned (.bool (c.lacks sh)) ∧ Below w.heap.size w w' := by
  obtain ⟨W, hW⟩ : ∃ W, W = w.alloc (.cells gr 73) := ⟨_, rfl⟩
  have hb : Below w.heap.size w W := by rw [hW]; exact (Below.refl _ _).alloc (Nat.le_refl _) _
  have hzW : W.heap.size = w.heap.size + 1 := by rw [hW]; exact size_push _ _
  have hB : InBox w.heap.size W gr c := by rw [hW]; exact InBox.new h
  have HB : Hid (InBox w.heap.size W gr c) := hB
  have HW : Hid (W = w.alloc (.cells gr 73)) := hW
  obtain ⟨a2, c2, q2, hs2, hl2⟩ := hB.ops
  clear hW hB h
  go_enter Try.func92, Try.ntmps92
  go_upto_region 1 with fail
  rw [← HW.out]
  clear HW
  rcases hs2.1 with h0 | ⟨b, off, rfl, hbl, hc⟩
  · have HE : Hid (c.lacks sh = false) := by unfold Hid CaseL.lacks; rw [h0]; rfl
    have hl0 : c.ops.length = 0 := by rw [h0]; rfl
    rw [hl0] at q2
    clear hl0 h0
    go_wp2
    refine wp_loop_rounds 1 ?_; rw [rounds_succ]
    go_wp2
    go_ret
    exact ⟨ret_bool HE.out.symm, hb⟩
  · have HC : Hid (∀ i, i < c.ops.length → W.cell? ⟨b, off + i * 3, none⟩ = some (.int .i64 (c.ops.getD i (0, 0, 0)).1) ∧
      W.cell? ⟨b, off + i * 3 + 1, none⟩ = some (.int .i64 (c.ops.getD i (0, 0, 0)).2.1) ∧ W.cell? ⟨b, off + i * 3 + 2, none⟩ = some (.int .i64 (c.ops.getD i (0, 0, 0)).2.2)) := hc
    clear hc
    go_wp2
    go_loopw [10] (fun i wr => ∃ k : Nat, k ≤ c.ops.length ∧ i = .int .i64 k ∧ Hid ((List.range k).any (lackAt c sh) = false) ∧ Below W.heap.size W wr) (fun i _ => c.ops.length - (intOf i).toNat)
    case atStart => exact ⟨0, Nat.zero_le _, rfl, rfl, Below.refl _ _⟩
    case round =>
      obtain ⟨k, hk, rfl, HNo, hBw⟩ := hrel
      have hsz := hBw.size
      have HBw : Hid (Below w.heap.size w wr) := hb.trans (hBw.mono (by omega))
      by_cases hlt : k < c.ops.length
      · obtain ⟨q0, q1, q3, Hq, e0, e1, e2⟩ := OpsAt.at HC.out hbl hBw hlt
        have hk4 : k < 4 := by omega
        have eh : ∀ o, (wr.alloc o).cell? ⟨w.heap.size, 16 + k, none⟩ = some (.bool (c.has k)) := fun o => (HB.out.later (hBw.alloc hsz o)).has hk4
        have HL : Hid (lackAt c sh k = ((q1 % 2 == sh) && !c.has k)) := by unfold Hid lackAt; rw [Hq.out]; rfl
        have n1 : (0 : Int) ≤ (k : Int) ∧ (k : Int) < 4 := by omega
        have HA : Hid (∀ o, Below W.heap.size W (wr.alloc o)) := fun o => hBw.alloc hsz o
        have HA' : Hid (∀ o, Below w.heap.size w (wr.alloc o)) := fun o => HBw.out.alloc (by have := HBw.out.size; omega) o
        cases t1 : q1 % 2 == sh
        · have HF : Hid (lackAt c sh k = false) := by unfold Hid; rw [HL.out, t1]; rfl
          go_wp2_with (go_at_call 103; refine (shardOf_any _ _).mono ?_; rintro e w' ⟨rfl, rfl⟩)
          go_roundw
          case rel => exact ⟨k + 1, by omega, by go_num, lacks_step HNo.out HF.out, HA.out _⟩
          case measure => simp [intOf]; omega
        · cases t2 : c.has k
          · have HF : Hid (lackAt c sh k = true) := by unfold Hid; rw [HL.out, t1, t2]; rfl
            rw [t2] at eh
            go_wp2_with (go_at_call 103; refine (shardOf_any _ _).mono ?_; rintro e w' ⟨rfl, rfl⟩)
            go_ret
            exact ⟨ret_bool (lacks_yes hlt HF.out).symm, HA'.out _⟩
          · have HF : Hid (lackAt c sh k = false) := by unfold Hid; rw [HL.out, t1, t2]; rfl
            rw [t2] at eh
            go_wp2_with (go_at_call 103; refine (shardOf_any _ _).mono ?_; rintro e w' ⟨rfl, rfl⟩)
            go_roundw
            case rel => exact ⟨k + 1, by omega, by go_num, lacks_step HNo.out HF.out, HA.out _⟩
            case measure => simp [intOf]; omega
      · go_wp2
        go_ret
        exact ⟨ret_bool (lacks_no HNo.out hlt hk).symm, HBw.out⟩

set_option maxRecDepth 100000 in
set_option maxHeartbeats 8000000 in
theorem ref_again (lo : Nat) (gr : Array Value) (c : CaseL) (id : Int) (w : World) (h0 : ∃ nv, gr = rowF 24 nv ∧ CaseC (fun b => lo ≤ b) w nv c) (hlo : lo ≤ w.heap.size) :
    Calls Try.prog 49 #[.agg gr, .int .i64 id] w fun e w' => ∃ v, e = .returned v ∧ FramesV lo w' v (againC c id) ∧ Below w.heap.size w w' := by
  have h : CaseV w gr c := by
    obtain ⟨nv, e, hc⟩ := h0
    exact ⟨nv, e, hc.any⟩
  have H0 : Hid (∃ nv, gr = rowF 24 nv ∧ CaseC (fun b => lo ≤ b) w nv c) := h0
  clear h0
  obtain ⟨W, hW⟩ : ∃ W, W = w.alloc (.cells gr 73) := ⟨_, rfl⟩
  have hb : Below w.heap.size w W := by rw [hW]; exact (Below.refl _ _).alloc (Nat.le_refl _) _
  have hzW : W.heap.size = w.heap.size + 1 := by rw [hW]; exact size_push _ _
  have hB : InBox w.heap.size W gr c := by rw [hW]; exact InBox.new h
  have rB := hB.row
  have tB := hB.case.row
  have HB : Hid (InBox w.heap.size W gr c) := hB
  have HW : Hid (W = w.alloc (.cells gr 73)) := hW
  clear hW hB h
  go_enter Try.func49, Try.ntmps49
  go_upto_region 1 with fail
  rw [← HW.out]
  clear HW
  go_wp2_with (first
    | ((with_reducible apply wpl_row rB); (· rfl); (· exact tB); (· rfl); simp only [Act.put, List.setIfInBounds_toArray, List.set_cons_zero, List.set_cons_succ])
    | fail)
  refine (ref_isCase gr c W HB.out.case).mono ?_
  rintro e w1 ⟨rfl, hb1⟩
  have hbw1 := hb.trans (hb1.mono hb.size)
  have HB1 : Hid (InBox w.heap.size w1 gr c) := HB.out.later hb1
  have hz1 := hb1.size
  clear rB hb1
  cases t1 : goodCB c
  · have HE : Hid (againC c id = []) := again_no (Or.inl (by unfold isCaseOfB; rw [t1]; rfl))
    go_wp2
    go_ret
    exact ⟨_, rfl, by rw [HE.out]; exact FramesV.nil _ _, hbw1⟩
  have HT1 : Hid (goodCB c = true) := t1
  have qb := HB1.out.begun
  cases tb : c.begun
  · have HE : Hid (againC c id = []) := again_no (Or.inl (by unfold isCaseOfB; rw [tb]; simp))
    rw [tb] at qb
    go_wp2
    go_ret
    exact ⟨_, rfl, by rw [HE.out]; exact FramesV.nil _ _, hbw1⟩
  rw [tb] at qb
  have h4 : c.ops.length ≤ 4 := (good_case_len tb t1).2
  have HTB : Hid (c.begun = true) := tb
  clear tb t1
  go_wp2_with fail
  refine (isTxn_any id w1).mono ?_
  rintro e w2 ⟨rfl, hw⟩
  subst hw
  by_cases t2 : 0 ≤ id ∧ id < 32
  rotate_left
  · have HE : Hid (againC c id = []) := again_no (Or.inr (by omega))
    have d2 : txnB id = false := by unfold txnB; exact decide_eq_false t2
    go_wp2
    go_ret
    exact ⟨_, rfl, by rw [HE.out]; exact FramesV.nil _ _, hbw1⟩
  have d2 : txnB id = true := by unfold txnB; exact decide_eq_true t2
  obtain ⟨a15, c15, qd, hsd, hld⟩ := HB1.out.deps
  go_wp2_with fail
  refine (ref_has a15 c15 c.deps id w2 hsd.2.1 hsd.1).mono ?_
  rintro e w3 ⟨rfl, hw⟩
  subst hw
  cases t3 : hasL c.deps id
  rotate_left
  · have HE : Hid (againC c id = []) := again_no (Or.inl (by unfold isCaseOfB; rw [t3]; simp))
    go_wp2
    go_ret
    exact ⟨_, rfl, by rw [HE.out]; exact FramesV.nil _ _, hbw1⟩
  have HE : Hid (againC c id = c.sends id 6) := again_yes (by unfold isCaseOfB; rw [HT1.out, HTB.out, t3]; rfl) t2.1 t2.2
  obtain ⟨w2, hw2⟩ : ∃ w2, w2 = w3 := ⟨_, rfl⟩
  subst hw2
  obtain ⟨a2, c2, qo, hso, hlo⟩ := HB1.out.ops
  have HSo : Hid (SlOps w2 a2 c2 c.ops) := hso
  have HSd : Hid (SlInts w2 a15 c15 c.deps) := hsd
  have HOD : Hid (OpsIn (fun b => lo ≤ b ∧ b < w2.heap.size) w2 a2 c.ops ∧ IntsIn (fun b => lo ≤ b ∧ b < w2.heap.size) w2 a15 c.deps) := by
    obtain ⟨nv, e, hc⟩ := H0.out
    have hc2 := (hc.later (SameOn.of_size hbw1)).mono (ok' := fun b => lo ≤ b ∧ b < w2.heap.size) (fun b hb hk => ⟨hk, hb⟩)
    have hrow := HB1.out.row
    have hblk : BlkAt 24 w2 w.heap.size nv := ⟨_, by rw [← e]; exact hrow⟩
    obtain ⟨aa, ca, ea, ha, _⟩ := hc2.ops
    obtain ⟨ab, cb, eb, hbb, _⟩ := hc2.deps
    have x1 := hblk.cell (i := 2) (by omega)
    have x2 := hblk.cell (i := 15) (by omega)
    rw [qo, ea] at x1
    rw [qd, eb] at x2
    cases x1
    cases x2
    exact ⟨ha, hbb⟩
  have HOps : Hid (OpsIn (fun b => lo ≤ b ∧ b < w2.heap.size) w2 a2 c.ops) := HOD.out.1
  have HDeps : Hid (IntsIn (fun b => lo ≤ b ∧ b < w2.heap.size) w2 a15 c.deps) := HOD.out.2
  have HBB : Hid (∀ wx, Below w2.heap.size w2 wx → InBox w.heap.size wx gr c) := fun wx hx => HB1.out.later hx
  have hzb : w.heap.size < w2.heap.size := by omega
  have HbW : Hid (Below w.heap.size w w2) := hbw1
  clear t2 hbw1 hb hso hsd qb t3
  go_wp2
  go_loopw [5, 26] (fun l i wr => ∃ (k : Nat) (css : List (List Value)), k ≤ 6 ∧ i = .int .i64 k ∧ FrC (fun b => lo ≤ b ∧ b < w2.heap.size) w2.heap.size wr l (c.sends id k) css ∧ Below w2.heap.size w2 wr) (fun _ i _ => 6 - (intOf i).toNat)
  case atStart => exact ⟨0, [], by omega, rfl, FrC.nil _ _ _, Below.refl _ _⟩
  case round =>
    obtain ⟨k, css, hk, rfl, hF, hBw⟩ := hrel
    have hsz := hBw.size
    by_cases hlt : k < 6
    · have HX : Hid (InBox w.heap.size wr gr c) := HBB.out wr hBw
      have HFk : Hid (∀ wx, Below wr.heap.size wr wx → FrC (fun b => lo ≤ b ∧ b < w2.heap.size) w2.heap.size wx u5 (c.sends id k) css) := fun wx hx => hF.later hx
      have HBw : Hid (Below w2.heap.size w2 wr) := hBw
      have hkk : (k : Int) < 6 := by omega
      have n1 : (0 : Int) ≤ (k : Int) ∧ (k : Int) < 6 := by omega
      have q1 := HX.out.fixed
      have q2 : wr.cell? ⟨w.heap.size, 2, none⟩ = some (.slice a2 c.ops.length c2) := by rw [hBw.cell (p := ⟨w.heap.size, 2, none⟩) hzb]; exact qo
      have q3 := HX.out.told hlt
      have hwr : w.heap.size < wr.heap.size := by omega
      clear hF hBw
      cases tf : c.fixed
      · have HT1f : Hid (c.fixed = false) := tf
        rw [tf] at q1
        have HW0 : Hid (c.wants k = (!c.told k && touchesL c.ops (ofL k))) := wants_open tf
        have HMsg : Hid (c.msg id k = ⟨1, k, id, c.ops, [], [], []⟩) := by unfold Hid CaseL.msg; rw [tf]; rfl
        clear tf
        cases tq : touchesL c.ops (ofL k)
        · have HS : Hid (c.sends id (k + 1) = c.sends id k) := by unfold Hid; rw [sends_succ, HW0.out, tq]; simp
          have HTo : Hid (∀ wx, wx = wr.drew → Calls Try.prog 70 #[.slice a2 c.ops.length c2, .int .i64 (ofL k)] wx fun e w' => e = .returned (.bool false) ∧ Hid (Below wr.heap.size wr w') ∧ (fun w' : World => w'.cell? ⟨w.heap.size, 1, none⟩ = some (.bool false) ∧ w'.cell? ⟨w.heap.size, 2, none⟩ = some (.slice a2 c.ops.length c2) ∧ w'.cell? ⟨w.heap.size, 3 + k, none⟩ = some (.bool (c.told k))) w') := by
            rintro wx rfl
            refine (touchesShard_any a2 c2 c.ops (ofL k) _ HSo.out.2.1 (OpsIn.at (HOps.out.later (w' := wr.drew) (fun b _ hb => HBw.out.block b hb.2)))).mono ?_
            rintro e w5 ⟨rfl, hb5⟩
            have hb5' : Below wr.heap.size wr w5 := (Below.drew (Below.refl _ _)).trans hb5
            refine ⟨by rw [tq], hb5', ?_, ?_, ?_⟩
            · rw [hb5'.cell (p := ⟨w.heap.size, 1, none⟩) hwr]; exact q1
            · rw [hb5'.cell (p := ⟨w.heap.size, 2, none⟩) hwr]; exact q2
            · rw [hb5'.cell (p := ⟨w.heap.size, 3 + k, none⟩) hwr]; exact q3
          go_wp2
          refine wp_region_held_drew (S := fun w' : World => w'.cell? ⟨w.heap.size, 1, none⟩ = some (.bool false) ∧ w'.cell? ⟨w.heap.size, 2, none⟩ = some (.slice a2 c.ops.length c2) ∧ w'.cell? ⟨w.heap.size, 3 + k, none⟩ = some (.bool (c.told k))) (by kernel_rfl) ⟨q1, q2, q3⟩ ?_
          intro hH
          refine wpAnyH_takeD (i := 0) (d := some 29) (v := .pointer (some ⟨w.heap.size, 1, none⟩)) rfl rfl (by kernel_rfl) (by kernel_rfl) (by kernel_rfl) (fun _ _ _ h => h) (Or.inl ⟨by rfl, fun _ _ => by go_simp⟩) hH ?_
          simp only [Act.put, List.setIfInBounds_toArray, List.set_cons_zero, List.set_cons_succ]
          refine wpAnyH_takeD (i := 1) (d := some 30) (v := .bool false) rfl rfl (by kernel_rfl) (by kernel_rfl) (by kernel_rfl) (fun _ _ _ h => h) (Or.inl ⟨by rfl, fun _ hS => by obtain ⟨hS0, hS1, hS2⟩ := hS; go_simp⟩) hH ?_
          simp only [Act.put, List.setIfInBounds_toArray, List.set_cons_zero, List.set_cons_succ]
          refine wpAnyH_takeD (i := 2) (d := some 31) (v := .bool true) rfl rfl (by kernel_rfl) (by kernel_rfl) (by kernel_rfl) (fun _ _ _ h => h) (Or.inl ⟨by rfl, fun _ _ => by go_simp⟩) hH ?_
          simp only [Act.put, List.setIfInBounds_toArray, List.set_cons_zero, List.set_cons_succ]
          refine wpAnyH_takeD (i := 3) (d := some 32) (v := .bool true) rfl rfl (by kernel_rfl) (by kernel_rfl) (by kernel_rfl) (fun _ _ _ h => h) (Or.inl ⟨by rfl, fun _ _ => by go_simp⟩) hH ?_
          simp only [Act.put, List.setIfInBounds_toArray, List.set_cons_zero, List.set_cons_succ]
          refine wpAnyH_takeD (i := 4) (d := some 33) (v := .pointer (some ⟨w.heap.size, 2, none⟩)) rfl rfl (by kernel_rfl) (by kernel_rfl) (by kernel_rfl) (fun _ _ _ h => h) (Or.inl ⟨by rfl, fun _ _ => by go_simp⟩) hH ?_
          simp only [Act.put, List.setIfInBounds_toArray, List.set_cons_zero, List.set_cons_succ]
          refine wpAnyH_takeD (i := 5) (d := some 34) (v := .slice a2 c.ops.length c2) rfl rfl (by kernel_rfl) (by kernel_rfl) (by kernel_rfl) (fun _ _ _ h => h) (Or.inl ⟨by rfl, fun _ hS => by obtain ⟨hS0, hS1, hS2⟩ := hS; go_simp⟩) hH ?_
          simp only [Act.put, List.setIfInBounds_toArray, List.set_cons_zero, List.set_cons_succ]
          refine wpAnyH_takeD (i := 6) (d := some 35) (v := .int .i64 k) rfl rfl (by kernel_rfl) (by kernel_rfl) (by kernel_rfl) (fun _ _ _ h => h) (Or.inl ⟨by rfl, fun _ _ => by go_simp⟩) hH ?_
          simp only [Act.put, List.setIfInBounds_toArray, List.set_cons_zero, List.set_cons_succ]
          refine wpAnyH_ready (rs := [7]) (by kernel_rfl) (by simp) ?_
          refine AllReadyH.cons rfl (fun K hK => ?_) AllReadyH.nil
          go_simp
          refine (ofNode_any _ _).mono ?_
          rintro e w7 ⟨rfl, hw7⟩
          subst hw7
          go_wp2_with fail
          refine hK.out _ _ (hH) (fun hH2 => ?_)
          clear hK K hH
          have hH := hH2
          clear hH2
          refine wpAnyH_ready (rs := [8]) (by kernel_rfl) (by simp) ?_
          refine AllReadyH.cons rfl (fun K hK => ?_) AllReadyH.nil
          go_simp
          refine (HTo.out _ rfl).mono ?_
          rintro e w5 ⟨rfl, HB5, hS5⟩
          go_wp2_with fail
          refine hK.out _ _ (hS5) (fun hH2 => ?_)
          clear hK K hH
          have hH := hH2
          clear hH2
          refine wpAnyH_takeD (i := 9) (d := some 38) (v := .bool false) rfl rfl (by kernel_rfl) (by kernel_rfl) (by kernel_rfl) (fun _ _ _ h => h) (Or.inl ⟨by rfl, fun _ _ => by go_simp⟩) hH ?_
          simp only [Act.put, List.setIfInBounds_toArray, List.set_cons_zero, List.set_cons_succ]
          refine wpAnyH_takeD (i := 10) (d := some 39) (v := .bool false) rfl rfl (by kernel_rfl) (by kernel_rfl) (by kernel_rfl) (fun _ _ _ h => h) (Or.inl ⟨by rfl, fun _ _ => by go_simp⟩) hH ?_
          simp only [Act.put, List.setIfInBounds_toArray, List.set_cons_zero, List.set_cons_succ]
          refine wpAnyH_takeD (i := 11) (d := some 40) (v := undef) rfl rfl (by kernel_rfl) (by kernel_rfl) (by kernel_rfl) (fun _ _ _ h => h) (Or.inr ⟨by rfl, rfl⟩) hH ?_
          simp only [Act.put, List.setIfInBounds_toArray, List.set_cons_zero, List.set_cons_succ]
          refine wpAnyH_takeD (i := 12) (d := some 41) (v := undef) rfl rfl (by kernel_rfl) (by kernel_rfl) (by kernel_rfl) (fun _ _ _ h => h) (Or.inr ⟨by rfl, rfl⟩) hH ?_
          simp only [Act.put, List.setIfInBounds_toArray, List.set_cons_zero, List.set_cons_succ]
          refine wpAnyH_takeD (i := 13) (d := some 42) (v := undef) rfl rfl (by kernel_rfl) (by kernel_rfl) (by kernel_rfl) (fun _ _ _ h => h) (Or.inr ⟨by rfl, rfl⟩) hH ?_
          simp only [Act.put, List.setIfInBounds_toArray, List.set_cons_zero, List.set_cons_succ]
          refine wpAnyH_takeD (i := 14) (d := some 43) (v := undef) rfl rfl (by kernel_rfl) (by kernel_rfl) (by kernel_rfl) (fun _ _ _ h => h) (Or.inr ⟨by rfl, rfl⟩) hH ?_
          simp only [Act.put, List.setIfInBounds_toArray, List.set_cons_zero, List.set_cons_succ]
          refine wpAnyH_takeD (i := 15) (d := some 44) (v := undef) rfl rfl (by kernel_rfl) (by kernel_rfl) (by kernel_rfl) (fun _ _ _ h => h) (Or.inr ⟨by rfl, rfl⟩) hH ?_
          simp only [Act.put, List.setIfInBounds_toArray, List.set_cons_zero, List.set_cons_succ]
          refine wpAnyH_takeD (i := 16) (d := some 45) (v := .bool false) rfl rfl (by kernel_rfl) (by kernel_rfl) (by kernel_rfl) (fun _ _ _ h => h) (Or.inl ⟨by rfl, fun _ _ => by go_simp⟩) hH ?_
          simp only [Act.put, List.setIfInBounds_toArray, List.set_cons_zero, List.set_cons_succ]
          refine wpAnyH_done (by kernel_rfl) ?_ _
          have HBl : Hid (Below wr.heap.size wr w5) := HB5.out
          have HBy : Hid (Below w2.heap.size w2 w5) := HBw.out.trans (HB5.out.mono hsz)
          clear q1 q2 q3
          have HXy : Hid (InBox w.heap.size w5 gr c) := HBB.out w5 HBy.out
          have q1 : w5.cell? ⟨w.heap.size, 1, none⟩ = some (.bool false) := by rw [HXy.out.fixed, HT1f.out]
          have q9 := HXy.out.known hlt
          have rgl := HXy.out.range
          obtain ⟨gl, hgl⟩ : ∃ gl, gl = gr.toList := ⟨_, rfl⟩
          rw [← hgl] at rgl
          clear hgl
          go_wp2
          refine wp_region_held_drew (S := fun w' : World => w'.cell? ⟨w.heap.size, 1, none⟩ = some (.bool false) ∧ w'.cell? ⟨w.heap.size, 9 + k, none⟩ = some (.bool (c.known k)) ∧ w'.rangeAt w.heap.size 0 gl) (by kernel_rfl) ⟨q1, q9, rgl⟩ ?_
          intro hH
          refine wpAnyH_takeD (i := 0) (d := some 54) (v := .pointer (some ⟨w.heap.size, 1, none⟩)) rfl rfl (by kernel_rfl) (by kernel_rfl) (by kernel_rfl) (fun _ _ _ h => h) (Or.inl ⟨by rfl, fun _ _ => by go_simp⟩) hH ?_
          simp only [Act.put, List.setIfInBounds_toArray, List.set_cons_zero, List.set_cons_succ]
          refine wpAnyH_takeD (i := 1) (d := some 55) (v := .bool false) rfl rfl (by kernel_rfl) (by kernel_rfl) (by kernel_rfl) (fun _ _ _ h => h) (Or.inl ⟨by rfl, fun _ hS => by obtain ⟨hS0, hS1, hS2⟩ := hS; go_simp⟩) hH ?_
          simp only [Act.put, List.setIfInBounds_toArray, List.set_cons_zero, List.set_cons_succ]
          refine wpAnyH_takeD (i := 2) (d := some 56) (v := .bool false) rfl rfl (by kernel_rfl) (by kernel_rfl) (by kernel_rfl) (fun _ _ _ h => h) (Or.inl ⟨by rfl, fun _ _ => by go_simp⟩) hH ?_
          simp only [Act.put, List.setIfInBounds_toArray, List.set_cons_zero, List.set_cons_succ]
          refine wpAnyH_takeD (i := 3) (d := some 57) (v := undef) rfl rfl (by kernel_rfl) (by kernel_rfl) (by kernel_rfl) (fun _ _ _ h => h) (Or.inr ⟨by rfl, rfl⟩) hH ?_
          simp only [Act.put, List.setIfInBounds_toArray, List.set_cons_zero, List.set_cons_succ]
          refine wpAnyH_takeD (i := 4) (d := some 58) (v := undef) rfl rfl (by kernel_rfl) (by kernel_rfl) (by kernel_rfl) (fun _ _ _ h => h) (Or.inr ⟨by rfl, rfl⟩) hH ?_
          simp only [Act.put, List.setIfInBounds_toArray, List.set_cons_zero, List.set_cons_succ]
          refine wpAnyH_takeD (i := 5) (d := some 59) (v := undef) rfl rfl (by kernel_rfl) (by kernel_rfl) (by kernel_rfl) (fun _ _ _ h => h) (Or.inr ⟨by rfl, rfl⟩) hH ?_
          simp only [Act.put, List.setIfInBounds_toArray, List.set_cons_zero, List.set_cons_succ]
          refine wpAnyH_takeD (i := 6) (d := some 60) (v := undef) rfl rfl (by kernel_rfl) (by kernel_rfl) (by kernel_rfl) (fun _ _ _ h => h) (Or.inr ⟨by rfl, rfl⟩) hH ?_
          simp only [Act.put, List.setIfInBounds_toArray, List.set_cons_zero, List.set_cons_succ]
          refine wpAnyH_takeD (i := 7) (d := some 61) (v := undef) rfl rfl (by kernel_rfl) (by kernel_rfl) (by kernel_rfl) (fun _ _ _ h => h) (Or.inr ⟨by rfl, rfl⟩) hH ?_
          simp only [Act.put, List.setIfInBounds_toArray, List.set_cons_zero, List.set_cons_succ]
          refine wpAnyH_takeD (i := 8) (d := some 62) (v := undef) rfl rfl (by kernel_rfl) (by kernel_rfl) (by kernel_rfl) (fun _ _ _ h => h) (Or.inr ⟨by rfl, rfl⟩) hH ?_
          simp only [Act.put, List.setIfInBounds_toArray, List.set_cons_zero, List.set_cons_succ]
          refine wpAnyH_takeD (i := 9) (d := some 63) (v := undef) rfl rfl (by kernel_rfl) (by kernel_rfl) (by kernel_rfl) (fun _ _ _ h => h) (Or.inr ⟨by rfl, rfl⟩) hH ?_
          simp only [Act.put, List.setIfInBounds_toArray, List.set_cons_zero, List.set_cons_succ]
          refine wpAnyH_takeD (i := 10) (d := some 64) (v := undef) rfl rfl (by kernel_rfl) (by kernel_rfl) (by kernel_rfl) (fun _ _ _ h => h) (Or.inr ⟨by rfl, rfl⟩) hH ?_
          simp only [Act.put, List.setIfInBounds_toArray, List.set_cons_zero, List.set_cons_succ]
          refine wpAnyH_takeD (i := 11) (d := some 65) (v := undef) rfl rfl (by kernel_rfl) (by kernel_rfl) (by kernel_rfl) (fun _ _ _ h => h) (Or.inr ⟨by rfl, rfl⟩) hH ?_
          simp only [Act.put, List.setIfInBounds_toArray, List.set_cons_zero, List.set_cons_succ]
          refine wpAnyH_takeD (i := 12) (d := some 66) (v := undef) rfl rfl (by kernel_rfl) (by kernel_rfl) (by kernel_rfl) (fun _ _ _ h => h) (Or.inr ⟨by rfl, rfl⟩) hH ?_
          simp only [Act.put, List.setIfInBounds_toArray, List.set_cons_zero, List.set_cons_succ]
          refine wpAnyH_takeD (i := 13) (d := some 67) (v := undef) rfl rfl (by kernel_rfl) (by kernel_rfl) (by kernel_rfl) (fun _ _ _ h => h) (Or.inr ⟨by rfl, rfl⟩) hH ?_
          simp only [Act.put, List.setIfInBounds_toArray, List.set_cons_zero, List.set_cons_succ]
          refine wpAnyH_takeD (i := 14) (d := some 68) (v := .bool false) rfl rfl (by kernel_rfl) (by kernel_rfl) (by kernel_rfl) (fun _ _ _ h => h) (Or.inl ⟨by rfl, fun _ _ => by go_simp⟩) hH ?_
          simp only [Act.put, List.setIfInBounds_toArray, List.set_cons_zero, List.set_cons_succ]
          refine wpAnyH_done (by kernel_rfl) ?_ _
          go_wp2
          go_roundw
          case rel => exact ⟨k + 1, _, by omega, by go_num, by rw [HS.out]; exact (HFk.out w5 HBl.out).later (Below.drew (Below.refl _ _)), Below.drew HBy.out⟩
          case measure => simp [intOf]; omega
        · cases tt : c.told k
          · have HS : Hid (c.sends id (k + 1) = c.sends id k ++ [c.msg id k]) := by unfold Hid; rw [sends_succ, HW0.out, tq, tt]; simp
            rw [tt] at q3
            have HTo : Hid (∀ wx, wx = wr.drew → Calls Try.prog 70 #[.slice a2 c.ops.length c2, .int .i64 (ofL k)] wx fun e w' => e = .returned (.bool true) ∧ Hid (Below wr.heap.size wr w') ∧ (fun w' : World => w'.cell? ⟨w.heap.size, 1, none⟩ = some (.bool false) ∧ w'.cell? ⟨w.heap.size, 2, none⟩ = some (.slice a2 c.ops.length c2) ∧ w'.cell? ⟨w.heap.size, 3 + k, none⟩ = some (.bool false)) w') := by
              rintro wx rfl
              refine (touchesShard_any a2 c2 c.ops (ofL k) _ HSo.out.2.1 (OpsIn.at (HOps.out.later (w' := wr.drew) (fun b _ hb => HBw.out.block b hb.2)))).mono ?_
              rintro e w5 ⟨rfl, hb5⟩
              have hb5' : Below wr.heap.size wr w5 := (Below.drew (Below.refl _ _)).trans hb5
              refine ⟨by rw [tq], hb5', ?_, ?_, ?_⟩
              · rw [hb5'.cell (p := ⟨w.heap.size, 1, none⟩) hwr]; exact q1
              · rw [hb5'.cell (p := ⟨w.heap.size, 2, none⟩) hwr]; exact q2
              · rw [hb5'.cell (p := ⟨w.heap.size, 3 + k, none⟩) hwr]; exact q3
            go_wp2
            refine wp_region_held_drew (S := fun w' : World => w'.cell? ⟨w.heap.size, 1, none⟩ = some (.bool false) ∧ w'.cell? ⟨w.heap.size, 2, none⟩ = some (.slice a2 c.ops.length c2) ∧ w'.cell? ⟨w.heap.size, 3 + k, none⟩ = some (.bool false)) (by kernel_rfl) ⟨q1, q2, q3⟩ ?_
            intro hH
            refine wpAnyH_takeD (i := 0) (d := some 29) (v := .pointer (some ⟨w.heap.size, 1, none⟩)) rfl rfl (by kernel_rfl) (by kernel_rfl) (by kernel_rfl) (fun _ _ _ h => h) (Or.inl ⟨by rfl, fun _ _ => by go_simp⟩) hH ?_
            simp only [Act.put, List.setIfInBounds_toArray, List.set_cons_zero, List.set_cons_succ]
            refine wpAnyH_takeD (i := 1) (d := some 30) (v := .bool false) rfl rfl (by kernel_rfl) (by kernel_rfl) (by kernel_rfl) (fun _ _ _ h => h) (Or.inl ⟨by rfl, fun _ hS => by obtain ⟨hS0, hS1, hS2⟩ := hS; go_simp⟩) hH ?_
            simp only [Act.put, List.setIfInBounds_toArray, List.set_cons_zero, List.set_cons_succ]
            refine wpAnyH_takeD (i := 2) (d := some 31) (v := .bool true) rfl rfl (by kernel_rfl) (by kernel_rfl) (by kernel_rfl) (fun _ _ _ h => h) (Or.inl ⟨by rfl, fun _ _ => by go_simp⟩) hH ?_
            simp only [Act.put, List.setIfInBounds_toArray, List.set_cons_zero, List.set_cons_succ]
            refine wpAnyH_takeD (i := 3) (d := some 32) (v := .bool true) rfl rfl (by kernel_rfl) (by kernel_rfl) (by kernel_rfl) (fun _ _ _ h => h) (Or.inl ⟨by rfl, fun _ _ => by go_simp⟩) hH ?_
            simp only [Act.put, List.setIfInBounds_toArray, List.set_cons_zero, List.set_cons_succ]
            refine wpAnyH_takeD (i := 4) (d := some 33) (v := .pointer (some ⟨w.heap.size, 2, none⟩)) rfl rfl (by kernel_rfl) (by kernel_rfl) (by kernel_rfl) (fun _ _ _ h => h) (Or.inl ⟨by rfl, fun _ _ => by go_simp⟩) hH ?_
            simp only [Act.put, List.setIfInBounds_toArray, List.set_cons_zero, List.set_cons_succ]
            refine wpAnyH_takeD (i := 5) (d := some 34) (v := .slice a2 c.ops.length c2) rfl rfl (by kernel_rfl) (by kernel_rfl) (by kernel_rfl) (fun _ _ _ h => h) (Or.inl ⟨by rfl, fun _ hS => by obtain ⟨hS0, hS1, hS2⟩ := hS; go_simp⟩) hH ?_
            simp only [Act.put, List.setIfInBounds_toArray, List.set_cons_zero, List.set_cons_succ]
            refine wpAnyH_takeD (i := 6) (d := some 35) (v := .int .i64 k) rfl rfl (by kernel_rfl) (by kernel_rfl) (by kernel_rfl) (fun _ _ _ h => h) (Or.inl ⟨by rfl, fun _ _ => by go_simp⟩) hH ?_
            simp only [Act.put, List.setIfInBounds_toArray, List.set_cons_zero, List.set_cons_succ]
            refine wpAnyH_ready (rs := [7]) (by kernel_rfl) (by simp) ?_
            refine AllReadyH.cons rfl (fun K hK => ?_) AllReadyH.nil
            go_simp
            refine (ofNode_any _ _).mono ?_
            rintro e w7 ⟨rfl, hw7⟩
            subst hw7
            go_wp2_with fail
            refine hK.out _ _ (hH) (fun hH2 => ?_)
            clear hK K hH
            have hH := hH2
            clear hH2
            refine wpAnyH_ready (rs := [8]) (by kernel_rfl) (by simp) ?_
            refine AllReadyH.cons rfl (fun K hK => ?_) AllReadyH.nil
            go_simp
            refine (HTo.out _ rfl).mono ?_
            rintro e w5 ⟨rfl, HB5, hS5⟩
            go_wp2_with fail
            refine hK.out _ _ (hS5) (fun hH2 => ?_)
            clear hK K hH
            have hH := hH2
            clear hH2
            refine wpAnyH_takeD (i := 9) (d := some 38) (v := .bool true) rfl rfl (by kernel_rfl) (by kernel_rfl) (by kernel_rfl) (fun _ _ _ h => h) (Or.inl ⟨by rfl, fun _ _ => by go_simp⟩) hH ?_
            simp only [Act.put, List.setIfInBounds_toArray, List.set_cons_zero, List.set_cons_succ]
            refine wpAnyH_takeD (i := 10) (d := some 39) (v := .bool true) rfl rfl (by kernel_rfl) (by kernel_rfl) (by kernel_rfl) (fun _ _ _ h => h) (Or.inl ⟨by rfl, fun _ _ => by go_simp⟩) hH ?_
            simp only [Act.put, List.setIfInBounds_toArray, List.set_cons_zero, List.set_cons_succ]
            refine wpAnyH_takeD (i := 11) (d := some 40) (v := .int .i64 k) rfl rfl (by kernel_rfl) (by kernel_rfl) (by kernel_rfl) (fun _ _ _ h => h) (Or.inl ⟨by rfl, fun _ _ => by go_simp⟩) hH ?_
            simp only [Act.put, List.setIfInBounds_toArray, List.set_cons_zero, List.set_cons_succ]
            refine wpAnyH_takeD (i := 12) (d := some 41) (v := .pointer (some ⟨w.heap.size, 3, none⟩)) rfl rfl (by kernel_rfl) (by kernel_rfl) (by kernel_rfl) (fun _ _ _ h => h) (Or.inl ⟨by rfl, fun _ _ => by go_simp⟩) hH ?_
            simp only [Act.put, List.setIfInBounds_toArray, List.set_cons_zero, List.set_cons_succ]
            refine wpAnyH_takeD (i := 13) (d := some 42) (v := .pointer (some ⟨w.heap.size, 3 + k, none⟩)) rfl rfl (by kernel_rfl) (by kernel_rfl) (by kernel_rfl) (fun _ _ _ h => h) (Or.inl ⟨by rfl, fun _ _ => by go_simp⟩) hH ?_
            simp only [Act.put, List.setIfInBounds_toArray, List.set_cons_zero, List.set_cons_succ]
            refine wpAnyH_takeD (i := 14) (d := some 43) (v := .bool false) rfl rfl (by kernel_rfl) (by kernel_rfl) (by kernel_rfl) (fun _ _ _ h => h) (Or.inl ⟨by rfl, fun _ hS => by obtain ⟨hS0, hS1, hS2⟩ := hS; go_simp⟩) hH ?_
            simp only [Act.put, List.setIfInBounds_toArray, List.set_cons_zero, List.set_cons_succ]
            refine wpAnyH_takeD (i := 15) (d := some 44) (v := .bool true) rfl rfl (by kernel_rfl) (by kernel_rfl) (by kernel_rfl) (fun _ _ _ h => h) (Or.inl ⟨by rfl, fun _ _ => by go_simp⟩) hH ?_
            simp only [Act.put, List.setIfInBounds_toArray, List.set_cons_zero, List.set_cons_succ]
            refine wpAnyH_takeD (i := 16) (d := some 45) (v := .bool true) rfl rfl (by kernel_rfl) (by kernel_rfl) (by kernel_rfl) (fun _ _ _ h => h) (Or.inl ⟨by rfl, fun _ _ => by go_simp⟩) hH ?_
            simp only [Act.put, List.setIfInBounds_toArray, List.set_cons_zero, List.set_cons_succ]
            refine wpAnyH_done (by kernel_rfl) ?_ _
            have HBl : Hid (Below wr.heap.size wr w5) := HB5.out
            have HBy : Hid (Below w2.heap.size w2 w5) := HBw.out.trans (HB5.out.mono hsz)
            clear q1 q2 q3
            have hzl := HBy.out.size
            have HXl : Hid (InBox w.heap.size w5 gr c) := HBB.out w5 HBy.out
            have v2 : w5.cell? ⟨w.heap.size, 2, none⟩ = some (.slice a2 c.ops.length c2) := by rw [HBy.out.cell (p := ⟨w.heap.size, 2, none⟩) hzb]; exact qo
            have v15 : w5.cell? ⟨w.heap.size, 15, none⟩ = some (.slice a15 c.deps.length c15) := by rw [HBy.out.cell (p := ⟨w.heap.size, 15, none⟩) hzb]; exact qd
            have HFl : Hid (FrC (fun b => lo ≤ b ∧ b < w2.heap.size) w2.heap.size w5 u5 (c.sends id k) css) := HFk.out w5 (by first | exact Below.refl _ _ | exact HBl.out)
            have HG : Hid (FrameIn (fun b => (lo ≤ b ∧ b < w2.heap.size) ∧ u5.ownBlock ≠ some b) w5 (.agg #[.int .i64 1, .int .i64 k, .int .i64 id, .slice a2 c.ops.length c2, .slice none 0 0, .slice none 0 0, .slice none 0 0]) (c.msg id k)) := by
              unfold Hid
              rw [HMsg.out]
              have ho := (HOps.out.later (w' := w5) (fun b _ hb => HBy.out.block b hb.2)).mono (ok' := fun b => (lo ≤ b ∧ b < w2.heap.size) ∧ u5.ownBlock ≠ some b) (fun b _ hb => ⟨hb, fun e => by have h1 := (World.ownsRow.lt HFl.out.own b e).1; have hb' : b < w2.heap.size := hb.2; omega⟩)
              have hd := (HDeps.out.later (w' := w5) (fun b _ hb => HBy.out.block b hb.2)).mono (ok' := fun b => (lo ≤ b ∧ b < w2.heap.size) ∧ u5.ownBlock ≠ some b) (fun b _ hb => ⟨hb, fun e => by have h1 := (World.ownsRow.lt HFl.out.own b e).1; have hb' : b < w2.heap.size := hb.2; omega⟩)
              exact ⟨a2, c2, none, 0, none, 0, none, 0, rfl, ⟨⟨ho.at, HSo.out.2⟩, ho⟩, slI_nil _ _, slI_nil _ _, slI_nil _ _⟩
            have HOW : Hid ((w5.alloc (.cells #[.int .i64 1, .int .i64 k, .int .i64 id, .slice a2 c.ops.length c2, .slice none 0 0, .slice none 0 0, .slice none 0 0] 43)).ownsRow w2.heap.size 43 7 u5 (c.sends id k).length css.flatten) := HFl.out.own.alloc _
            have hl6 : (c.sends id k).length ≤ 6 := by have := sends_len c id k; omega
            obtain ⟨i0, hi, iz0, iz1, iz2⟩ := info_parts Try.infoFrameZ
            go_wp2_with (first
              | (at_builtin; refine wpList_append_own_at _ rfl _ _ 46 rfl w2.heap.size 43 i0 _ 7 120 Try.underlying46 hi iz0 iz1 iz2 rfl (by decide) _ _ _ rfl HOW.out ⟨w5.heap.size, 0, none⟩ 1 1 [.int .i64 1, .int .i64 k, .int .i64 id, .slice a2 c.ops.length c2, .slice none 0 0, .slice none 0 0, .slice none 0 0] rfl rfl (World.news_of_block (cs := #[.int .i64 1, .int .i64 k, .int .i64 id, .slice a2 c.ops.length c2, .slice none 0 0, .slice none 0 0, .slice none 0 0]) (t := 43) (fr := (0, 0)) (heap_new w5 _)) ?c2 ?c3 ?c4 ?c5 ?_)
              | go_in)
            case c2 =>
              intro u hu
              simp at hu
              rcases hu with rfl | rfl | rfl | rfl | rfl | rfl | rfl <;> rfl
            case c3 => unfold maxLen; omega
            case c4 => omega
            case c5 => rw [size_push]; omega
            · intro v' Q hown' hgrow _ hat
              have hbA : Below w5.heap.size w5 (w5.alloc (.cells #[.int .i64 1, .int .i64 k, .int .i64 id, .slice a2 c.ops.length c2, .slice none 0 0, .slice none 0 0, .slice none 0 0] 43)) := (Below.refl _ _).alloc (Nat.le_refl _) _
              have HFQ : Hid (FrC (fun b => lo ≤ b ∧ b < w2.heap.size) w2.heap.size Q v' (c.sends id k ++ [c.msg id k]) (css ++ [[.int .i64 1, .int .i64 k, .int .i64 id, .slice a2 c.ops.length c2, .slice none 0 0, .slice none 0 0, .slice none 0 0]])) := (HFl.out.later hbA).snoc rfl (HG.out.same (SameOn.of_size hbA)) hown' hgrow (by rw [size_push]; exact hat)
              have HBQ : Hid (Below w2.heap.size w2 Q) := (HBy.out.trans (hbA.mono (by omega))).grown hgrow (by rw [size_push]; omega) (fun b hb => (World.ownsRow.lt HFl.out.own b hb).1)
              clear hown' hgrow hat hbA HOW hi iz0 iz1 iz2 HFl HG v2 v15
              have HXy : Hid (InBox w.heap.size Q gr c) := HBB.out Q HBQ.out
              have q1 : Q.cell? ⟨w.heap.size, 1, none⟩ = some (.bool false) := by rw [HXy.out.fixed, HT1f.out]
              have q9 := HXy.out.known hlt
              have rgl := HXy.out.range
              obtain ⟨gl, hgl⟩ : ∃ gl, gl = gr.toList := ⟨_, rfl⟩
              rw [← hgl] at rgl
              clear hgl
              go_wp2
              refine wp_region_held_drew (S := fun w' : World => w'.cell? ⟨w.heap.size, 1, none⟩ = some (.bool false) ∧ w'.cell? ⟨w.heap.size, 9 + k, none⟩ = some (.bool (c.known k)) ∧ w'.rangeAt w.heap.size 0 gl) (by kernel_rfl) ⟨q1, q9, rgl⟩ ?_
              intro hH
              refine wpAnyH_takeD (i := 0) (d := some 54) (v := .pointer (some ⟨w.heap.size, 1, none⟩)) rfl rfl (by kernel_rfl) (by kernel_rfl) (by kernel_rfl) (fun _ _ _ h => h) (Or.inl ⟨by rfl, fun _ _ => by go_simp⟩) hH ?_
              simp only [Act.put, List.setIfInBounds_toArray, List.set_cons_zero, List.set_cons_succ]
              refine wpAnyH_takeD (i := 1) (d := some 55) (v := .bool false) rfl rfl (by kernel_rfl) (by kernel_rfl) (by kernel_rfl) (fun _ _ _ h => h) (Or.inl ⟨by rfl, fun _ hS => by obtain ⟨hS0, hS1, hS2⟩ := hS; go_simp⟩) hH ?_
              simp only [Act.put, List.setIfInBounds_toArray, List.set_cons_zero, List.set_cons_succ]
              refine wpAnyH_takeD (i := 2) (d := some 56) (v := .bool false) rfl rfl (by kernel_rfl) (by kernel_rfl) (by kernel_rfl) (fun _ _ _ h => h) (Or.inl ⟨by rfl, fun _ _ => by go_simp⟩) hH ?_
              simp only [Act.put, List.setIfInBounds_toArray, List.set_cons_zero, List.set_cons_succ]
              refine wpAnyH_takeD (i := 3) (d := some 57) (v := undef) rfl rfl (by kernel_rfl) (by kernel_rfl) (by kernel_rfl) (fun _ _ _ h => h) (Or.inr ⟨by rfl, rfl⟩) hH ?_
              simp only [Act.put, List.setIfInBounds_toArray, List.set_cons_zero, List.set_cons_succ]
              refine wpAnyH_takeD (i := 4) (d := some 58) (v := undef) rfl rfl (by kernel_rfl) (by kernel_rfl) (by kernel_rfl) (fun _ _ _ h => h) (Or.inr ⟨by rfl, rfl⟩) hH ?_
              simp only [Act.put, List.setIfInBounds_toArray, List.set_cons_zero, List.set_cons_succ]
              refine wpAnyH_takeD (i := 5) (d := some 59) (v := undef) rfl rfl (by kernel_rfl) (by kernel_rfl) (by kernel_rfl) (fun _ _ _ h => h) (Or.inr ⟨by rfl, rfl⟩) hH ?_
              simp only [Act.put, List.setIfInBounds_toArray, List.set_cons_zero, List.set_cons_succ]
              refine wpAnyH_takeD (i := 6) (d := some 60) (v := undef) rfl rfl (by kernel_rfl) (by kernel_rfl) (by kernel_rfl) (fun _ _ _ h => h) (Or.inr ⟨by rfl, rfl⟩) hH ?_
              simp only [Act.put, List.setIfInBounds_toArray, List.set_cons_zero, List.set_cons_succ]
              refine wpAnyH_takeD (i := 7) (d := some 61) (v := undef) rfl rfl (by kernel_rfl) (by kernel_rfl) (by kernel_rfl) (fun _ _ _ h => h) (Or.inr ⟨by rfl, rfl⟩) hH ?_
              simp only [Act.put, List.setIfInBounds_toArray, List.set_cons_zero, List.set_cons_succ]
              refine wpAnyH_takeD (i := 8) (d := some 62) (v := undef) rfl rfl (by kernel_rfl) (by kernel_rfl) (by kernel_rfl) (fun _ _ _ h => h) (Or.inr ⟨by rfl, rfl⟩) hH ?_
              simp only [Act.put, List.setIfInBounds_toArray, List.set_cons_zero, List.set_cons_succ]
              refine wpAnyH_takeD (i := 9) (d := some 63) (v := undef) rfl rfl (by kernel_rfl) (by kernel_rfl) (by kernel_rfl) (fun _ _ _ h => h) (Or.inr ⟨by rfl, rfl⟩) hH ?_
              simp only [Act.put, List.setIfInBounds_toArray, List.set_cons_zero, List.set_cons_succ]
              refine wpAnyH_takeD (i := 10) (d := some 64) (v := undef) rfl rfl (by kernel_rfl) (by kernel_rfl) (by kernel_rfl) (fun _ _ _ h => h) (Or.inr ⟨by rfl, rfl⟩) hH ?_
              simp only [Act.put, List.setIfInBounds_toArray, List.set_cons_zero, List.set_cons_succ]
              refine wpAnyH_takeD (i := 11) (d := some 65) (v := undef) rfl rfl (by kernel_rfl) (by kernel_rfl) (by kernel_rfl) (fun _ _ _ h => h) (Or.inr ⟨by rfl, rfl⟩) hH ?_
              simp only [Act.put, List.setIfInBounds_toArray, List.set_cons_zero, List.set_cons_succ]
              refine wpAnyH_takeD (i := 12) (d := some 66) (v := undef) rfl rfl (by kernel_rfl) (by kernel_rfl) (by kernel_rfl) (fun _ _ _ h => h) (Or.inr ⟨by rfl, rfl⟩) hH ?_
              simp only [Act.put, List.setIfInBounds_toArray, List.set_cons_zero, List.set_cons_succ]
              refine wpAnyH_takeD (i := 13) (d := some 67) (v := undef) rfl rfl (by kernel_rfl) (by kernel_rfl) (by kernel_rfl) (fun _ _ _ h => h) (Or.inr ⟨by rfl, rfl⟩) hH ?_
              simp only [Act.put, List.setIfInBounds_toArray, List.set_cons_zero, List.set_cons_succ]
              refine wpAnyH_takeD (i := 14) (d := some 68) (v := .bool false) rfl rfl (by kernel_rfl) (by kernel_rfl) (by kernel_rfl) (fun _ _ _ h => h) (Or.inl ⟨by rfl, fun _ _ => by go_simp⟩) hH ?_
              simp only [Act.put, List.setIfInBounds_toArray, List.set_cons_zero, List.set_cons_succ]
              refine wpAnyH_done (by kernel_rfl) ?_ _
              go_wp2
              go_roundw
              case rel => exact ⟨k + 1, _, by omega, by go_num, by rw [HS.out]; exact HFQ.out.later (Below.drew (Below.refl _ _)), Below.drew HBQ.out⟩
              case measure => simp [intOf]; omega
          · have HS : Hid (c.sends id (k + 1) = c.sends id k) := by unfold Hid; rw [sends_succ, HW0.out, tq, tt]; simp
            rw [tt] at q3
            have HTo : Hid (∀ wx, wx = wr.drew → Calls Try.prog 70 #[.slice a2 c.ops.length c2, .int .i64 (ofL k)] wx fun e w' => e = .returned (.bool true) ∧ Hid (Below wr.heap.size wr w') ∧ (fun w' : World => w'.cell? ⟨w.heap.size, 1, none⟩ = some (.bool false) ∧ w'.cell? ⟨w.heap.size, 2, none⟩ = some (.slice a2 c.ops.length c2) ∧ w'.cell? ⟨w.heap.size, 3 + k, none⟩ = some (.bool true)) w') := by
              rintro wx rfl
              refine (touchesShard_any a2 c2 c.ops (ofL k) _ HSo.out.2.1 (OpsIn.at (HOps.out.later (w' := wr.drew) (fun b _ hb => HBw.out.block b hb.2)))).mono ?_
              rintro e w5 ⟨rfl, hb5⟩
              have hb5' : Below wr.heap.size wr w5 := (Below.drew (Below.refl _ _)).trans hb5
              refine ⟨by rw [tq], hb5', ?_, ?_, ?_⟩
              · rw [hb5'.cell (p := ⟨w.heap.size, 1, none⟩) hwr]; exact q1
              · rw [hb5'.cell (p := ⟨w.heap.size, 2, none⟩) hwr]; exact q2
              · rw [hb5'.cell (p := ⟨w.heap.size, 3 + k, none⟩) hwr]; exact q3
            go_wp2
            refine wp_region_held_drew (S := fun w' : World => w'.cell? ⟨w.heap.size, 1, none⟩ = some (.bool false) ∧ w'.cell? ⟨w.heap.size, 2, none⟩ = some (.slice a2 c.ops.length c2) ∧ w'.cell? ⟨w.heap.size, 3 + k, none⟩ = some (.bool true)) (by kernel_rfl) ⟨q1, q2, q3⟩ ?_
            intro hH
            refine wpAnyH_takeD (i := 0) (d := some 29) (v := .pointer (some ⟨w.heap.size, 1, none⟩)) rfl rfl (by kernel_rfl) (by kernel_rfl) (by kernel_rfl) (fun _ _ _ h => h) (Or.inl ⟨by rfl, fun _ _ => by go_simp⟩) hH ?_
            simp only [Act.put, List.setIfInBounds_toArray, List.set_cons_zero, List.set_cons_succ]
            refine wpAnyH_takeD (i := 1) (d := some 30) (v := .bool false) rfl rfl (by kernel_rfl) (by kernel_rfl) (by kernel_rfl) (fun _ _ _ h => h) (Or.inl ⟨by rfl, fun _ hS => by obtain ⟨hS0, hS1, hS2⟩ := hS; go_simp⟩) hH ?_
            simp only [Act.put, List.setIfInBounds_toArray, List.set_cons_zero, List.set_cons_succ]
            refine wpAnyH_takeD (i := 2) (d := some 31) (v := .bool true) rfl rfl (by kernel_rfl) (by kernel_rfl) (by kernel_rfl) (fun _ _ _ h => h) (Or.inl ⟨by rfl, fun _ _ => by go_simp⟩) hH ?_
            simp only [Act.put, List.setIfInBounds_toArray, List.set_cons_zero, List.set_cons_succ]
            refine wpAnyH_takeD (i := 3) (d := some 32) (v := .bool true) rfl rfl (by kernel_rfl) (by kernel_rfl) (by kernel_rfl) (fun _ _ _ h => h) (Or.inl ⟨by rfl, fun _ _ => by go_simp⟩) hH ?_
            simp only [Act.put, List.setIfInBounds_toArray, List.set_cons_zero, List.set_cons_succ]
            refine wpAnyH_takeD (i := 4) (d := some 33) (v := .pointer (some ⟨w.heap.size, 2, none⟩)) rfl rfl (by kernel_rfl) (by kernel_rfl) (by kernel_rfl) (fun _ _ _ h => h) (Or.inl ⟨by rfl, fun _ _ => by go_simp⟩) hH ?_
            simp only [Act.put, List.setIfInBounds_toArray, List.set_cons_zero, List.set_cons_succ]
            refine wpAnyH_takeD (i := 5) (d := some 34) (v := .slice a2 c.ops.length c2) rfl rfl (by kernel_rfl) (by kernel_rfl) (by kernel_rfl) (fun _ _ _ h => h) (Or.inl ⟨by rfl, fun _ hS => by obtain ⟨hS0, hS1, hS2⟩ := hS; go_simp⟩) hH ?_
            simp only [Act.put, List.setIfInBounds_toArray, List.set_cons_zero, List.set_cons_succ]
            refine wpAnyH_takeD (i := 6) (d := some 35) (v := .int .i64 k) rfl rfl (by kernel_rfl) (by kernel_rfl) (by kernel_rfl) (fun _ _ _ h => h) (Or.inl ⟨by rfl, fun _ _ => by go_simp⟩) hH ?_
            simp only [Act.put, List.setIfInBounds_toArray, List.set_cons_zero, List.set_cons_succ]
            refine wpAnyH_ready (rs := [7]) (by kernel_rfl) (by simp) ?_
            refine AllReadyH.cons rfl (fun K hK => ?_) AllReadyH.nil
            go_simp
            refine (ofNode_any _ _).mono ?_
            rintro e w7 ⟨rfl, hw7⟩
            subst hw7
            go_wp2_with fail
            refine hK.out _ _ (hH) (fun hH2 => ?_)
            clear hK K hH
            have hH := hH2
            clear hH2
            refine wpAnyH_ready (rs := [8]) (by kernel_rfl) (by simp) ?_
            refine AllReadyH.cons rfl (fun K hK => ?_) AllReadyH.nil
            go_simp
            refine (HTo.out _ rfl).mono ?_
            rintro e w5 ⟨rfl, HB5, hS5⟩
            go_wp2_with fail
            refine hK.out _ _ (hS5) (fun hH2 => ?_)
            clear hK K hH
            have hH := hH2
            clear hH2
            refine wpAnyH_takeD (i := 9) (d := some 38) (v := .bool true) rfl rfl (by kernel_rfl) (by kernel_rfl) (by kernel_rfl) (fun _ _ _ h => h) (Or.inl ⟨by rfl, fun _ _ => by go_simp⟩) hH ?_
            simp only [Act.put, List.setIfInBounds_toArray, List.set_cons_zero, List.set_cons_succ]
            refine wpAnyH_takeD (i := 10) (d := some 39) (v := .bool true) rfl rfl (by kernel_rfl) (by kernel_rfl) (by kernel_rfl) (fun _ _ _ h => h) (Or.inl ⟨by rfl, fun _ _ => by go_simp⟩) hH ?_
            simp only [Act.put, List.setIfInBounds_toArray, List.set_cons_zero, List.set_cons_succ]
            refine wpAnyH_takeD (i := 11) (d := some 40) (v := .int .i64 k) rfl rfl (by kernel_rfl) (by kernel_rfl) (by kernel_rfl) (fun _ _ _ h => h) (Or.inl ⟨by rfl, fun _ _ => by go_simp⟩) hH ?_
            simp only [Act.put, List.setIfInBounds_toArray, List.set_cons_zero, List.set_cons_succ]
            refine wpAnyH_takeD (i := 12) (d := some 41) (v := .pointer (some ⟨w.heap.size, 3, none⟩)) rfl rfl (by kernel_rfl) (by kernel_rfl) (by kernel_rfl) (fun _ _ _ h => h) (Or.inl ⟨by rfl, fun _ _ => by go_simp⟩) hH ?_
            simp only [Act.put, List.setIfInBounds_toArray, List.set_cons_zero, List.set_cons_succ]
            refine wpAnyH_takeD (i := 13) (d := some 42) (v := .pointer (some ⟨w.heap.size, 3 + k, none⟩)) rfl rfl (by kernel_rfl) (by kernel_rfl) (by kernel_rfl) (fun _ _ _ h => h) (Or.inl ⟨by rfl, fun _ _ => by go_simp⟩) hH ?_
            simp only [Act.put, List.setIfInBounds_toArray, List.set_cons_zero, List.set_cons_succ]
            refine wpAnyH_takeD (i := 14) (d := some 43) (v := .bool true) rfl rfl (by kernel_rfl) (by kernel_rfl) (by kernel_rfl) (fun _ _ _ h => h) (Or.inl ⟨by rfl, fun _ hS => by obtain ⟨hS0, hS1, hS2⟩ := hS; go_simp⟩) hH ?_
            simp only [Act.put, List.setIfInBounds_toArray, List.set_cons_zero, List.set_cons_succ]
            refine wpAnyH_takeD (i := 15) (d := some 44) (v := .bool false) rfl rfl (by kernel_rfl) (by kernel_rfl) (by kernel_rfl) (fun _ _ _ h => h) (Or.inl ⟨by rfl, fun _ _ => by go_simp⟩) hH ?_
            simp only [Act.put, List.setIfInBounds_toArray, List.set_cons_zero, List.set_cons_succ]
            refine wpAnyH_takeD (i := 16) (d := some 45) (v := .bool false) rfl rfl (by kernel_rfl) (by kernel_rfl) (by kernel_rfl) (fun _ _ _ h => h) (Or.inl ⟨by rfl, fun _ _ => by go_simp⟩) hH ?_
            simp only [Act.put, List.setIfInBounds_toArray, List.set_cons_zero, List.set_cons_succ]
            refine wpAnyH_done (by kernel_rfl) ?_ _
            have HBl : Hid (Below wr.heap.size wr w5) := HB5.out
            have HBy : Hid (Below w2.heap.size w2 w5) := HBw.out.trans (HB5.out.mono hsz)
            clear q1 q2 q3
            have HXy : Hid (InBox w.heap.size w5 gr c) := HBB.out w5 HBy.out
            have q1 : w5.cell? ⟨w.heap.size, 1, none⟩ = some (.bool false) := by rw [HXy.out.fixed, HT1f.out]
            have q9 := HXy.out.known hlt
            have rgl := HXy.out.range
            obtain ⟨gl, hgl⟩ : ∃ gl, gl = gr.toList := ⟨_, rfl⟩
            rw [← hgl] at rgl
            clear hgl
            go_wp2
            refine wp_region_held_drew (S := fun w' : World => w'.cell? ⟨w.heap.size, 1, none⟩ = some (.bool false) ∧ w'.cell? ⟨w.heap.size, 9 + k, none⟩ = some (.bool (c.known k)) ∧ w'.rangeAt w.heap.size 0 gl) (by kernel_rfl) ⟨q1, q9, rgl⟩ ?_
            intro hH
            refine wpAnyH_takeD (i := 0) (d := some 54) (v := .pointer (some ⟨w.heap.size, 1, none⟩)) rfl rfl (by kernel_rfl) (by kernel_rfl) (by kernel_rfl) (fun _ _ _ h => h) (Or.inl ⟨by rfl, fun _ _ => by go_simp⟩) hH ?_
            simp only [Act.put, List.setIfInBounds_toArray, List.set_cons_zero, List.set_cons_succ]
            refine wpAnyH_takeD (i := 1) (d := some 55) (v := .bool false) rfl rfl (by kernel_rfl) (by kernel_rfl) (by kernel_rfl) (fun _ _ _ h => h) (Or.inl ⟨by rfl, fun _ hS => by obtain ⟨hS0, hS1, hS2⟩ := hS; go_simp⟩) hH ?_
            simp only [Act.put, List.setIfInBounds_toArray, List.set_cons_zero, List.set_cons_succ]
            refine wpAnyH_takeD (i := 2) (d := some 56) (v := .bool false) rfl rfl (by kernel_rfl) (by kernel_rfl) (by kernel_rfl) (fun _ _ _ h => h) (Or.inl ⟨by rfl, fun _ _ => by go_simp⟩) hH ?_
            simp only [Act.put, List.setIfInBounds_toArray, List.set_cons_zero, List.set_cons_succ]
            refine wpAnyH_takeD (i := 3) (d := some 57) (v := undef) rfl rfl (by kernel_rfl) (by kernel_rfl) (by kernel_rfl) (fun _ _ _ h => h) (Or.inr ⟨by rfl, rfl⟩) hH ?_
            simp only [Act.put, List.setIfInBounds_toArray, List.set_cons_zero, List.set_cons_succ]
            refine wpAnyH_takeD (i := 4) (d := some 58) (v := undef) rfl rfl (by kernel_rfl) (by kernel_rfl) (by kernel_rfl) (fun _ _ _ h => h) (Or.inr ⟨by rfl, rfl⟩) hH ?_
            simp only [Act.put, List.setIfInBounds_toArray, List.set_cons_zero, List.set_cons_succ]
            refine wpAnyH_takeD (i := 5) (d := some 59) (v := undef) rfl rfl (by kernel_rfl) (by kernel_rfl) (by kernel_rfl) (fun _ _ _ h => h) (Or.inr ⟨by rfl, rfl⟩) hH ?_
            simp only [Act.put, List.setIfInBounds_toArray, List.set_cons_zero, List.set_cons_succ]
            refine wpAnyH_takeD (i := 6) (d := some 60) (v := undef) rfl rfl (by kernel_rfl) (by kernel_rfl) (by kernel_rfl) (fun _ _ _ h => h) (Or.inr ⟨by rfl, rfl⟩) hH ?_
            simp only [Act.put, List.setIfInBounds_toArray, List.set_cons_zero, List.set_cons_succ]
            refine wpAnyH_takeD (i := 7) (d := some 61) (v := undef) rfl rfl (by kernel_rfl) (by kernel_rfl) (by kernel_rfl) (fun _ _ _ h => h) (Or.inr ⟨by rfl, rfl⟩) hH ?_
            simp only [Act.put, List.setIfInBounds_toArray, List.set_cons_zero, List.set_cons_succ]
            refine wpAnyH_takeD (i := 8) (d := some 62) (v := undef) rfl rfl (by kernel_rfl) (by kernel_rfl) (by kernel_rfl) (fun _ _ _ h => h) (Or.inr ⟨by rfl, rfl⟩) hH ?_
            simp only [Act.put, List.setIfInBounds_toArray, List.set_cons_zero, List.set_cons_succ]
            refine wpAnyH_takeD (i := 9) (d := some 63) (v := undef) rfl rfl (by kernel_rfl) (by kernel_rfl) (by kernel_rfl) (fun _ _ _ h => h) (Or.inr ⟨by rfl, rfl⟩) hH ?_
            simp only [Act.put, List.setIfInBounds_toArray, List.set_cons_zero, List.set_cons_succ]
            refine wpAnyH_takeD (i := 10) (d := some 64) (v := undef) rfl rfl (by kernel_rfl) (by kernel_rfl) (by kernel_rfl) (fun _ _ _ h => h) (Or.inr ⟨by rfl, rfl⟩) hH ?_
            simp only [Act.put, List.setIfInBounds_toArray, List.set_cons_zero, List.set_cons_succ]
            refine wpAnyH_takeD (i := 11) (d := some 65) (v := undef) rfl rfl (by kernel_rfl) (by kernel_rfl) (by kernel_rfl) (fun _ _ _ h => h) (Or.inr ⟨by rfl, rfl⟩) hH ?_
            simp only [Act.put, List.setIfInBounds_toArray, List.set_cons_zero, List.set_cons_succ]
            refine wpAnyH_takeD (i := 12) (d := some 66) (v := undef) rfl rfl (by kernel_rfl) (by kernel_rfl) (by kernel_rfl) (fun _ _ _ h => h) (Or.inr ⟨by rfl, rfl⟩) hH ?_
            simp only [Act.put, List.setIfInBounds_toArray, List.set_cons_zero, List.set_cons_succ]
            refine wpAnyH_takeD (i := 13) (d := some 67) (v := undef) rfl rfl (by kernel_rfl) (by kernel_rfl) (by kernel_rfl) (fun _ _ _ h => h) (Or.inr ⟨by rfl, rfl⟩) hH ?_
            simp only [Act.put, List.setIfInBounds_toArray, List.set_cons_zero, List.set_cons_succ]
            refine wpAnyH_takeD (i := 14) (d := some 68) (v := .bool false) rfl rfl (by kernel_rfl) (by kernel_rfl) (by kernel_rfl) (fun _ _ _ h => h) (Or.inl ⟨by rfl, fun _ _ => by go_simp⟩) hH ?_
            simp only [Act.put, List.setIfInBounds_toArray, List.set_cons_zero, List.set_cons_succ]
            refine wpAnyH_done (by kernel_rfl) ?_ _
            go_wp2
            go_roundw
            case rel => exact ⟨k + 1, _, by omega, by go_num, by rw [HS.out]; exact (HFk.out w5 HBl.out).later (Below.drew (Below.refl _ _)), Below.drew HBy.out⟩
            case measure => simp [intOf]; omega
      · have HT1f : Hid (c.fixed = true) := tf
        rw [tf] at q1
        have HW0 : Hid (c.wants k = (!c.known k || c.lacks (ofL k))) := wants_fixed tf
        have HMsg : Hid (c.msg id k = ⟨3, k, id, c.ops, c.deps, [], []⟩) := by unfold Hid CaseL.msg; rw [tf]; rfl
        clear tf
        go_wp2
        refine wp_region_held_drew (S := fun w' : World => w'.cell? ⟨w.heap.size, 1, none⟩ = some (.bool true) ∧ w'.cell? ⟨w.heap.size, 2, none⟩ = some (.slice a2 c.ops.length c2) ∧ w'.cell? ⟨w.heap.size, 3 + k, none⟩ = some (.bool (c.told k))) (by kernel_rfl) ⟨q1, q2, q3⟩ ?_
        intro hH
        refine wpAnyH_takeD (i := 0) (d := some 29) (v := .pointer (some ⟨w.heap.size, 1, none⟩)) rfl rfl (by kernel_rfl) (by kernel_rfl) (by kernel_rfl) (fun _ _ _ h => h) (Or.inl ⟨by rfl, fun _ _ => by go_simp⟩) hH ?_
        simp only [Act.put, List.setIfInBounds_toArray, List.set_cons_zero, List.set_cons_succ]
        refine wpAnyH_takeD (i := 1) (d := some 30) (v := .bool true) rfl rfl (by kernel_rfl) (by kernel_rfl) (by kernel_rfl) (fun _ _ _ h => h) (Or.inl ⟨by rfl, fun _ hS => by obtain ⟨hS0, hS1, hS2⟩ := hS; go_simp⟩) hH ?_
        simp only [Act.put, List.setIfInBounds_toArray, List.set_cons_zero, List.set_cons_succ]
        refine wpAnyH_takeD (i := 2) (d := some 31) (v := .bool false) rfl rfl (by kernel_rfl) (by kernel_rfl) (by kernel_rfl) (fun _ _ _ h => h) (Or.inl ⟨by rfl, fun _ _ => by go_simp⟩) hH ?_
        simp only [Act.put, List.setIfInBounds_toArray, List.set_cons_zero, List.set_cons_succ]
        refine wpAnyH_takeD (i := 3) (d := some 32) (v := .bool false) rfl rfl (by kernel_rfl) (by kernel_rfl) (by kernel_rfl) (fun _ _ _ h => h) (Or.inl ⟨by rfl, fun _ _ => by go_simp⟩) hH ?_
        simp only [Act.put, List.setIfInBounds_toArray, List.set_cons_zero, List.set_cons_succ]
        refine wpAnyH_takeD (i := 4) (d := some 33) (v := undef) rfl rfl (by kernel_rfl) (by kernel_rfl) (by kernel_rfl) (fun _ _ _ h => h) (Or.inr ⟨by rfl, rfl⟩) hH ?_
        simp only [Act.put, List.setIfInBounds_toArray, List.set_cons_zero, List.set_cons_succ]
        refine wpAnyH_takeD (i := 5) (d := some 34) (v := undef) rfl rfl (by kernel_rfl) (by kernel_rfl) (by kernel_rfl) (fun _ _ _ h => h) (Or.inr ⟨by rfl, rfl⟩) hH ?_
        simp only [Act.put, List.setIfInBounds_toArray, List.set_cons_zero, List.set_cons_succ]
        refine wpAnyH_takeD (i := 6) (d := some 35) (v := undef) rfl rfl (by kernel_rfl) (by kernel_rfl) (by kernel_rfl) (fun _ _ _ h => h) (Or.inr ⟨by rfl, rfl⟩) hH ?_
        simp only [Act.put, List.setIfInBounds_toArray, List.set_cons_zero, List.set_cons_succ]
        refine wpAnyH_takeD (i := 7) (d := some 36) (v := undef) rfl rfl (by kernel_rfl) (by kernel_rfl) (by kernel_rfl) (fun _ _ _ h => h) (Or.inr ⟨by rfl, rfl⟩) hH ?_
        simp only [Act.put, List.setIfInBounds_toArray, List.set_cons_zero, List.set_cons_succ]
        refine wpAnyH_takeD (i := 8) (d := some 37) (v := undef) rfl rfl (by kernel_rfl) (by kernel_rfl) (by kernel_rfl) (fun _ _ _ h => h) (Or.inr ⟨by rfl, rfl⟩) hH ?_
        simp only [Act.put, List.setIfInBounds_toArray, List.set_cons_zero, List.set_cons_succ]
        refine wpAnyH_takeD (i := 9) (d := some 38) (v := .bool false) rfl rfl (by kernel_rfl) (by kernel_rfl) (by kernel_rfl) (fun _ _ _ h => h) (Or.inl ⟨by rfl, fun _ _ => by go_simp⟩) hH ?_
        simp only [Act.put, List.setIfInBounds_toArray, List.set_cons_zero, List.set_cons_succ]
        refine wpAnyH_takeD (i := 10) (d := some 39) (v := .bool false) rfl rfl (by kernel_rfl) (by kernel_rfl) (by kernel_rfl) (fun _ _ _ h => h) (Or.inl ⟨by rfl, fun _ _ => by go_simp⟩) hH ?_
        simp only [Act.put, List.setIfInBounds_toArray, List.set_cons_zero, List.set_cons_succ]
        refine wpAnyH_takeD (i := 11) (d := some 40) (v := undef) rfl rfl (by kernel_rfl) (by kernel_rfl) (by kernel_rfl) (fun _ _ _ h => h) (Or.inr ⟨by rfl, rfl⟩) hH ?_
        simp only [Act.put, List.setIfInBounds_toArray, List.set_cons_zero, List.set_cons_succ]
        refine wpAnyH_takeD (i := 12) (d := some 41) (v := undef) rfl rfl (by kernel_rfl) (by kernel_rfl) (by kernel_rfl) (fun _ _ _ h => h) (Or.inr ⟨by rfl, rfl⟩) hH ?_
        simp only [Act.put, List.setIfInBounds_toArray, List.set_cons_zero, List.set_cons_succ]
        refine wpAnyH_takeD (i := 13) (d := some 42) (v := undef) rfl rfl (by kernel_rfl) (by kernel_rfl) (by kernel_rfl) (fun _ _ _ h => h) (Or.inr ⟨by rfl, rfl⟩) hH ?_
        simp only [Act.put, List.setIfInBounds_toArray, List.set_cons_zero, List.set_cons_succ]
        refine wpAnyH_takeD (i := 14) (d := some 43) (v := undef) rfl rfl (by kernel_rfl) (by kernel_rfl) (by kernel_rfl) (fun _ _ _ h => h) (Or.inr ⟨by rfl, rfl⟩) hH ?_
        simp only [Act.put, List.setIfInBounds_toArray, List.set_cons_zero, List.set_cons_succ]
        refine wpAnyH_takeD (i := 15) (d := some 44) (v := undef) rfl rfl (by kernel_rfl) (by kernel_rfl) (by kernel_rfl) (fun _ _ _ h => h) (Or.inr ⟨by rfl, rfl⟩) hH ?_
        simp only [Act.put, List.setIfInBounds_toArray, List.set_cons_zero, List.set_cons_succ]
        refine wpAnyH_takeD (i := 16) (d := some 45) (v := .bool false) rfl rfl (by kernel_rfl) (by kernel_rfl) (by kernel_rfl) (fun _ _ _ h => h) (Or.inl ⟨by rfl, fun _ _ => by go_simp⟩) hH ?_
        simp only [Act.put, List.setIfInBounds_toArray, List.set_cons_zero, List.set_cons_succ]
        refine wpAnyH_done (by kernel_rfl) ?_ _
        obtain ⟨Y, hY⟩ : ∃ Y, Y = wr.drew := ⟨_, rfl⟩
        have HBl0 : Hid (Below wr.heap.size wr Y) := by unfold Hid; rw [hY]; exact Below.drew (Below.refl _ _)
        have HBy : Hid (Below w2.heap.size w2 Y) := by unfold Hid; rw [hY]; exact HBw.out.drew
        have HXy : Hid (InBox w.heap.size Y gr c) := HBB.out Y HBy.out
        rw [← hY]
        clear hY q1 q2 q3
        have q1 : Y.cell? ⟨w.heap.size, 1, none⟩ = some (.bool true) := by rw [HXy.out.fixed, HT1f.out]
        have q9 := HXy.out.known hlt
        have rgl := HXy.out.range
        have zgl := HXy.out.case.len
        obtain ⟨gl, hgl⟩ : ∃ gl, gl = gr.toList := ⟨_, rfl⟩
        rw [← hgl] at rgl zgl
        have hzY := HBl0.out.size
        cases tk : c.known k
        · have HS : Hid (c.sends id (k + 1) = c.sends id k ++ [c.msg id k]) := by unfold Hid; rw [sends_succ, HW0.out, tk]; simp
          rw [tk] at q9
          clear hgl
          go_wp2
          refine wp_region_held_drew (S := fun w' : World => w'.cell? ⟨w.heap.size, 1, none⟩ = some (.bool true) ∧ w'.cell? ⟨w.heap.size, 9 + k, none⟩ = some (.bool false) ∧ w'.rangeAt w.heap.size 0 gl) (by kernel_rfl) ⟨q1, q9, rgl⟩ ?_
          intro hH
          refine wpAnyH_takeD (i := 0) (d := some 54) (v := .pointer (some ⟨w.heap.size, 1, none⟩)) rfl rfl (by kernel_rfl) (by kernel_rfl) (by kernel_rfl) (fun _ _ _ h => h) (Or.inl ⟨by rfl, fun _ _ => by go_simp⟩) hH ?_
          simp only [Act.put, List.setIfInBounds_toArray, List.set_cons_zero, List.set_cons_succ]
          refine wpAnyH_takeD (i := 1) (d := some 55) (v := .bool true) rfl rfl (by kernel_rfl) (by kernel_rfl) (by kernel_rfl) (fun _ _ _ h => h) (Or.inl ⟨by rfl, fun _ hS => by obtain ⟨hS0, hS1, hS2⟩ := hS; go_simp⟩) hH ?_
          simp only [Act.put, List.setIfInBounds_toArray, List.set_cons_zero, List.set_cons_succ]
          refine wpAnyH_takeD (i := 2) (d := some 56) (v := .bool true) rfl rfl (by kernel_rfl) (by kernel_rfl) (by kernel_rfl) (fun _ _ _ h => h) (Or.inl ⟨by rfl, fun _ _ => by go_simp⟩) hH ?_
          simp only [Act.put, List.setIfInBounds_toArray, List.set_cons_zero, List.set_cons_succ]
          refine wpAnyH_takeD (i := 3) (d := some 57) (v := .int .i64 k) rfl rfl (by kernel_rfl) (by kernel_rfl) (by kernel_rfl) (fun _ _ _ h => h) (Or.inl ⟨by rfl, fun _ _ => by go_simp⟩) hH ?_
          simp only [Act.put, List.setIfInBounds_toArray, List.set_cons_zero, List.set_cons_succ]
          refine wpAnyH_takeD (i := 4) (d := some 58) (v := .pointer (some ⟨w.heap.size, 9, none⟩)) rfl rfl (by kernel_rfl) (by kernel_rfl) (by kernel_rfl) (fun _ _ _ h => h) (Or.inl ⟨by rfl, fun _ _ => by go_simp⟩) hH ?_
          simp only [Act.put, List.setIfInBounds_toArray, List.set_cons_zero, List.set_cons_succ]
          refine wpAnyH_takeD (i := 5) (d := some 59) (v := .pointer (some ⟨w.heap.size, 9 + k, none⟩)) rfl rfl (by kernel_rfl) (by kernel_rfl) (by kernel_rfl) (fun _ _ _ h => h) (Or.inl ⟨by rfl, fun _ _ => by go_simp⟩) hH ?_
          simp only [Act.put, List.setIfInBounds_toArray, List.set_cons_zero, List.set_cons_succ]
          refine wpAnyH_takeD (i := 6) (d := some 60) (v := .bool false) rfl rfl (by kernel_rfl) (by kernel_rfl) (by kernel_rfl) (fun _ _ _ h => h) (Or.inl ⟨by rfl, fun _ hS => by obtain ⟨hS0, hS1, hS2⟩ := hS; go_simp⟩) hH ?_
          simp only [Act.put, List.setIfInBounds_toArray, List.set_cons_zero, List.set_cons_succ]
          refine wpAnyH_takeD (i := 7) (d := some 61) (v := .bool true) rfl rfl (by kernel_rfl) (by kernel_rfl) (by kernel_rfl) (fun _ _ _ h => h) (Or.inl ⟨by rfl, fun _ _ => by go_simp⟩) hH ?_
          simp only [Act.put, List.setIfInBounds_toArray, List.set_cons_zero, List.set_cons_succ]
          refine wpAnyH_takeD (i := 8) (d := some 62) (v := .bool true) rfl rfl (by kernel_rfl) (by kernel_rfl) (by kernel_rfl) (fun _ _ _ h => h) (Or.inl ⟨by rfl, fun _ _ => by go_simp⟩) hH ?_
          simp only [Act.put, List.setIfInBounds_toArray, List.set_cons_zero, List.set_cons_succ]
          refine wpAnyH_takeD (i := 9) (d := some 63) (v := undef) rfl rfl (by kernel_rfl) (by kernel_rfl) (by kernel_rfl) (fun _ _ _ h => h) (Or.inr ⟨by rfl, rfl⟩) hH ?_
          simp only [Act.put, List.setIfInBounds_toArray, List.set_cons_zero, List.set_cons_succ]
          refine wpAnyH_takeD (i := 10) (d := some 64) (v := undef) rfl rfl (by kernel_rfl) (by kernel_rfl) (by kernel_rfl) (fun _ _ _ h => h) (Or.inr ⟨by rfl, rfl⟩) hH ?_
          simp only [Act.put, List.setIfInBounds_toArray, List.set_cons_zero, List.set_cons_succ]
          refine wpAnyH_takeD (i := 11) (d := some 65) (v := undef) rfl rfl (by kernel_rfl) (by kernel_rfl) (by kernel_rfl) (fun _ _ _ h => h) (Or.inr ⟨by rfl, rfl⟩) hH ?_
          simp only [Act.put, List.setIfInBounds_toArray, List.set_cons_zero, List.set_cons_succ]
          refine wpAnyH_takeD (i := 12) (d := some 66) (v := undef) rfl rfl (by kernel_rfl) (by kernel_rfl) (by kernel_rfl) (fun _ _ _ h => h) (Or.inr ⟨by rfl, rfl⟩) hH ?_
          simp only [Act.put, List.setIfInBounds_toArray, List.set_cons_zero, List.set_cons_succ]
          refine wpAnyH_takeD (i := 13) (d := some 67) (v := .bool true) rfl rfl (by kernel_rfl) (by kernel_rfl) (by kernel_rfl) (fun _ _ _ h => h) (Or.inl ⟨by rfl, fun _ _ => by go_simp⟩) hH ?_
          simp only [Act.put, List.setIfInBounds_toArray, List.set_cons_zero, List.set_cons_succ]
          refine wpAnyH_takeD (i := 14) (d := some 68) (v := .bool true) rfl rfl (by kernel_rfl) (by kernel_rfl) (by kernel_rfl) (fun _ _ _ h => h) (Or.inl ⟨by rfl, fun _ _ => by go_simp⟩) hH ?_
          simp only [Act.put, List.setIfInBounds_toArray, List.set_cons_zero, List.set_cons_succ]
          refine wpAnyH_done (by kernel_rfl) ?_ _
          obtain ⟨w5, hw5⟩ : ∃ w5, w5 = Y.drew := ⟨_, rfl⟩
          have HBl : Hid (Below wr.heap.size wr w5) := by unfold Hid; rw [hw5]; exact HBl0.out.drew
          have HB5 : Hid (Below w2.heap.size w2 w5) := by unfold Hid; rw [hw5]; exact HBy.out.drew
          rw [← hw5]
          clear hw5 q1 q9 rgl
          have hzl := HB5.out.size
          have HXl : Hid (InBox w.heap.size w5 gr c) := HBB.out w5 HB5.out
          have v2 : w5.cell? ⟨w.heap.size, 2, none⟩ = some (.slice a2 c.ops.length c2) := by rw [HB5.out.cell (p := ⟨w.heap.size, 2, none⟩) hzb]; exact qo
          have v15 : w5.cell? ⟨w.heap.size, 15, none⟩ = some (.slice a15 c.deps.length c15) := by rw [HB5.out.cell (p := ⟨w.heap.size, 15, none⟩) hzb]; exact qd
          have HFl : Hid (FrC (fun b => lo ≤ b ∧ b < w2.heap.size) w2.heap.size w5 u5 (c.sends id k) css) := HFk.out w5 (by first | exact Below.refl _ _ | exact HBl.out)
          have HG : Hid (FrameIn (fun b => (lo ≤ b ∧ b < w2.heap.size) ∧ u5.ownBlock ≠ some b) w5 (.agg #[.int .i64 3, .int .i64 k, .int .i64 id, .slice a2 c.ops.length c2, .slice a15 c.deps.length c15, .slice none 0 0, .slice none 0 0]) (c.msg id k)) := by
            unfold Hid
            rw [HMsg.out]
            have ho := (HOps.out.later (w' := w5) (fun b _ hb => HB5.out.block b hb.2)).mono (ok' := fun b => (lo ≤ b ∧ b < w2.heap.size) ∧ u5.ownBlock ≠ some b) (fun b _ hb => ⟨hb, fun e => by have h1 := (World.ownsRow.lt HFl.out.own b e).1; have hb' : b < w2.heap.size := hb.2; omega⟩)
            have hd := (HDeps.out.later (w' := w5) (fun b _ hb => HB5.out.block b hb.2)).mono (ok' := fun b => (lo ≤ b ∧ b < w2.heap.size) ∧ u5.ownBlock ≠ some b) (fun b _ hb => ⟨hb, fun e => by have h1 := (World.ownsRow.lt HFl.out.own b e).1; have hb' : b < w2.heap.size := hb.2; omega⟩)
            exact ⟨a2, c2, a15, c15, none, 0, none, 0, rfl, ⟨⟨ho.at, HSo.out.2⟩, ho⟩, ⟨⟨hd.at, HSd.out.2⟩, hd⟩, slI_nil _ _, slI_nil _ _⟩
          have HOW : Hid ((w5.alloc (.cells #[.int .i64 3, .int .i64 k, .int .i64 id, .slice a2 c.ops.length c2, .slice a15 c.deps.length c15, .slice none 0 0, .slice none 0 0] 43)).ownsRow w2.heap.size 43 7 u5 (c.sends id k).length css.flatten) := HFl.out.own.alloc _
          have hl6 : (c.sends id k).length ≤ 6 := by have := sends_len c id k; omega
          obtain ⟨i0, hi, iz0, iz1, iz2⟩ := info_parts Try.infoFrameZ
          go_wp2_with (first
            | (at_builtin; refine wpList_append_own_at _ rfl _ _ 46 rfl w2.heap.size 43 i0 _ 7 120 Try.underlying46 hi iz0 iz1 iz2 rfl (by decide) _ _ _ rfl HOW.out ⟨w5.heap.size, 0, none⟩ 1 1 [.int .i64 3, .int .i64 k, .int .i64 id, .slice a2 c.ops.length c2, .slice a15 c.deps.length c15, .slice none 0 0, .slice none 0 0] rfl rfl (World.news_of_block (cs := #[.int .i64 3, .int .i64 k, .int .i64 id, .slice a2 c.ops.length c2, .slice a15 c.deps.length c15, .slice none 0 0, .slice none 0 0]) (t := 43) (fr := (0, 0)) (heap_new w5 _)) ?c2 ?c3 ?c4 ?c5 ?_)
            | go_in)
          case c2 =>
            intro u hu
            simp at hu
            rcases hu with rfl | rfl | rfl | rfl | rfl | rfl | rfl <;> rfl
          case c3 => unfold maxLen; omega
          case c4 => omega
          case c5 => rw [size_push]; omega
          · intro v' Q hown' hgrow _ hat
            have hbA : Below w5.heap.size w5 (w5.alloc (.cells #[.int .i64 3, .int .i64 k, .int .i64 id, .slice a2 c.ops.length c2, .slice a15 c.deps.length c15, .slice none 0 0, .slice none 0 0] 43)) := (Below.refl _ _).alloc (Nat.le_refl _) _
            have HFQ : Hid (FrC (fun b => lo ≤ b ∧ b < w2.heap.size) w2.heap.size Q v' (c.sends id k ++ [c.msg id k]) (css ++ [[.int .i64 3, .int .i64 k, .int .i64 id, .slice a2 c.ops.length c2, .slice a15 c.deps.length c15, .slice none 0 0, .slice none 0 0]])) := (HFl.out.later hbA).snoc rfl (HG.out.same (SameOn.of_size hbA)) hown' hgrow (by rw [size_push]; exact hat)
            have HBQ : Hid (Below w2.heap.size w2 Q) := (HB5.out.trans (hbA.mono (by omega))).grown hgrow (by rw [size_push]; omega) (fun b hb => (World.ownsRow.lt HFl.out.own b hb).1)
            clear hown' hgrow hat hbA HOW hi iz0 iz1 iz2 HFl HG v2 v15
            go_wp2
            go_roundw
            case rel => exact ⟨k + 1, _, by omega, by go_num, by rw [HS.out]; exact HFQ.out, HBQ.out⟩
            case measure => simp [intOf]; omega
        · rw [tk] at q9
          have HLk : Hid (∀ wx, wx = Y.drew → Calls Try.prog 92 #[.agg gl.toArray, .int .i64 (ofL k)] wx fun e w' => e = .returned (.bool (c.lacks (ofL k))) ∧ Hid (Below Y.heap.size Y w') ∧ (fun w' : World => w'.cell? ⟨w.heap.size, 1, none⟩ = some (.bool true) ∧ w'.cell? ⟨w.heap.size, 9 + k, none⟩ = some (.bool true) ∧ w'.rangeAt w.heap.size 0 gl) w') := by
            rintro wx rfl
            rw [hgl, Array.toArray_toList]
            refine (ref_lacks gr c (ofL k) _ (HXy.out.later (Below.drew (Below.refl _ _))).case h4).mono ?_
            rintro e w6 ⟨rfl, hb6⟩
            have hb6' : Below Y.heap.size Y w6 := (Below.drew (Below.refl _ _)).trans hb6
            refine ⟨rfl, hb6', ?_, ?_, ?_⟩
            · rw [hb6'.cell (p := ⟨w.heap.size, 1, none⟩) HXy.out.lt]; exact q1
            · rw [hb6'.cell (p := ⟨w.heap.size, 9 + k, none⟩) HXy.out.lt]; exact q9
            · rw [← hgl]; exact range_keep rgl hb6' HXy.out.lt
          clear hgl
          go_wp2
          refine wp_region_held_drew (S := fun w' : World => w'.cell? ⟨w.heap.size, 1, none⟩ = some (.bool true) ∧ w'.cell? ⟨w.heap.size, 9 + k, none⟩ = some (.bool true) ∧ w'.rangeAt w.heap.size 0 gl) (by kernel_rfl) ⟨q1, q9, rgl⟩ ?_
          intro hH
          refine wpAnyH_takeD (i := 0) (d := some 54) (v := .pointer (some ⟨w.heap.size, 1, none⟩)) rfl rfl (by kernel_rfl) (by kernel_rfl) (by kernel_rfl) (fun _ _ _ h => h) (Or.inl ⟨by rfl, fun _ _ => by go_simp⟩) hH ?_
          simp only [Act.put, List.setIfInBounds_toArray, List.set_cons_zero, List.set_cons_succ]
          refine wpAnyH_takeD (i := 1) (d := some 55) (v := .bool true) rfl rfl (by kernel_rfl) (by kernel_rfl) (by kernel_rfl) (fun _ _ _ h => h) (Or.inl ⟨by rfl, fun _ hS => by obtain ⟨hS0, hS1, hS2⟩ := hS; go_simp⟩) hH ?_
          simp only [Act.put, List.setIfInBounds_toArray, List.set_cons_zero, List.set_cons_succ]
          refine wpAnyH_takeD (i := 2) (d := some 56) (v := .bool true) rfl rfl (by kernel_rfl) (by kernel_rfl) (by kernel_rfl) (fun _ _ _ h => h) (Or.inl ⟨by rfl, fun _ _ => by go_simp⟩) hH ?_
          simp only [Act.put, List.setIfInBounds_toArray, List.set_cons_zero, List.set_cons_succ]
          refine wpAnyH_takeD (i := 3) (d := some 57) (v := .int .i64 k) rfl rfl (by kernel_rfl) (by kernel_rfl) (by kernel_rfl) (fun _ _ _ h => h) (Or.inl ⟨by rfl, fun _ _ => by go_simp⟩) hH ?_
          simp only [Act.put, List.setIfInBounds_toArray, List.set_cons_zero, List.set_cons_succ]
          refine wpAnyH_takeD (i := 4) (d := some 58) (v := .pointer (some ⟨w.heap.size, 9, none⟩)) rfl rfl (by kernel_rfl) (by kernel_rfl) (by kernel_rfl) (fun _ _ _ h => h) (Or.inl ⟨by rfl, fun _ _ => by go_simp⟩) hH ?_
          simp only [Act.put, List.setIfInBounds_toArray, List.set_cons_zero, List.set_cons_succ]
          refine wpAnyH_takeD (i := 5) (d := some 59) (v := .pointer (some ⟨w.heap.size, 9 + k, none⟩)) rfl rfl (by kernel_rfl) (by kernel_rfl) (by kernel_rfl) (fun _ _ _ h => h) (Or.inl ⟨by rfl, fun _ _ => by go_simp⟩) hH ?_
          simp only [Act.put, List.setIfInBounds_toArray, List.set_cons_zero, List.set_cons_succ]
          refine wpAnyH_takeD (i := 6) (d := some 60) (v := .bool true) rfl rfl (by kernel_rfl) (by kernel_rfl) (by kernel_rfl) (fun _ _ _ h => h) (Or.inl ⟨by rfl, fun _ hS => by obtain ⟨hS0, hS1, hS2⟩ := hS; go_simp⟩) hH ?_
          simp only [Act.put, List.setIfInBounds_toArray, List.set_cons_zero, List.set_cons_succ]
          refine wpAnyH_takeD (i := 7) (d := some 61) (v := .bool false) rfl rfl (by kernel_rfl) (by kernel_rfl) (by kernel_rfl) (fun _ _ _ h => h) (Or.inl ⟨by rfl, fun _ _ => by go_simp⟩) hH ?_
          simp only [Act.put, List.setIfInBounds_toArray, List.set_cons_zero, List.set_cons_succ]
          refine wpAnyH_takeD (i := 8) (d := some 62) (v := .bool false) rfl rfl (by kernel_rfl) (by kernel_rfl) (by kernel_rfl) (fun _ _ _ h => h) (Or.inl ⟨by rfl, fun _ _ => by go_simp⟩) hH ?_
          simp only [Act.put, List.setIfInBounds_toArray, List.set_cons_zero, List.set_cons_succ]
          refine wpAnyH_takeD (i := 9) (d := some 63) (v := .agg gl.toArray) rfl rfl (by kernel_rfl) (by kernel_rfl) (by kernel_rfl) (fun _ _ _ h => h) (yieldsIf_load_mid (by rfl) _ _ rfl _ _ rfl gl _ (fun _ h => h.2.2) Try.underlying73 rfl zgl) hH ?_
          simp only [Act.put, List.setIfInBounds_toArray, List.set_cons_zero, List.set_cons_succ]
          refine wpAnyH_takeD (i := 10) (d := some 64) (v := .int .i64 k) rfl rfl (by kernel_rfl) (by kernel_rfl) (by kernel_rfl) (fun _ _ _ h => h) (Or.inl ⟨by rfl, fun _ _ => by go_simp⟩) hH ?_
          simp only [Act.put, List.setIfInBounds_toArray, List.set_cons_zero, List.set_cons_succ]
          refine wpAnyH_ready (rs := [11]) (by kernel_rfl) (by simp) ?_
          refine AllReadyH.cons rfl (fun K hK => ?_) AllReadyH.nil
          go_simp
          refine (ofNode_any _ _).mono ?_
          rintro e w7 ⟨rfl, hw7⟩
          subst hw7
          go_wp2_with fail
          refine hK.out _ _ (hH) (fun hH2 => ?_)
          clear hK K hH
          have hH := hH2
          clear hH2
          refine wpAnyH_ready (rs := [12]) (by kernel_rfl) (by simp) ?_
          refine AllReadyH.cons rfl (fun K hK => ?_) AllReadyH.nil
          go_simp
          refine (HLk.out _ rfl).mono ?_
          rintro e w6 ⟨rfl, HB6, hS6⟩
          go_wp2_with fail
          refine hK.out _ _ (hS6) (fun hH2 => ?_)
          clear hK K hH
          have hH := hH2
          clear hH2
          refine wpAnyH_takeD (i := 13) (d := some 67) (v := .bool (c.lacks (ofL k))) rfl rfl (by kernel_rfl) (by kernel_rfl) (by kernel_rfl) (fun _ _ _ h => h) (Or.inl ⟨by rfl, fun _ _ => by go_simp⟩) hH ?_
          simp only [Act.put, List.setIfInBounds_toArray, List.set_cons_zero, List.set_cons_succ]
          refine wpAnyH_takeD (i := 14) (d := some 68) (v := .bool (c.lacks (ofL k))) rfl rfl (by kernel_rfl) (by kernel_rfl) (by kernel_rfl) (fun _ _ _ h => h) (Or.inl ⟨by rfl, fun _ _ => by go_simp⟩) hH ?_
          simp only [Act.put, List.setIfInBounds_toArray, List.set_cons_zero, List.set_cons_succ]
          refine wpAnyH_done (by kernel_rfl) ?_ _
          have HBl : Hid (Below wr.heap.size wr w6) := HBl0.out.trans (HB6.out.mono hzY)
          have HBz : Hid (Below w2.heap.size w2 w6) := HBy.out.trans (HB6.out.mono (by omega))
          clear q1 q9 rgl
          cases tl : c.lacks (ofL k)
          · have HS : Hid (c.sends id (k + 1) = c.sends id k) := by unfold Hid; rw [sends_succ, HW0.out, tk, tl]; simp
            go_wp2
            go_roundw
            case rel => exact ⟨k + 1, _, by omega, by go_num, by rw [HS.out]; exact HFk.out w6 HBl.out, HBz.out⟩
            case measure => simp [intOf]; omega
          · have HS : Hid (c.sends id (k + 1) = c.sends id k ++ [c.msg id k]) := by unfold Hid; rw [sends_succ, HW0.out, tk, tl]; simp
            have hzl := HBz.out.size
            have HXl : Hid (InBox w.heap.size w6 gr c) := HBB.out w6 HBz.out
            have v2 : w6.cell? ⟨w.heap.size, 2, none⟩ = some (.slice a2 c.ops.length c2) := by rw [HBz.out.cell (p := ⟨w.heap.size, 2, none⟩) hzb]; exact qo
            have v15 : w6.cell? ⟨w.heap.size, 15, none⟩ = some (.slice a15 c.deps.length c15) := by rw [HBz.out.cell (p := ⟨w.heap.size, 15, none⟩) hzb]; exact qd
            have HFl : Hid (FrC (fun b => lo ≤ b ∧ b < w2.heap.size) w2.heap.size w6 u5 (c.sends id k) css) := HFk.out w6 (by first | exact Below.refl _ _ | exact HBl.out)
            have HG : Hid (FrameIn (fun b => (lo ≤ b ∧ b < w2.heap.size) ∧ u5.ownBlock ≠ some b) w6 (.agg #[.int .i64 3, .int .i64 k, .int .i64 id, .slice a2 c.ops.length c2, .slice a15 c.deps.length c15, .slice none 0 0, .slice none 0 0]) (c.msg id k)) := by
              unfold Hid
              rw [HMsg.out]
              have ho := (HOps.out.later (w' := w6) (fun b _ hb => HBz.out.block b hb.2)).mono (ok' := fun b => (lo ≤ b ∧ b < w2.heap.size) ∧ u5.ownBlock ≠ some b) (fun b _ hb => ⟨hb, fun e => by have h1 := (World.ownsRow.lt HFl.out.own b e).1; have hb' : b < w2.heap.size := hb.2; omega⟩)
              have hd := (HDeps.out.later (w' := w6) (fun b _ hb => HBz.out.block b hb.2)).mono (ok' := fun b => (lo ≤ b ∧ b < w2.heap.size) ∧ u5.ownBlock ≠ some b) (fun b _ hb => ⟨hb, fun e => by have h1 := (World.ownsRow.lt HFl.out.own b e).1; have hb' : b < w2.heap.size := hb.2; omega⟩)
              exact ⟨a2, c2, a15, c15, none, 0, none, 0, rfl, ⟨⟨ho.at, HSo.out.2⟩, ho⟩, ⟨⟨hd.at, HSd.out.2⟩, hd⟩, slI_nil _ _, slI_nil _ _⟩
            have HOW : Hid ((w6.alloc (.cells #[.int .i64 3, .int .i64 k, .int .i64 id, .slice a2 c.ops.length c2, .slice a15 c.deps.length c15, .slice none 0 0, .slice none 0 0] 43)).ownsRow w2.heap.size 43 7 u5 (c.sends id k).length css.flatten) := HFl.out.own.alloc _
            have hl6 : (c.sends id k).length ≤ 6 := by have := sends_len c id k; omega
            obtain ⟨i0, hi, iz0, iz1, iz2⟩ := info_parts Try.infoFrameZ
            go_wp2_with (first
              | (at_builtin; refine wpList_append_own_at _ rfl _ _ 46 rfl w2.heap.size 43 i0 _ 7 120 Try.underlying46 hi iz0 iz1 iz2 rfl (by decide) _ _ _ rfl HOW.out ⟨w6.heap.size, 0, none⟩ 1 1 [.int .i64 3, .int .i64 k, .int .i64 id, .slice a2 c.ops.length c2, .slice a15 c.deps.length c15, .slice none 0 0, .slice none 0 0] rfl rfl (World.news_of_block (cs := #[.int .i64 3, .int .i64 k, .int .i64 id, .slice a2 c.ops.length c2, .slice a15 c.deps.length c15, .slice none 0 0, .slice none 0 0]) (t := 43) (fr := (0, 0)) (heap_new w6 _)) ?c2 ?c3 ?c4 ?c5 ?_)
              | go_in)
            case c2 =>
              intro u hu
              simp at hu
              rcases hu with rfl | rfl | rfl | rfl | rfl | rfl | rfl <;> rfl
            case c3 => unfold maxLen; omega
            case c4 => omega
            case c5 => rw [size_push]; omega
            · intro v' Q hown' hgrow _ hat
              have hbA : Below w6.heap.size w6 (w6.alloc (.cells #[.int .i64 3, .int .i64 k, .int .i64 id, .slice a2 c.ops.length c2, .slice a15 c.deps.length c15, .slice none 0 0, .slice none 0 0] 43)) := (Below.refl _ _).alloc (Nat.le_refl _) _
              have HFQ : Hid (FrC (fun b => lo ≤ b ∧ b < w2.heap.size) w2.heap.size Q v' (c.sends id k ++ [c.msg id k]) (css ++ [[.int .i64 3, .int .i64 k, .int .i64 id, .slice a2 c.ops.length c2, .slice a15 c.deps.length c15, .slice none 0 0, .slice none 0 0]])) := (HFl.out.later hbA).snoc rfl (HG.out.same (SameOn.of_size hbA)) hown' hgrow (by rw [size_push]; exact hat)
              have HBQ : Hid (Below w2.heap.size w2 Q) := (HBz.out.trans (hbA.mono (by omega))).grown hgrow (by rw [size_push]; omega) (fun b hb => (World.ownsRow.lt HFl.out.own b hb).1)
              clear hown' hgrow hat hbA HOW hi iz0 iz1 iz2 HFl HG v2 v15
              go_wp2
              go_roundw
              case rel => exact ⟨k + 1, _, by omega, by go_num, by rw [HS.out]; exact HFQ.out, HBQ.out⟩
              case measure => simp [intOf]; omega
    · have hk6 : k = 6 := by omega
      subst hk6
      have HF : Hid (FrC (fun b => lo ≤ b ∧ b < w2.heap.size) w2.heap.size wr u5 (c.sends id 6) css) := hF
      have HBw : Hid (Below w.heap.size w wr) := HbW.out.trans (hBw.mono (by omega))
      clear hF hBw
      go_wp2
      go_ret
      exact ⟨_, rfl, by rw [HE.out]; exact HF.out.v (by omega) (fun b hb => hb.1), HBw.out⟩

end Go.Proofs.Ytkoefoccbjhoiab
