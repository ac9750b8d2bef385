/-
  The contract of the document's own OrderOf.
-/
import Derived.Test.YtkoefoccbjhoiaaGRefD
set_option linter.unusedVariables false
set_option linter.unusedSimpArgs false
namespace Go.Proofs.Ytkoefoccbjhoiaa
open Go.RowKit

def matF (R : Nat → Nat → Bool) (o : Nat) : Value := .bool (R (o / 32) (o % 32))
/-- 32 times 32 truths at block P. -/
def MatAt (w : World) (P : Nat) (R : Nat → Nat → Bool) : Prop := BlkAt 1024 w P (matF R)
theorem MatAt.cell {w : World} {P : Nat} {R : Nat → Nat → Bool} (h : MatAt w P R) {a j : Nat} (ha : a < 32) (hj : j < 32) : w.cell? ⟨P, a * 32 + j, none⟩ = some (.bool (R a j)) := by
  rw [BlkAt.cell h (by omega)]
  unfold matF
  rw [show (a * 32 + j) / 32 = a by omega, show (a * 32 + j) % 32 = j by omega]
theorem MatAt.putRow {w : World} {P : Nat} {R : Nat → Nat → Bool} (h : MatAt w P R) {a : Nat} (ha : a < 32) (T : Nat → Bool) : MatAt (w.setCells P (a * 32) (bools 32 T).toList) P (upd R a T) := by
  refine (BlkAt.puts (bools 32 T).toList (a * 32) h (by simp [bools_size]; omega)).congr fun i _ => ?_
  have hl : (bools 32 T).toList.length = 32 := by simp [bools]
  rw [hl]
  unfold matF upd
  by_cases e : a * 32 ≤ i ∧ i < a * 32 + 32
  · rw [if_pos e]
    obtain ⟨j, rfl⟩ : ∃ j, i = a * 32 + j := ⟨i - a * 32, by omega⟩
    have hj : j < 32 := by omega
    rw [show a * 32 + j - a * 32 = j by omega, show (a * 32 + j) / 32 = a by omega, show (a * 32 + j) % 32 = j by omega]
    simp [bools, hj]
  · rw [if_neg e, if_neg (show ¬ i / 32 = a by omega)]
theorem MatAt.congr {w : World} {P : Nat} {R R' : Nat → Nat → Bool} (h : MatAt w P R) (e : ∀ a j, a < 32 → j < 32 → R a j = R' a j) : MatAt w P R' :=
  BlkAt.congr h fun i hi => by unfold matF; rw [e _ _ (by omega) (by omega)]

theorem Try.zeroMat : (Try.prog.info? 87).map (fun i => (i.zero, i.size)) = some (some (.agg (rowF 1024 (matF fun _ _ => false))), 1024) := by kernel_rfl

/-- The least from k on that may be placed: nx; -1: there is none. -/
def Least (p : Nat → Bool) (k : Nat) (nx : Int) : Prop :=
  (nx = -1 ∧ ∀ y, k ≤ y → y < 32 → p y = false) ∨ ∃ y : Nat, nx = y ∧ k ≤ y ∧ y < 32 ∧ p y = true ∧ ∀ z, k ≤ z → z < y → p z = false
theorem Least.start (p : Nat → Bool) : Least p 32 (-1) := Or.inl ⟨rfl, fun y h1 h2 => by omega⟩
theorem Least.miss {p : Nat → Bool} {x : Nat} {nx : Int} (h : Least p (x + 1) nx) (hx : p x = false) : Least p x nx := by
  rcases h with ⟨h1, h2⟩ | ⟨y, h1, h2, h3, h4, h5⟩
  · refine Or.inl ⟨h1, fun y hy hy' => ?_⟩
    by_cases e : y = x
    · rw [e]; exact hx
    · exact h2 y (by omega) hy'
  · refine Or.inr ⟨y, h1, by omega, h3, h4, fun z hz hz' => ?_⟩
    by_cases e : z = x
    · rw [e]; exact hx
    · exact h5 z (by omega) hz'
theorem Least.hit {p : Nat → Bool} {x : Nat} (hx : p x = true) (hl : x < 32) : Least p x (x : Int) := Or.inr ⟨x, rfl, Nat.le_refl _, hl, hx, fun z h1 h2 => by omega⟩

def freeS (H : Nat → Nat → Bool) (out : List Nat) (x k : Nat) : Bool := (List.range k).all fun m => !H x m || H m x || out.contains m
theorem freeS_succ (H : Nat → Nat → Bool) (out : List Nat) (x k : Nat) : freeS H out x (k + 1) = (freeS H out x k && (!H x k || H k x || out.contains k)) := by
  unfold freeS
  rw [List.range_succ, List.all_append]
  simp
theorem mayS_free {H : Nat → Nat → Bool} {D : Nat → Bool} {out : List Nat} {x : Nat} (hd : D x = true) (ho : out.contains x = false) : mayS H D (fun i => out.contains i) x = freeS H out x 32 := by
  unfold mayS freeS
  simp only [hd, ho, Bool.not_false, Bool.and_true, Bool.true_and]
  congr 1
  funext m
  cases H x m <;> cases H m x <;> cases out.contains m <;> rfl
theorem mayS_not {H : Nat → Nat → Bool} {D : Nat → Bool} {out : List Nat} {x : Nat} (h : D x = false ∨ out.contains x = true) : mayS H D (fun i => out.contains i) x = false := by
  unfold mayS
  rcases h with h | h
  · rw [h]; rfl
  · simp only [h]; simp
theorem has_nat (l : List Nat) (m : Nat) : hasL (ints l) (m : Int) = l.contains m := by
  rw [Bool.eq_iff_iff]
  unfold hasL eqB ints
  simp only [List.any_map, List.any_eq_true, Function.comp_def, beq_iff_eq, List.contains_iff_mem]
  constructor
  · rintro ⟨x, h1, h2⟩
    have : x = m := by omega
    rw [← this]; exact h1
  · intro h; exact ⟨m, h, rfl⟩
def ringTo (H : Nat → Nat → Bool) (y k : Nat) : List Nat := (List.range k).filter fun m => H y m && H m y
theorem ringTo_hit {H : Nat → Nat → Bool} {y k : Nat} (h : (H y k && H k y) = true) : ringTo H y (k + 1) = ringTo H y k ++ [k] := by
  unfold ringTo
  rw [List.range_succ, List.filter_append]
  simp [h]
theorem ringTo_miss {H : Nat → Nat → Bool} {y k : Nat} (h : (H y k && H k y) = false) : ringTo H y (k + 1) = ringTo H y k := by
  unfold ringTo
  rw [List.range_succ, List.filter_append]
  simp [h]
theorem ringTo_len (H : Nat → Nat → Bool) (y k : Nat) : (ringTo H y k).length ≤ k := by
  unfold ringTo
  have := List.length_filter_le (fun m => H y m && H m y) (List.range k)
  simpa using this

/-- Where the document's loop ends. -/
theorem outS_done {H : Nat → Nat → Bool} {D : Nat → Bool} {j : Nat} (hc : Clo H D) (hj : j ≤ (outS H D j).length) (h : 32 ≤ (outS H D j).length ∨ nextS H D (fun i => (outS H D j).contains i) = []) : outS H D 32 = outS H D j := by
  have hl := (laid_at hc j).len hc
  have hn : nextS H D (fun i => (outS H D j).contains i) = [] := by
    rcases h with h | h
    · have h2 := (laid_at hc (j + 1)).len hc
      have e : outS H D (j + 1) = outS H D j ++ nextS H D (fun i => (outS H D j).contains i) := rfl
      rw [e, List.length_append] at h2
      exact List.eq_nil_of_length_eq_zero (by omega)
    · exact h
  obtain ⟨i, hi⟩ : ∃ i, 32 = j + i := ⟨32 - j, by omega⟩
  rw [hi]
  exact outS_stays hn i

set_option maxRecDepth 100000 in
set_option maxHeartbeats 2000000 in
theorem orderOf_any (gv : Nat → Value) (g : GraphL) (n : Int) (w : World) (hg : GraphC w.heap.size w gv g) :
    Calls Try.prog 61 #[.agg (rowF 64 gv), .int .i64 n] w fun e w' => ∃ v, e = .returned v ∧ w'.ownsRow w.heap.size 3 1 v (ints (orderI g n)).length (intCells (ints (orderI g n))) ∧ Below w.heap.size w w' := by
  obtain ⟨gr, hgr⟩ : ∃ gr, gr = rowF 64 gv := ⟨_, rfl⟩
  rw [← hgr]
  have hb0 : Below w.heap.size w (w.alloc (.cells gr 63)) := (Below.refl _ _).alloc (Nat.le_refl _) _
  have hz0 : (w.alloc (.cells gr 63)).heap.size = w.heap.size + 1 := size_push _ _
  have hbox : GBox w.heap.size (w.alloc (.cells gr 63)) gv g gr := ⟨heap_new _ _, hgr, (hg.later hb0).mono (by omega)⟩
  have hsg := hbox.size
  have HGR : Hid (gr = rowF 64 gv) := hgr
  clear hgr hg
  go_enter Try.func61, Try.ntmps61
  go_upto_region 1 with fail
  obtain ⟨W, hW⟩ : ∃ W, W = w.alloc (.cells gr 63) := ⟨_, rfl⟩
  rw [← hW] at hb0 hz0 hbox ⊢
  clear hW
  have hr0 := hbox.row
  have hrd := readyIn_any gv g n W hbox.lists
  rw [← HGR.out] at hrd
  have HBX : Hid (GBox w.heap.size W gv g gr) := hbox
  have HB0 : Hid (Below w.heap.size w W) := hb0
  have hlW : w.heap.size < W.heap.size := by omega
  clear hbox hb0 hz0
  cases tr : readyI g n
  · rw [tr] at hrd
    have E : Hid (orderI g n = []) := by unfold Hid orderI; rw [tr]; rfl
    go_wp2_with (first
      | (refine wpList_load_row rfl 63 _ rfl w.heap.size rfl 63 gr (0, 0) _ hr0 Try.underlying63 rfl hsg ?_)
      | (go_at_call 59; refine hrd.mono ?_; rintro e w1 ⟨rfl, hb1⟩))
    go_ret
    exact ⟨_, rfl, by rw [E.out]; exact World.ownsRow_nil _ _ _ _, HB0.out.trans (hb1.mono (by omega))⟩
  · rw [tr] at hrd
    have h1 := tr
    unfold readyI at h1
    rw [Bool.and_eq_true] at h1
    obtain ⟨m, rfl⟩ := Int.eq_ofNat_of_zero_le (show 0 ≤ n by have := h1.1; unfold txnB' at this; simp at this; omega)
    have hm : m < 32 := by have := h1.1; unfold txnB' at this; simp at this; omega
    have m1 : (0 : Int) ≤ (m : Int) ∧ (m : Int) < 32 := by omega
    have EO : Hid (orderI g (m : Int) = outS (hangB g) (hangB g m) 32) := by unfold Hid orderI; rw [tr, ← order_spec g hm]; rfl
    have HCLO : Hid (Clo (hangB g) (hangB g m)) := clo_hang g hm
    clear h1 tr
    go_wp2_with (first
      | (refine wpList_load_row rfl 63 _ rfl w.heap.size rfl 63 gr (0, 0) _ hr0 Try.underlying63 rfl hsg ?_))
    refine hrd.mono ?_
    rintro e w1 ⟨rfl, hb1⟩
    have hs1 := hb1.size
    have hbox1 := HBX.out.later hb1
    have HBX1 : Hid (GBox w.heap.size w1 gv g gr) := hbox1
    have HB1 : Hid (Below w.heap.size w w1) := HB0.out.trans (hb1.mono (by omega))
    obtain ⟨zm, hzm⟩ : ∃ zm, zm = rowF 1024 (matF fun _ _ => false) := ⟨_, rfl⟩
    have hzv : ∀ wx, (zeroValue 87).run Try.prog wx = .ok (.agg zm) wx := by rw [hzm]; exact (zero_of_info Try.zeroMat).1
    have HZM : Hid (zm = rowF 1024 (matF fun _ _ => false)) := hzm
    clear hzm hrd hr0 hb1 hbox1
    go_upto_region 4 with fail
    -- SECOND HALF
    obtain ⟨W2, hW2⟩ : ∃ W2, W2 = w1.alloc (.cells zm 87) := ⟨_, rfl⟩
    have hM2 : MatAt W2 w1.heap.size (fun _ _ => false) := ⟨87, by rw [hW2, ← HZM.out]; exact heap_new _ _⟩
    have hb2 : Below w1.heap.size w1 W2 := by rw [hW2]; exact (Below.refl _ _).alloc (Nat.le_refl _) _
    have HZ2 : Hid (W2.heap.size = w1.heap.size + 1) := by unfold Hid; rw [hW2]; exact size_push _ _
    rw [← hW2]
    have HBX3 : Hid (Below w1.heap.size w1 W2) := hb2
    have HBX2 : Hid (GBox w.heap.size W2 gv g gr) := HBX1.out.later hb2
    have HB2 : Hid (Below w.heap.size w W2) := HB1.out.trans (hb2.mono (by omega))
    clear hW2 hb2 hzv
    obtain ⟨H, hH⟩ : ∃ H, H = hangB g := ⟨_, rfl⟩
    obtain ⟨D, hD⟩ : ∃ D, D = H m := ⟨_, rfl⟩
    have HDm : Hid (∀ x, H m x = D x) := fun x => by rw [hD]
    rw [← hH] at EO HCLO
    rw [← hD] at EO HCLO
    have HH : Hid (H = hangB g) := hH
    clear hH hD
    go_wp2_with fail
    go_loopw [17] (fun i wr => ∃ k : Nat, k ≤ 32 ∧ i = .int .i64 k ∧ MatAt wr w1.heap.size (fun a j => decide (a < k) && H a j) ∧ W2.grownBy wr (some w1.heap.size)) (fun i _ => 32 - (intOf i).toNat)
    case atStart => exact ⟨0, Nat.zero_le _, rfl, hM2.congr (by simp), World.grownBy.refl _ _⟩
    case round =>
      obtain ⟨k, hk, rfl, hM, hG⟩ := hrel
      clear hM2
      have hz2 := HZ2.out
      have hgz := hG.size
      have hbl : w.heap.size < w1.heap.size := HBX1.out.lt
      by_cases hlt : k < 32
      · have k1 : (0 : Int) ≤ (k : Int) ∧ (k : Int) < 32 := by omega
        have hbg : Below w1.heap.size W2 wr := (Below.refl _ _).grown hG (by omega) (by intro q hq; cases hq; exact Nat.le_refl _)
        have hrow : wr.heap[w.heap.size]? = some (.cells gr 63 (0, 0)) := by rw [hbg.block _ hbl]; exact HBX2.out.row
        have hre := reaches_any gv g (k : Int) wr (((HBX1.out.lists.later ((HBX3).out)).later hbg).mono (by omega))
        rw [← HGR.out] at hre
        have hrek : reachI g (k : Int) = hangB g k := by
          funext j
          unfold reachI
          have : txnB' (k : Int) = true := by simp [txnB']; omega
          rw [this]
          rfl
        rw [hrek, ← HH.out] at hre
        have HM : Hid (MatAt wr w1.heap.size (fun a j => decide (a < k) && H a j)) := hM
        have HG : Hid (W2.grownBy wr (some w1.heap.size)) := hG
        clear hM hG hrek hbg
        go_wp2_with (first
          | (refine wpList_load_row rfl 63 _ rfl w.heap.size rfl 63 gr (0, 0) _ hrow Try.underlying63 rfl hsg ?_))
        refine hre.mono ?_
        rintro e w3 ⟨rfl, hb3⟩
        have hM3 : MatAt w3 w1.heap.size (fun a j => decide (a < k) && H a j) := BlkAt.later HM.out hb3 (by omega)
        have hth : w3.there w1.heap.size (k * 32) (bools 32 (H k)).size := by rw [bools_size]; exact BlkAt.there hM3 (by omega)
        have HM3 : Hid (MatAt w3 w1.heap.size (fun a j => decide (a < k) && H a j)) := hM3
        have HG3 : Hid (W2.grownBy w3 (some w1.heap.size)) := grown_trans HG.out (below_grown hb3 _)
        clear hre hb3 hM3 hrow
        go_wp2_with (first
          | (refine wpList_store_mid rfl 60 _ _ rfl w1.heap.size (k * 32) (bools 32 (H k)) ?e1 ?e2 ?e3 ?e4 ?e5 ?_))
        case e1 => rfl
        case e2 => rfl
        case e3 => exact hth
        case e4 => exact Try.sizeSet' _
        case e5 => exact bools_all _ _
        go_roundw
        case rel =>
          refine ⟨k + 1, by omega, by go_num, (HM3.out.putRow hlt (H k)).congr (fun a j ha hj => ?_), grown_puts HG3.out _ _⟩
          unfold upd
          by_cases e : a = k
          · subst e; simp
          · have : decide (a < k + 1) = decide (a < k) := by rw [Bool.eq_iff_iff]; simp; omega
            rw [if_neg e, this]
        case measure => simp [intOf]; omega
      · have hMR : MatAt wr w1.heap.size H := hM.congr (fun a j ha _ => by rw [decide_eq_true (show a < k by omega), Bool.true_and])
        have HMR : Hid (MatAt wr w1.heap.size H) := hMR
        obtain ⟨W4, hW4⟩ : ∃ W4, W4 = wr := ⟨_, rfl⟩
        rw [← hW4] at HMR hG hgz ⊢
        have HB4 : Hid (Below w.heap.size w W4) := HB2.out.grown hG (by omega) (by intro q hq; cases hq; omega)
        clear hW4 hM hMR hG
        have HP4 : Hid (w1.heap.size + 1 ≤ W4.heap.size) := by unfold Hid; omega
        clear hk
        go_wp2_with fail
        go_loopw [7] (fun v7 wr => ∃ j : Nat, j ≤ (outS H D j).length ∧ Own wr w1.heap.size v7 (outS H D j) ∧ Below (w1.heap.size + 1) W4 wr) (fun v7 _ => 32 - lenOf v7)
        case atStart => exact ⟨0, Nat.zero_le _, World.ownsRow_nil _ _ _ _, Below.refl _ _⟩
        case round =>
          obtain ⟨j, hj, ho7, hBr⟩ := hrel
          obtain ⟨wo, hwo⟩ : ∃ wo, wo = wr := ⟨_, rfl⟩
          subst hwo
          have HJ : Hid (outS H D (j + 1) = outS H D j ++ nextS H D fun i => (outS H D j).contains i) := rfl
          have HL : Hid ((outS H D (j + 1)).length ≤ 32) := (laid_at HCLO.out (j + 1)).len HCLO.out
          have HDONE : Hid (32 ≤ (outS H D j).length ∨ nextS H D (fun i => (outS H D j).contains i) = [] → outS H D 32 = outS H D j) := outS_done HCLO.out hj
          have HJJ : Hid (j ≤ (outS H D j).length) := hj
          obtain ⟨out, hout⟩ : ∃ out, out = outS H D j := ⟨_, rfl⟩
          rw [← hout] at ho7 HJ HDONE HJJ
          clear hout hj
          obtain ⟨a7, cap7, hv7, _, _⟩ := own_form ho7
          obtain ⟨b7, d7, hx7, hi7⟩ := IntsAt.of_owns ho7
          rw [hv7] at hx7
          cases hx7
          have HO7 : Hid (Own wo w1.heap.size u7 out) := ho7
          have HV7 : Hid (u7 = .slice a7 (ints out).length cap7) := hv7
          have HBr : Hid (Below (w1.heap.size + 1) W4 wo) := hBr
          have HIL : Hid ((ints out).length = out.length) := ints_len out
          have HMo : Hid (MatAt wo w1.heap.size H) := BlkAt.later HMR.out hBr (by omega)
          have HBo : Hid (Below w.heap.size w wo) := HB4.out.trans (hBr.mono (by omega))
          by_cases hlen : (ints out).length < 32
          · have hlI : ((ints out).length : Int) < 32 := by omega
            have hhas := fun x => ref_has a7 cap7 (ints out) x wo (by unfold maxLen; omega) hi7
            have HHS : Hid (∀ x : Nat, Calls Try.prog 69 #[.slice a7 (ints out).length cap7, .int .i64 (x : Int)] wo fun e w' => e = .returned (.bool (out.contains x)) ∧ wo = w') := fun x => by
              have := hhas (x : Int)
              rw [has_nat] at this
              exact this.mono fun e w' h => ⟨h.1, h.2.symm⟩
            rw [hv7]
            clear hhas hi7 ho7 hv7 hBr
            go_wp2_with fail
            go_loop [8, 9] (fun v8 v9 => ∃ (k : Nat) (nx : Int), k ≤ 32 ∧ v8 = .int .i64 nx ∧ v9 = .int .i64 ((k : Int) - 1) ∧ Least (mayS H D fun i => out.contains i) k nx) (fun _ v9 => (intOf v9 + 1).toNat)
            case atStart => exact ⟨32, -1, Nat.le_refl _, rfl, rfl, Least.start _⟩
            case round =>
              obtain ⟨k, nx, hk, rfl, rfl, hLe⟩ := hrel
              have HLe : Hid (Least (mayS H D fun i => out.contains i) k nx) := hLe
              cases k with
              | zero =>
                rcases hLe with ⟨rfl, hall⟩ | ⟨y, rfl, _, hy, hp, hleast⟩
                · have E : Hid (orderI g (m : Int) = out) := EO.out.trans (HDONE.out (Or.inr (nextS_none fun x hx => hall x (Nat.zero_le _) hx)))
                  clear hall HLe
                  go_wp2_with fail
                  go_ret
                  refine ⟨_, rfl, ?_, HBo.out⟩
                  rw [E.out, ← HV7.out]
                  exact own_mono HO7.out (by omega)
                · have HNX : Hid (outS H D (j + 1) = out ++ ringTo H y 32) := by
                    unfold Hid
                    rw [HJ.out, nextS_some hy hp (fun z hz => hleast z (Nat.zero_le _) hz)]
                    rfl
                  have y1 : (0 : Int) ≤ (y : Int) ∧ (y : Int) < 32 := by omega
                  have hyn : ¬ (y : Int) < 0 := by omega
                  have hpy : y ∈ ringTo H y 32 := by
                    have hd := (mayS_iff.1 hp).1
                    exact mem_ringS.2 ⟨hy, HCLO.out.refl y hy hd, HCLO.out.refl y hy hd⟩
                  have HPY : Hid (0 < (ringTo H y 32).length) := List.length_pos_of_mem hpy
                  clear hleast hp HLe hpy
                  go_wp2_with fail
                  obtain ⟨i0, hi, hz0, hz1, hz2'⟩ := info_parts Try.infoInt
                  have HOL : Hid (out.length < 32) := by have := HIL.out; unfold Hid; omega
                  go_loopw [7, 73] (fun v7 i wr => ∃ q : Nat, q ≤ 32 ∧ i = .int .i64 q ∧ Own wr w1.heap.size v7 (out ++ ringTo H y q) ∧ Below (w1.heap.size + 1) W4 wr) (fun _ i _ => 32 - (intOf i).toNat)
                  case atStart => exact ⟨0, Nat.zero_le _, rfl, by rw [← HV7.out]; simpa [ringTo] using HO7.out, HBr.out⟩
                  case round =>
                    obtain ⟨q, hq, rfl, hown, hBq⟩ := hrel
                    have hqz := hBq.size
                    have hp4 := HP4.out
                    have HBq : Hid (Below (w1.heap.size + 1) W4 wr) := hBq
                    by_cases hql : q < 32
                    · have q1 : (0 : Int) ≤ (q : Int) ∧ (q : Int) < 32 := by omega
                      have hMq : MatAt wr w1.heap.size H := BlkAt.later HMR.out hBq (by omega)
                      have cq : wr.cell? ⟨w1.heap.size, q * 32 + y, none⟩ = some (.bool (H q y)) := hMq.cell hql hy
                      have cy : wr.cell? ⟨w1.heap.size, y * 32 + q, none⟩ = some (.bool (H y q)) := hMq.cell hy hql
                      have HO : Hid (Own wr w1.heap.size u7 (out ++ ringTo H y q)) := hown
                      have hrl := ringTo_len H y q
                      clear hMq hBq
                      cases tq : H q y
                      · rw [tq] at cq
                        have HM : Hid (ringTo H y (q + 1) = ringTo H y q) := ringTo_miss (by rw [tq, Bool.and_false])
                        clear hown
                        go_wp2_with fail
                        go_roundw
                        case rel => exact ⟨q + 1, by omega, by go_num, by rw [HM.out]; exact HO.out, HBq.out⟩
                        case measure => simp [intOf]; omega
                      · rw [tq] at cq
                        cases tyq : H y q
                        · rw [tyq] at cy
                          have HM : Hid (ringTo H y (q + 1) = ringTo H y q) := ringTo_miss (by rw [tyq, Bool.false_and])
                          clear hown
                          go_wp2_with fail
                          go_roundw
                          case rel => exact ⟨q + 1, by omega, by go_num, by rw [HM.out]; exact HO.out, HBq.out⟩
                          case measure => simp [intOf]; omega
                        · rw [tyq] at cy
                          have HM : Hid (out ++ ringTo H y (q + 1) = (out ++ ringTo H y q) ++ [q]) := by unfold Hid; rw [ringTo_hit (by rw [tyq, tq]; rfl), List.append_assoc]
                          obtain ⟨got, hgot⟩ : ∃ got, got = out ++ ringTo H y q := ⟨_, rfl⟩
                          have hgl : (ints got).length ≤ 64 := by rw [ints_len, hgot, List.length_append]; have := HOL.out; omega
                          rw [← hgot] at hown HM
                          have hownR : wr.ownsRow (w1.heap.size + 1) 3 1 u7 (ints got).length (intCells (ints got)) := hown
                          clear hgot HO
                          go_wp2_with (first
                            | (at_builtin; refine wpList_append_own _ rfl _ _ 32 rfl (w1.heap.size + 1) 3 i0 (.int .i64 0) 1 8 Try.underlying32 hi hz0 hz1 hz2' rfl (by decide) _ _ _ rfl (hownR.alloc _) ⟨wr.heap.size, 0, none⟩ 1 1 [.int .i64 q] rfl rfl ?c1 ?c2 ?c3 ?c4 ?c5 ?_)
                            | go_in)
                          case c1 =>
                            intro jj u hjj
                            match jj, hjj with
                            | 0, hjj => simp at hjj; subst hjj; simp [Addr.add]
                          case c2 => intro u hu; simp at hu; subst hu; rfl
                          case c3 => unfold maxLen; omega
                          case c4 => omega
                          case c5 => simp; omega
                          intro v' w7 hown' hgrow _
                          have hB7 : Below (w1.heap.size + 1) W4 w7 := (HBq.out.alloc (by omega) _).grown hgrow (by rw [size_push]; omega) (by
                            intro kk hkk
                            have := (World.ownsRow.lt hownR kk hkk).1
                            omega)
                          have ho7' := Own.snoc hown'
                          clear hgrow hownR hown
                          go_wp2_with fail
                          go_roundw
                          case rel => exact ⟨q + 1, by omega, by go_num, by rw [HM.out]; exact ho7', hB7⟩
                          case measure => simp [intOf]; omega
                    · obtain rfl : q = 32 := by omega
                      obtain ⟨a9, cap9, hv9, _, _⟩ := own_form hown
                      have HV9 : Hid (u7 = .slice a9 (ints (out ++ ringTo H y 32)).length cap9) := hv9
                      have HO : Hid (Own wr w1.heap.size u7 (out ++ ringTo H y 32)) := hown
                      clear hown hv9 hBq
                      go_wp2
                      go_roundw
                      case rel =>
                        refine ⟨j + 1, ?_, by rw [HNX.out]; exact HO.out, HBq.out⟩
                        rw [HNX.out, List.length_append]
                        have := HJJ.out
                        have := HPY.out
                        omega
                      case measure =>
                        rw [HV9.out]
                        simp [lenOf]
                        have h1 := HL.out
                        rw [HNX.out, List.length_append] at h1
                        rw [ints_len, ints_len, List.length_append]
                        have := HPY.out
                        omega
              | succ x =>
                have ex : (((x + 1 : Nat) : Int) - 1) = (x : Int) := by omega
                rw [ex]
                clear hLe
                have hx32 : x < 32 := by omega
                have x1 : (0 : Int) ≤ (x : Int) ∧ (x : Int) < 32 := by omega
                have c0 : wo.cell? ⟨w1.heap.size, m * 32 + x, none⟩ = some (.bool (D x)) := by rw [HMo.out.cell hm hx32, HDm.out]
                have hhx := HHS.out x
                cases td : D x
                · rw [td] at c0
                  go_wp2_with fail
                  go_round
                  case rel => exact ⟨x, nx, by omega, rfl, rfl, HLe.out.miss (mayS_not (Or.inl td))⟩
                  case measure => simp [intOf] <;> omega
                · rw [td] at c0
                  cases tox : out.contains x
                  · rw [tox] at hhx
                    go_wp2_with fail
                    refine hhx.mono ?_
                    rintro e w' ⟨rfl, rfl⟩
                    go_wp2_with fail
                    go_loop [10, 44] (fun v10 v44 => ∃ d : Nat, d ≤ 32 ∧ v44 = .int .i64 d ∧ v10 = .bool (freeS H out x d)) (fun _ v44 => 32 - (intOf v44).toNat)
                    case atStart => exact ⟨0, Nat.zero_le _, rfl, rfl⟩
                    case round =>
                      obtain ⟨d, hd, rfl, hv10⟩ := hrel
                      by_cases hdl : d < 32
                      · have d1 : (0 : Int) ≤ (d : Int) ∧ (d : Int) < 32 := by omega
                        have HF := freeS_succ H out x d
                        have cx : wo.cell? ⟨w1.heap.size, x * 32 + d, none⟩ = some (.bool (H x d)) := HMo.out.cell hx32 hdl
                        have cd : wo.cell? ⟨w1.heap.size, d * 32 + x, none⟩ = some (.bool (H d x)) := HMo.out.cell hdl hx32
                        have hhd := HHS.out d
                        cases tf : freeS H out x d
                        · rw [tf] at hv10 HF
                          rw [hv10]
                          have HF' : Hid (freeS H out x (d + 1) = false) := HF
                          clear HF hv10 cx cd hhd
                          go_wp2_with fail
                          go_round
                          case rel => exact ⟨d + 1, by omega, by go_num, by rw [HF'.out]⟩
                          case measure => simp [intOf]; omega
                        · rw [tf] at hv10 HF
                          rw [hv10]
                          clear hv10
                          cases tx : H x d
                          · rw [tx] at cx HF
                            have HF' : Hid (freeS H out x (d + 1) = true) := HF
                            clear HF cd hhd
                            go_wp2_with fail
                            go_round
                            case rel => exact ⟨d + 1, by omega, by go_num, by rw [HF'.out]⟩
                            case measure => simp [intOf]; omega
                          · rw [tx] at cx HF
                            cases tdx : H d x
                            · rw [tdx] at cd HF
                              have HF' : Hid (freeS H out x (d + 1) = out.contains d) := HF
                              clear HF
                              obtain ⟨od, hod⟩ : ∃ od, od = out.contains d := ⟨_, rfl⟩
                              rw [← hod] at hhd HF'
                              clear hod
                              go_wp2_with fail
                              refine hhd.mono ?_
                              rintro e w' ⟨rfl, rfl⟩
                              go_wp2_with fail
                              go_round
                              case rel => exact ⟨d + 1, by omega, by go_num, by rw [HF'.out]⟩
                              case measure => simp [intOf]; omega
                            · rw [tdx] at cd HF
                              have HF' : Hid (freeS H out x (d + 1) = true) := HF
                              clear HF hhd
                              go_wp2_with fail
                              go_round
                              case rel => exact ⟨d + 1, by omega, by go_num, by rw [HF'.out]⟩
                              case measure => simp [intOf]; omega
                      · obtain rfl : d = 32 := by omega
                        have HMF : Hid (mayS H D (fun i => out.contains i) x = freeS H out x 32) := mayS_free td tox
                        cases tf : freeS H out x 32
                        · rw [tf] at hv10
                          rw [hv10]
                          have HM0 : Hid (mayS H D (fun i => out.contains i) x = false) := HMF.out.trans tf
                          clear hv10
                          go_wp2
                          go_round
                          case rel => exact ⟨x, nx, by omega, rfl, rfl, HLe.out.miss HM0.out⟩
                          case measure => simp [intOf] <;> omega
                        · rw [tf] at hv10
                          rw [hv10]
                          have HM0 : Hid (mayS H D (fun i => out.contains i) x = true) := HMF.out.trans tf
                          clear hv10
                          go_wp2
                          go_round
                          case rel => exact ⟨x, (x : Int), by omega, rfl, rfl, Least.hit HM0.out hx32⟩
                          case measure => simp [intOf] <;> omega
                  · rw [tox] at hhx
                    go_wp2_with fail
                    refine hhx.mono ?_
                    rintro e w' ⟨rfl, rfl⟩
                    go_wp2_with fail
                    go_round
                    case rel => exact ⟨x, nx, by omega, rfl, rfl, HLe.out.miss (mayS_not (Or.inr tox))⟩
                    case measure => simp [intOf] <;> omega
          · have hlI : ¬ ((ints out).length : Int) < 32 := by omega
            have E : Hid (orderI g (m : Int) = out) := EO.out.trans (HDONE.out (Or.inl (by have := HIL.out; omega)))
            rw [hv7]
            clear hi7 ho7 hv7 hBr
            go_wp2_with fail
            go_ret
            refine ⟨_, rfl, ?_, HBo.out⟩
            rw [E.out, ← HV7.out]
            exact own_mono HO7.out (by omega)

end Go.Proofs.Ytkoefoccbjhoiaa
