/-
  The walk of the statement GraphParts.
-/
import Derived.Test.YtkoefoccbjhoiabGOrders
import Derived.Test.YtkoefoccbjhoiabKSame
import Derived.Test.YtkoefoccbjhoiabKHas
import Derived.Deep.WholeRow
set_option linter.unusedVariables false
set_option linter.unusedSimpArgs false
namespace Go.Proofs.Ytkoefoccbjhoiab
open Go.RowKit

theorem has_ints (l : List Nat) (m : Int) : hasL (ints l) m = true ↔ ∃ k : Nat, (k : Int) = m ∧ k ∈ l := by
  unfold hasL eqB ints
  simp only [List.any_map, List.any_eq_true, Function.comp_def, beq_iff_eq]
  constructor
  · rintro ⟨x, h1, h2⟩; exact ⟨x, h2, h1⟩
  · rintro ⟨x, h1, h2⟩; exact ⟨x, h2, h1⟩

/-- What stands in the order of n, too, is ready; and its order is part of that order. -/
theorem parts_math {g : GraphL} {n : Int} {k : Nat} (hr : readyI g n = true) (hk : k ∈ orderI g n) : k < 32 ∧ orderI g (k : Int) = (orderI g n).filter (hangB g k) := by
  have h1 := hr
  unfold readyI at h1
  rw [Bool.and_eq_true] at h1
  have hn : n.toNat < 32 := by have := h1.1; unfold txnB' at this; simp at this; omega
  have eo : orderI g n = outS (hangB g) (hangB g n.toNat) 32 := by unfold orderI; rw [hr, ← order_spec g hn]; rfl
  rw [eo] at hk ⊢
  have hc := clo_hang g hn
  have hd := (outS_all hc k).1 hk
  have hk' := hc.lt k hd
  refine ⟨hk', ?_⟩
  have hrk : readyI g (k : Int) = true := by
    unfold readyI
    rw [Bool.and_eq_true]
    refine ⟨by simp [txnB']; omega, knowsB_iff.2 fun i hi h => ?_⟩
    exact knowsB_iff.1 h1.2 i hi (hc.closed k i hd h)
  have e2 : orderI g (k : Int) = outS (hangB g) (hangB g k) 32 := by unfold orderI; rw [hrk, ← order_spec g hk']; rfl
  rw [e2]
  exact (outS_parts hc (clo_hang g hk') (fun x hx => hc.closed k x hd hx)).symm

theorem order_lt (g : GraphL) (n : Int) : ∀ x ∈ orderI g n, x < 32 := by
  intro x hx
  unfold orderI at hx
  split at hx
  · exact (placed_at _ _ 32).lt x hx
  · simp at hx
theorem order_len (g : GraphL) (n : Int) : (orderI g n).length ≤ 32 := by
  unfold orderI
  split
  · exact (placed_at _ _ 32).len
  · simp

theorem filter_hit {p : Nat → Bool} {l : List Nat} {k x : Nat} (hk : k < l.length) (hx : l.getD k 0 = x) (h : p x = true) : (l.take (k + 1)).filter p = (l.take k).filter p ++ [x] := by
  rw [take_snoc hk, List.filter_append, hx]
  simp [h]
theorem filter_miss {p : Nat → Bool} {l : List Nat} {k x : Nat} (hk : k < l.length) (hx : l.getD k 0 = x) (h : p x = false) : (l.take (k + 1)).filter p = (l.take k).filter p := by
  rw [take_snoc hk, List.filter_append, hx]
  simp [h]

set_option maxRecDepth 100000 in
set_option maxHeartbeats 2000000 in
theorem parts_walk (gv : Nat → Value) (g : GraphL) (n m : Int) (w : World) (hg : GraphC w.heap.size w gv g) :
    Calls Try.prog 4 #[.agg (rowF 64 gv), .int .i64 n, .int .i64 m] w fun e w' => e = .returned (.bool true) ∧ Below w.heap.size w w' := by
  obtain ⟨gr, hgr⟩ : ∃ gr, gr = rowF 64 gv := ⟨_, rfl⟩
  rw [← hgr]
  have hb0 : Below w.heap.size w (w.alloc (.cells gr 26)) := (Below.refl _ _).alloc (Nat.le_refl _) _
  have hz0 : (w.alloc (.cells gr 26)).heap.size = w.heap.size + 1 := size_push _ _
  have hbox : GBox w.heap.size (w.alloc (.cells gr 26)) gv g gr := ⟨heap_new _ _, hgr, (hg.later hb0).mono (by omega)⟩
  have hsg := hbox.size
  have HGR : Hid (gr = rowF 64 gv) := hgr
  clear hgr hg
  go_enter Try.func4, Try.ntmps4
  go_upto_region 1 with fail
  obtain ⟨W, hW⟩ : ∃ W, W = w.alloc (.cells gr 26) := ⟨_, rfl⟩
  rw [← hW] at hb0 hz0 hbox ⊢
  clear hW
  have hr0 := hbox.row
  have hor := hbox.order n
  have HBX : Hid (GBox w.heap.size W gv g gr) := hbox
  have HB0 : Hid (Below w.heap.size w W) := hb0
  have hlW : w.heap.size < W.heap.size := by omega
  clear hbox hb0 hz0
  go_wp2_with (first
    | (refine wpList_load_row rfl 26 _ rfl w.heap.size rfl 26 gr (0, 0) _ hr0 Try.underlying26 rfl hsg ?_))
  refine hor.mono ?_
  rintro e w1 ⟨v, rfl, ho1, hb1⟩
  obtain ⟨a1, c1, hv, _, _⟩ := own_form ho1
  obtain ⟨b1, d1, hx1, hi1⟩ := IntsAt.of_owns ho1
  rw [hv] at hx1
  cases hx1
  rw [hv]
  have hbox1 := HBX.out.later hb1
  have hr1 := hbox1.row
  have hrd := hbox1.ready n
  have hs1 := hb1.size
  have HBX1 : Hid (GBox w.heap.size w1 gv g gr) := hbox1
  have HB1 : Hid (Below w.heap.size w w1) := HB0.out.trans (hb1.mono (by omega))
  have HI1 : Hid (IntsAt w1.heap.size w1 a1 (ints (orderI g n))) := hi1
  have HLn : Hid ((ints (orderI g n)).length ≤ 32) := by unfold Hid; rw [ints_len]; exact order_len g n
  clear hor ho1 hv hbox1 hb1 hi1 hr0
  cases tr : readyI g n
  · rw [tr] at hrd
    go_wp2_with (first
      | (refine wpList_load_row rfl 26 _ rfl w.heap.size rfl 26 gr (0, 0) _ hr1 Try.underlying26 rfl hsg ?_)
      | (go_at_call 16; refine hrd.mono ?_; rintro e w2 ⟨rfl, hb2⟩)
      | (go_at_call 17; refine (keep_orders _).mono ?_; rintro e w9 ⟨rfl, hb9⟩))
    go_ret
    exact ⟨rfl, HB1.out.trans ((hb2.mono (by omega)).trans (hb9.mono (by have := hb2.size; omega)))⟩
  · rw [tr] at hrd
    go_wp2_with (first
      | (refine wpList_load_row rfl 26 _ rfl w.heap.size rfl 26 gr (0, 0) _ hr1 Try.underlying26 rfl hsg ?_))
    refine hrd.mono ?_
    rintro e w2 ⟨rfl, hb2⟩
    have hbox2 := HBX1.out.later hb2
    have hr2 := hbox2.row
    have hi2 := (HI1.out.later hb2).mono hb2.size
    have hs2 := hb2.size
    have hha := keep_has a1 c1 (ints (orderI g n)) m w2 (by have := HLn.out; unfold maxLen; omega) hi2
    have HBX2 : Hid (GBox w.heap.size w2 gv g gr) := hbox2
    have HB2 : Hid (Below w.heap.size w w2) := HB1.out.trans (hb2.mono (by omega))
    have HI2 : Hid (IntsAt w2.heap.size w2 a1 (ints (orderI g n))) := hi2
    clear hrd hr1 hb2 hbox2 hi2
    cases th : hasL (ints (orderI g n)) m
    · rw [th] at hha
      go_wp2_with fail
      refine hha.mono ?_
      rintro e w3 ⟨rfl, hw3⟩
      rw [hw3]
      go_wp2_with (first
        | (go_at_call 17; refine (keep_orders _).mono ?_; rintro e w9 ⟨rfl, hb9⟩))
      go_ret
      exact ⟨rfl, HB2.out.trans (hb9.mono (by omega))⟩
    · rw [th] at hha
      obtain ⟨k, hkm, hk⟩ := (has_ints _ m).1 th
      subst hkm
      obtain ⟨hk32, hord⟩ := parts_math tr hk
      have HORD : Hid (orderI g (k : Int) = (orderI g n).filter (hangB g k)) := hord
      have HNE : Hid (orderI g n ≠ []) := fun e => by rw [e] at hk; simp at hk
      have HRE : Hid (reachI g (k : Int) = hangB g k) := by
        unfold Hid
        funext j
        unfold reachI
        have : txnB' (k : Int) = true := by simp [txnB']; omega
        rw [this]
        rfl
      clear th hk hord
      go_wp2_with fail
      refine hha.mono ?_
      rintro e w3 ⟨rfl, hw3⟩
      rw [hw3]
      clear hw3 hha w3
      go_wp2_with fail
      refine (keep_orders _).mono ?_
      rintro e w4 ⟨rfl, hb4⟩
      have hbox4 := HBX2.out.later hb4
      have hr4 := hbox4.row
      have hrc := hbox4.reach (k : Int)
      rw [HRE.out] at hrc
      have hs4 := hb4.size
      have HBX4 : Hid (GBox w.heap.size w4 gv g gr) := hbox4
      have HB4 : Hid (Below w.heap.size w w4) := HB2.out.trans (hb4.mono (by omega))
      have HI4 : Hid (IntsAt w4.heap.size w4 a1 (ints (orderI g n))) := (HI2.out.later hb4).mono hb4.size
      clear hr2 hb4 hbox4
      go_wp2_with (first
        | (refine wpList_load_row rfl 26 _ rfl w.heap.size rfl 26 gr (0, 0) _ hr4 Try.underlying26 rfl hsg ?_))
      refine hrc.mono ?_
      rintro e w5 ⟨rfl, hb5⟩
      have hbox5 := HBX4.out.later hb5
      have hs5 := hb5.size
      have HBX5 : Hid (GBox w.heap.size w5 gv g gr) := hbox5
      have HB5 : Hid (Below w.heap.size w w5) := HB4.out.trans (hb5.mono (by omega))
      have HI5 : Hid (IntsAt w5.heap.size w5 a1 (ints (orderI g n))) := (HI4.out.later hb5).mono hb5.size
      clear hrc hr4 hb5 hbox5
      go_upto_region 5 with (first
        | (refine wpList_store_row rfl 22 _ _ rfl w5.heap.size (bools 32 (hangB g k)) rfl rfl 22 _ (heap_new _ _) (Try.sizeSet' _) (by rw [bools_size]; rfl) (bools_all _ _) ?_))
      rw [World.setRow_alloc_new]
      obtain ⟨W6, hW6⟩ : ∃ W6, W6 = w5.alloc (.cells (bools 32 (hangB g k)) 22) := ⟨_, rfl⟩
      rw [← hW6]
      have hp6 : SetAt 32 W6 w5.heap.size (hangB g k) := ⟨22, by rw [hW6]; exact heap_new _ _⟩
      have hb6 : Below w5.heap.size w5 W6 := by rw [hW6]; exact (Below.refl _ _).alloc (Nat.le_refl _) _
      have hz6 : W6.heap.size = w5.heap.size + 1 := by rw [hW6]; exact size_push _ _
      clear hW6
      obtain ⟨i0, hi, hz0, hz1, hz2⟩ := info_parts Try.infoInt
      have HP6 : Hid (SetAt 32 W6 w5.heap.size (hangB g k)) := hp6
      have HB6 : Hid (Below w5.heap.size w5 W6) := hb6
      have hln := HLn.out
      have h64 : ((ints (orderI g n)).length : Int) ≤ 9223372036854775807 := by omega
      have HIL : Hid ((ints (orderI g n)).length = (orderI g n).length) := ints_len _
      have HOL : Hid (∀ x ∈ orderI g n, x < 32) := order_lt g n
      have HI6 : Hid (IntsAt w5.heap.size W6 a1 (ints (orderI g n))) := HI5.out.later hb6
      clear hp6 hb6
      obtain ⟨ord, hordn⟩ : ∃ ord, ord = orderI g n := ⟨_, rfl⟩
      rw [← hordn] at HI6 HIL HOL HORD HNE hln h64 ⊢
      clear hordn HI1 HI2 HI4 HI5 HLn
      obtain ⟨b, off, ha1, hbb, hcell⟩ : ∃ b off, a1 = some ⟨b, off, none⟩ ∧ b < w5.heap.size ∧ ∀ i, i < (ints ord).length → W6.cell? ⟨b, off + i, none⟩ = some (.int .i64 ((ints ord).getD i 0)) := by
        rcases HI6.out with h | h
        · exact absurd (List.eq_nil_of_length_eq_zero (by rw [← HIL.out, h]; rfl)) HNE.out
        · exact h
      rw [ha1]
      have HC : Hid (∀ i, i < (ints ord).length → W6.cell? ⟨b, off + i, none⟩ = some (.int .i64 ((ints ord).getD i 0))) := hcell
      clear ha1 hcell HI6
      go_wp2_with fail
      go_loopw [9, 35] (fun v i wr => ∃ q : Nat, q ≤ (ints ord).length ∧ i = .int .i64 q ∧ Own wr w5.heap.size v ((ord.take q).filter (hangB g k)) ∧ Below W6.heap.size W6 wr) (fun _ i _ => (ints ord).length - (intOf i).toNat)
      case atStart => exact ⟨0, Nat.zero_le _, rfl, World.ownsRow_nil _ _ _ _, Below.refl _ _⟩
      case round =>
        obtain ⟨q, hq, rfl, hown, hBr⟩ := hrel
        have hrz := hBr.size
        by_cases hlt : q < (ints ord).length
        · obtain ⟨x, Hx⟩ : ∃ x : Nat, Hid (ord.getD q 0 = x) := ⟨_, rfl⟩
          have hqo : q < ord.length := by have := HIL.out; omega
          have hx32 : x < 32 := by
            have : ord.getD q 0 ∈ ord := by
              rw [List.getD, List.getElem?_eq_getElem hqo]
              exact List.getElem_mem hqo
            rw [← Hx.out]
            exact HOL.out _ this
          have e0 : wr.cell? ⟨b, off + q, none⟩ = some (.int .i64 x) := by
            rw [hBr.cell (p := ⟨b, off + q, none⟩) (by show b < W6.heap.size; omega), HC.out q hlt, ints_get _ hqo, Hx.out]
          have x1 : (0 : Int) ≤ (x : Int) ∧ (x : Int) < 32 := by omega
          have dx1 : decide ((0 : Int) ≤ (x : Int)) = true := by simp
          have dx2 : decide ((x : Int) < 32) = true := by simp; omega
          have f0 : wr.cell? ⟨w5.heap.size, x, none⟩ = some (.bool (hangB g k x)) := by
            rw [hBr.cell (p := ⟨w5.heap.size, x, none⟩) (by show w5.heap.size < W6.heap.size; omega)]
            exact HP6.out.cell hx32
          have hol : ((ord.take q).filter (hangB g k)).length ≤ 32 := by
            have h1 := List.length_filter_le (hangB g k) (ord.take q)
            have h2 : (ord.take q).length ≤ q := by simp; omega
            omega
          have HBr : Hid (Below W6.heap.size W6 wr) := hBr
          have HO : Hid (Own wr w5.heap.size u9 ((ord.take q).filter (hangB g k))) := hown
          cases tk : hangB g k x
          · rw [tk] at f0
            have HM : Hid ((ord.take (q + 1)).filter (hangB g k) = (ord.take q).filter (hangB g k)) := filter_miss hqo Hx.out tk
            clear hown hBr hol
            go_wp2_with fail
            go_roundw
            case rel => exact ⟨q + 1, by omega, by go_num, by rw [HM.out]; exact HO.out, HBr.out⟩
            case measure => simp [intOf]; omega
          · rw [tk] at f0
            have HM : Hid ((ord.take (q + 1)).filter (hangB g k) = (ord.take q).filter (hangB g k) ++ [x]) := filter_hit hqo Hx.out tk
            obtain ⟨got, hgot⟩ : ∃ got, got = (ord.take q).filter (hangB g k) := ⟨_, rfl⟩
            rw [← hgot] at hown hol HM
            have hownR : wr.ownsRow (w5.heap.size + 1) 3 1 u9 (ints got).length (intCells (ints got)) := hown
            have hgl : (ints got).length ≤ 32 := by rw [ints_len]; exact hol
            have hwz : w5.heap.size + 1 ≤ wr.heap.size := by omega
            clear hgot hBr hol HO
            go_wp2_with (first
              | (at_builtin; refine wpList_append_own _ rfl _ _ 23 rfl (w5.heap.size + 1) 3 i0 (.int .i64 0) 1 8 Try.underlying23 hi hz0 hz1 hz2 rfl (by decide) _ _ _ rfl (hownR.alloc _) ⟨wr.heap.size, 0, none⟩ 1 1 [.int .i64 x] rfl rfl ?c1 ?c2 ?c3 ?c4 ?c5 ?_)
              | go_in)
            case c1 =>
              intro j u hj
              match j, hj with
              | 0, hj => simp at hj; subst hj; simp [Addr.add]
            case c2 => intro u hu; simp at hu; subst hu; rfl
            case c3 => unfold maxLen; omega
            case c4 => omega
            case c5 => simp; omega
            intro v' w7 hown' hgrow _
            have hB7 : Below W6.heap.size W6 w7 := (HBr.out.alloc (by omega) _).grown hgrow (by rw [size_push]; omega) (by
              intro kk hkk
              have := (World.ownsRow.lt hownR kk hkk).1
              omega)
            have ho7 := Own.snoc hown'
            clear hgrow hownR hown
            go_wp2_with fail
            go_roundw
            case rel => exact ⟨q + 1, by omega, by go_num, by rw [HM.out]; exact ho7, hB7⟩
            case measure => simp [intOf]; omega
        · have hqe : ord.take q = ord := List.take_of_length_le (by have := HIL.out; omega)
          rw [hqe, ← HORD.out] at hown
          have hb7 : Below w5.heap.size w5 wr := HB6.out.trans (hBr.mono (by omega))
          have hbox7 := HBX5.out.later hb7
          have hr7 := hbox7.row
          have hor := hbox7.order (k : Int)
          obtain ⟨a9, c9, hv9, _, _⟩ := own_form hown
          obtain ⟨b9, d9, hx9, hi9⟩ := IntsAt.of_owns hown
          rw [hv9] at hx9
          cases hx9
          rw [hv9]
          have HI9 : Hid (IntsAt wr.heap.size wr a9 (ints (orderI g (k : Int)))) := hi9
          have HLk : Hid ((ints (orderI g (k : Int))).length ≤ maxLen) := by
            have := order_len g (k : Int)
            unfold Hid maxLen
            rw [ints_len]
            omega
          have HB7 : Hid (Below w.heap.size w wr) := HB5.out.trans (hb7.mono (by have := HB5.out.size; omega))
          have hwr : w.heap.size ≤ wr.heap.size := HB7.out.size
          clear hown hi9 hv9 hb7 hbox7 hqe
          go_wp2_with (first
            | (refine wpList_load_row rfl 26 _ rfl w.heap.size rfl 26 gr (0, 0) _ hr7 Try.underlying26 rfl hsg ?_))
          refine hor.mono ?_
          rintro e w8 ⟨v8, rfl, ho8, hb8⟩
          obtain ⟨a8, c8, hv8, _, _⟩ := own_form ho8
          obtain ⟨b8, d8, hx8, hi8⟩ := IntsAt.of_owns ho8
          rw [hv8] at hx8
          cases hx8
          rw [hv8]
          have hsm := keep_same_any a9 c9 (ints (orderI g (k : Int))) a8 c8 w8 HLk.out ((HI9.out.later hb8).mono hb8.size) hi8
          have HB8 : Hid (Below w.heap.size w w8) := HB7.out.trans (hb8.mono hwr)
          have hw8 : w.heap.size ≤ w8.heap.size := HB8.out.size
          clear hor ho8 hv8 hi8 hb8 hr7
          go_wp2_with fail
          refine hsm.mono ?_
          rintro e w9 ⟨rfl, hb9⟩
          go_wp2_with fail
          go_ret
          exact ⟨rfl, HB8.out.trans (hb9.mono hw8)⟩

end Go.Proofs.Ytkoefoccbjhoiab
