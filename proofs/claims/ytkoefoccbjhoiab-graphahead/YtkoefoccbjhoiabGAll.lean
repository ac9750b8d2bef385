/-
  The walk of the statement GraphAhead.
-/
import Derived.Test.YtkoefoccbjhoiabGParts
set_option linter.unusedVariables false
set_option linter.unusedSimpArgs false
namespace Go.Proofs.Ytkoefoccbjhoiab
open Go.RowKit

/-- What an order has: just what n hangs on, each once, each behind all that it hangs on, but those that hang on it. -/
theorem ahead_math {g : GraphL} {n : Int} (hr : readyI g n = true) : (∀ x, x ∈ orderI g n ↔ reachI g n x = true) ∧ (orderI g n).Nodup ∧
    ∀ q, q < (orderI g n).length → ∀ d, d < 32 → hangB g ((orderI g n).getD q 0) d = true → ((orderI g n).take q).contains d = true ∨ hangB g d ((orderI g n).getD q 0) = true := by
  have h1 := hr
  unfold readyI at h1
  rw [Bool.and_eq_true] at h1
  have hn : n.toNat < 32 := by have := h1.1; unfold txnB' at this; simp at this; omega
  have eo : orderI g n = outS (hangB g) (hangB g n.toNat) 32 := by unfold orderI; rw [hr, ← order_spec g hn]; rfl
  have hc := clo_hang g hn
  have L := laid_at hc 32
  rw [eo]
  refine ⟨fun x => ?_, L.nodup, fun q hq d hd hx => ?_⟩
  · rw [outS_all hc x]
    unfold reachI
    rw [h1.1, Bool.true_and]
  · have e : outS (hangB g) (hangB g n.toNat) 32 = (outS (hangB g) (hangB g n.toNat) 32).take q ++ (outS (hangB g) (hangB g n.toNat) 32).getD q 0 :: (outS (hangB g) (hangB g n.toNat) 32).drop (q + 1) := by
      have h2 : (outS (hangB g) (hangB g n.toNat) 32).getD q 0 = (outS (hangB g) (hangB g n.toNat) 32)[q] := by simp [List.getD, hq]
      rw [h2, List.getElem_cons_drop, List.take_append_drop]
    rcases L.behind _ _ _ e d hd hx with h | h
    · left; simpa using h
    · exact Or.inr h
theorem take_not {l : List Nat} (h : l.Nodup) {q : Nat} (hq : q < l.length) : (l.take q).contains (l.getD q 0) = false := by
  have h2 : l.getD q 0 = l[q] := by simp [List.getD, hq]
  have e : l = l.take q ++ l[q] :: l.drop (q + 1) := by rw [List.getElem_cons_drop, List.take_append_drop]
  rw [h2]
  cases hx : (l.take q).contains l[q]
  · rfl
  · exfalso
    rw [e, List.nodup_append] at h
    exact h.2.2 l[q] (by simpa using hx) l[q] (List.mem_cons_self) rfl

set_option maxRecDepth 100000 in
set_option maxHeartbeats 2000000 in
theorem ahead_walk (gv : Nat → Value) (g : GraphL) (n : Int) (w : World) (hg : GraphC w.heap.size w gv g) :
    Calls Try.prog 3 #[.agg (rowF 64 gv), .int .i64 n] w fun e w' => e = .returned (.bool true) ∧ Below w.heap.size w w' := by
  obtain ⟨gr, hgr⟩ : ∃ gr, gr = rowF 64 gv := ⟨_, rfl⟩
  rw [← hgr]
  have hb0 : Below w.heap.size w (w.alloc (.cells gr 26)) := (Below.refl _ _).alloc (Nat.le_refl _) _
  have hz0 : (w.alloc (.cells gr 26)).heap.size = w.heap.size + 1 := size_push _ _
  have hbox : GBox w.heap.size (w.alloc (.cells gr 26)) gv g gr := ⟨heap_new _ _, hgr, (hg.later hb0).mono (by omega)⟩
  have hsg := hbox.size
  clear hgr hg
  go_enter Try.func3, Try.ntmps3
  go_upto_region 1 with fail
  obtain ⟨W, hW⟩ : ∃ W, W = w.alloc (.cells gr 26) := ⟨_, rfl⟩
  rw [← hW] at hb0 hz0 hbox ⊢
  clear hW
  have hr0 := hbox.row
  have hor := hbox.order n
  have HBX : Hid (GBox w.heap.size W gv g gr) := hbox
  have HB0 : Hid (Below w.heap.size w W) := hb0
  have hlW : w.heap.size < W.heap.size := by omega
  clear hbox hb0 hz0
  go_wp2_with (first
    | (refine wpList_load_row rfl 26 _ rfl w.heap.size rfl 26 gr (0, 0) _ hr0 Try.underlying26 rfl hsg ?_))
  refine hor.mono ?_
  rintro e w1 ⟨v, rfl, ho1, hb1⟩
  obtain ⟨a1, c1, hv, _, _⟩ := own_form ho1
  obtain ⟨b1, d1, hx1, hi1⟩ := IntsAt.of_owns ho1
  rw [hv] at hx1
  cases hx1
  rw [hv]
  have hbox1 := HBX.out.later hb1
  have hr1 := hbox1.row
  have hrd := hbox1.ready n
  have hs1 := hb1.size
  have HBX1 : Hid (GBox w.heap.size w1 gv g gr) := hbox1
  have HB1 : Hid (Below w.heap.size w w1) := HB0.out.trans (hb1.mono (by omega))
  have HI1 : Hid (IntsAt w1.heap.size w1 a1 (ints (orderI g n))) := hi1
  have HLn : Hid ((ints (orderI g n)).length ≤ 32) := by unfold Hid; rw [ints_len]; exact order_len g n
  clear hor ho1 hv hbox1 hb1 hi1 hr0
  cases tr : readyI g n
  · rw [tr] at hrd
    have hnil : (ints (orderI g n)).length = 0 := by unfold orderI; rw [tr]; rfl
    rw [hnil]
    clear hnil
    go_wp2_with (first
      | (refine wpList_load_row rfl 26 _ rfl w.heap.size rfl 26 gr (0, 0) _ hr1 Try.underlying26 rfl hsg ?_)
      | (go_at_call 16; refine hrd.mono ?_; rintro e w2 ⟨rfl, hb2⟩)
      | (go_at_call 17; refine (keep_orders _).mono ?_; rintro e w9 ⟨rfl, hb9⟩))
    go_ret
    exact ⟨rfl, HB1.out.trans ((hb2.mono (by omega)).trans (hb9.mono (by have := hb2.size; omega)))⟩
  · rw [tr] at hrd
    have hmath := ahead_math tr
    have HM1 : Hid (∀ x, x ∈ orderI g n ↔ reachI g n x = true) := hmath.1
    have HM2 : Hid (orderI g n).Nodup := hmath.2.1
    have HM3 : Hid (∀ q, q < (orderI g n).length → ∀ d, d < 32 → hangB g ((orderI g n).getD q 0) d = true → ((orderI g n).take q).contains d = true ∨ hangB g d ((orderI g n).getD q 0) = true) := hmath.2.2
    clear hmath
    go_wp2_with (first
      | (refine wpList_load_row rfl 26 _ rfl w.heap.size rfl 26 gr (0, 0) _ hr1 Try.underlying26 rfl hsg ?_))
    refine hrd.mono ?_
    rintro e w2 ⟨rfl, hb2⟩
    go_wp2_with fail
    refine (keep_orders _).mono ?_
    rintro e w3 ⟨rfl, hb3'⟩
    have hb3 : Below w1.heap.size w1 w3 := hb2.trans (hb3'.mono hb2.size)
    have hbox3 := HBX1.out.later hb3
    have hr3 := hbox3.row
    have hrc := hbox3.reach n
    have hs3 := hb3.size
    have HBX3 : Hid (GBox w.heap.size w3 gv g gr) := hbox3
    have HB3 : Hid (Below w.heap.size w w3) := HB1.out.trans (hb3.mono (by omega))
    have HI3 : Hid (IntsAt w3.heap.size w3 a1 (ints (orderI g n))) := (HI1.out.later hb3).mono hb3.size
    clear hrd hr1 hb2 hb3' hb3 hbox3 HI1 HBX1 HB1
    obtain ⟨inn, hinn⟩ : ∃ inn, inn = reachI g n := ⟨_, rfl⟩
    rw [← hinn] at hrc HM1
    clear hinn
    go_wp2_with (first
      | (refine wpList_load_row rfl 26 _ rfl w.heap.size rfl 26 gr (0, 0) _ hr3 Try.underlying26 rfl hsg ?_))
    refine hrc.mono ?_
    rintro e w5 ⟨rfl, hb5⟩
    have hbox5 := HBX3.out.later hb5
    have hs5 := hb5.size
    have HBX5 : Hid (GBox w.heap.size w5 gv g gr) := hbox5
    have HB5 : Hid (Below w.heap.size w w5) := HB3.out.trans (hb5.mono (by omega))
    have HI5 : Hid (IntsAt w5.heap.size w5 a1 (ints (orderI g n))) := (HI3.out.later hb5).mono hb5.size
    clear hrc hr3 hb5 hbox5 HI3 HBX3 HB3
    go_upto_region 6 with (first
      | (refine wpList_store_row rfl 22 _ _ rfl w5.heap.size (bools 32 inn) rfl rfl 22 _ (heap_new _ _) (Try.sizeSet' _) (by rw [bools_size]; rfl) (bools_all _ _) ?_))
    rw [← Try.zero22, World.setRow_alloc_new]
    obtain ⟨W6, hW6⟩ : ∃ W6, W6 = (w5.alloc (.cells (bools 32 inn) 22)).alloc (.cells (bools 32 fun _ => false) 22) := ⟨_, rfl⟩
    have hr := two_rows w5 (.cells (bools 32 inn) 22) (.cells (bools 32 fun _ => false) 22)
    have hb6 : Below w5.heap.size w5 W6 := by rw [hW6]; exact ((Below.refl _ _).alloc (Nat.le_refl _) _).alloc (by rw [size_push]; omega) _
    have hz6 : W6.heap.size = w5.heap.size + 2 := by rw [hW6, size_push, size_push]
    rw [← hW6] at hr ⊢
    clear hW6
    have HP1 : Hid (W6.heap[w5.heap.size]? = some (.cells (bools 32 inn) 22 (0, 0))) := hr.1
    have hp2 : SetAt 32 W6 (w5.heap.size + 1) (fun i => ((orderI g n).take 0).contains i) := ⟨22, hr.2⟩
    have HB6 : Hid (Below w5.heap.size w5 W6) := hb6
    have HI6 : Hid (IntsAt w5.heap.size W6 a1 (ints (orderI g n))) := HI5.out.later hb6
    have hln := HLn.out
    have h64 : ((ints (orderI g n)).length : Int) ≤ 9223372036854775807 := by omega
    have HIL : Hid ((ints (orderI g n)).length = (orderI g n).length) := ints_len _
    have HOL : Hid (∀ x ∈ orderI g n, x < 32) := order_lt g n
    have HNE : Hid (orderI g n ≠ []) := by
      intro e
      have h1 : readyI g n = true := tr
      unfold readyI at h1
      rw [Bool.and_eq_true] at h1
      have hn : n.toNat < 32 := by have := h1.1; unfold txnB' at this; simp at this; omega
      have h2 := (ahead_math tr).1 n.toNat
      rw [e] at h2
      have h3 : reachI g n n.toNat = true := by
        unfold reachI
        rw [h1.1, Bool.true_and]
        exact (hangB_iff g hn _).2 (.refl _)
      have := h2.2 h3
      simp at this
    clear hr hb6 HI5 HLn tr
    obtain ⟨ord, hordn⟩ : ∃ ord, ord = orderI g n := ⟨_, rfl⟩
    rw [← hordn] at HI6 HIL HOL HNE HM1 HM2 HM3 hln h64 hp2 ⊢
    clear hordn
    obtain ⟨b, off, ha1, hbb, hcell⟩ : ∃ b off, a1 = some ⟨b, off, none⟩ ∧ b < w5.heap.size ∧ ∀ i, i < (ints ord).length → W6.cell? ⟨b, off + i, none⟩ = some (.int .i64 ((ints ord).getD i 0)) := by
      rcases HI6.out with h | h
      · exact absurd (List.eq_nil_of_length_eq_zero (by rw [← HIL.out, h]; rfl)) HNE.out
      · exact h
    rw [ha1]
    have HC : Hid (∀ i, i < (ints ord).length → W6.cell? ⟨b, off + i, none⟩ = some (.int .i64 ((ints ord).getD i 0))) := hcell
    clear ha1 hcell HI6 HNE
    go_wp2_with fail
    go_loopw [35] (fun i wr => ∃ q : Nat, q ≤ (ints ord).length ∧ i = .int .i64 q ∧ SetAt 32 wr (w5.heap.size + 1) (fun i => (ord.take q).contains i) ∧ W6.grownBy wr (some (w5.heap.size + 1))) (fun i _ => (ints ord).length - (intOf i).toNat)
    case atStart => exact ⟨0, Nat.zero_le _, rfl, hp2, World.grownBy.refl _ _⟩
    case round =>
      obtain ⟨q, hq, rfl, hS, hG⟩ := hrel
      clear hp2
      obtain ⟨wo, hwo⟩ : ∃ wo, wo = wr := ⟨_, rfl⟩
      subst hwo
      have hoz := hG.size
      have hb7 : Below w5.heap.size w5 wo := HB6.out.grown hG (by omega) (by intro k hk; cases hk; omega)
      have hp7 : wo.heap[w5.heap.size]? = some (.cells (bools 32 inn) 22 (0, 0)) := by rw [hG.block _ (by omega) (by simp)]; exact HP1.out
      by_cases hlt : q < (ints ord).length
      · obtain ⟨x, Hx⟩ : ∃ x : Nat, Hid (ord.getD q 0 = x) := ⟨_, rfl⟩
        have hqo : q < ord.length := by have := HIL.out; omega
        have hxm : ord.getD q 0 ∈ ord := by
          rw [List.getD, List.getElem?_eq_getElem hqo]
          exact List.getElem_mem hqo
        have hx32 : x < 32 := by rw [← Hx.out]; exact HOL.out _ hxm
        have e0 : wo.cell? ⟨b, off + q, none⟩ = some (.int .i64 x) := by
          rw [World.grownBy.cell hG (HC.out q hlt) (by simp; omega), ints_get _ hqo, Hx.out]
        have x1 : (0 : Int) ≤ (x : Int) ∧ (x : Int) < 32 := by omega
        have dx1 : decide ((x : Int) < 0) = false := by simp
        have dx2 : decide ((32 : Int) ≤ (x : Int)) = false := by simp; omega
        have hxp : (ord.take q).contains x = false := by rw [← Hx.out]; exact take_not HM2.out hqo
        have f0 : wo.cell? ⟨w5.heap.size + 1, x, none⟩ = some (.bool false) := by rw [hS.cell hx32, hxp]
        have f1 : wo.cell? ⟨w5.heap.size, x, none⟩ = some (.bool true) := by
          have h1 : inn x = true := by rw [← Hx.out]; exact (HM1.out _).1 hxm
          have := SetAt.cell ⟨22, hp7⟩ hx32
          rw [h1] at this
          exact this
        have hbox7 := HBX5.out.later hb7
        have hr7 := hbox7.row
        have hrc := hbox7.reach (x : Int)
        have hre : reachI g (x : Int) = hangB g x := by
          funext j
          unfold reachI
          have : txnB' (x : Int) = true := by simp [txnB']; omega
          rw [this]
          rfl
        rw [hre] at hrc
        have HBX7 : Hid (GBox w.heap.size wo gv g gr) := hbox7
        have HS7 : Hid (SetAt 32 wo (w5.heap.size + 1) (fun i => (ord.take q).contains i)) := hS
        have HG7 : Hid (W6.grownBy wo (some (w5.heap.size + 1))) := hG
        have HX3 : Hid (∀ d, d < 32 → hangB g x d = true → (ord.take q).contains d = true ∨ hangB g d x = true) := by
          have := HM3.out q hqo
          rw [Hx.out] at this
          exact this
        clear hbox7 hre hS hG hb7 hp7 hxm hxp
        go_wp2_with (first
          | (refine wpList_load_row rfl 26 _ rfl w.heap.size rfl 26 gr (0, 0) _ hr7 Try.underlying26 rfl hsg ?_))
        refine hrc.mono ?_
        rintro e w8 ⟨rfl, hb8⟩
        have hs8 := hb8.size
        have hbox8 := HBX7.out.later hb8
        obtain ⟨mine, hmine⟩ : ∃ mine, mine = hangB g x := ⟨_, rfl⟩
        rw [← hmine] at HX3 ⊢
        clear hmine
        go_upto_region 12 with (first
          | (refine wpList_store_row rfl 22 _ _ rfl w8.heap.size (bools 32 mine) rfl rfl 22 _ (heap_new _ _) (Try.sizeSet' _) (by rw [bools_size]; rfl) (bools_all _ _) ?_))
        rw [World.setRow_alloc_new]
        obtain ⟨W9, hW9⟩ : ∃ W9, W9 = w8.alloc (.cells (bools 32 mine) 22) := ⟨_, rfl⟩
        rw [← hW9]
        have hr9 : W9.heap[w8.heap.size]? = some (.cells (bools 32 mine) 22 (0, 0)) := by rw [hW9]; exact heap_new _ _
        have hb9 : Below w8.heap.size w8 W9 := by rw [hW9]; exact (Below.refl _ _).alloc (Nat.le_refl _) _
        have HZ9 : Hid (W9.heap.size = w8.heap.size + 1) := by unfold Hid; rw [hW9]; exact size_push _ _
        have HBX9 : Hid (GBox w.heap.size W9 gv g gr) := hbox8.later hb9
        have hbo : Below wo.heap.size wo W9 := hb8.trans (hb9.mono hs8)
        have HBO : Hid (Below wo.heap.size wo W9) := hbo
        have HS9 : Hid (SetAt 32 W9 (w5.heap.size + 1) (fun i => (ord.take q).contains i)) := by
          obtain ⟨t, ht⟩ := HS7.out
          exact ⟨t, by rw [hbo.block _ (by omega)]; exact ht⟩
        clear hW9 hrc hr7 hb8 hbox8 hb9 hbo e0 f0 f1
        go_wp2_with (first
          | (refine wpList_load_row rfl 22 _ rfl w8.heap.size rfl 22 (bools 32 mine) (0, 0) _ hr9 Try.underlying22 rfl (Try.sizeSet' _) ?_))
        go_loopw [60] (fun i wr => ∃ d : Nat, d ≤ 32 ∧ i = .int .i64 d ∧ Below W9.heap.size W9 wr) (fun i _ => 32 - (intOf i).toNat)
        case atStart => exact ⟨0, Nat.zero_le _, rfl, Below.refl _ _⟩
        case round =>
          obtain ⟨d, hd, rfl, hBd⟩ := hrel
          have hz9 := HZ9.out
          have hdz := hBd.size
          by_cases hdl : d < 32
          · have hix := fun wx => run_index_bools Try.underlying22 Try.underlying4 Try.infoBool mine hdl wx
            have d1 : (0 : Int) ≤ (d : Int) ∧ (d : Int) < 32 := by omega
            have hboxd := HBX9.out.later hBd
            have hrd := hboxd.row
            have hrc := hboxd.reach (d : Int)
            have hre : reachI g (d : Int) = hangB g d := by
              funext j
              unfold reachI
              have : txnB' (d : Int) = true := by simp [txnB']; omega
              rw [this]
              rfl
            rw [hre] at hrc
            have fd : wr.cell? ⟨w5.heap.size + 1, d, none⟩ = some (.bool ((ord.take q).contains d)) := by
              rw [hBd.cell (p := ⟨w5.heap.size + 1, d, none⟩) (by show w5.heap.size + 1 < W9.heap.size; omega)]
              exact HS9.out.cell hdl
            have HBd : Hid (Below W9.heap.size W9 wr) := hBd
            have hxd := HX3.out d hdl
            clear hboxd hre hBd
            cases tk : mine d
            · rw [tk] at hix
              clear hxd
              go_wp2_with fail
              go_roundw
              case rel => exact ⟨d + 1, by omega, by go_num, HBd.out⟩
              case measure => simp [intOf]; omega
            · rw [tk] at hix
              obtain ⟨pd, hpd⟩ : ∃ pd, pd = (ord.take q).contains d := ⟨_, rfl⟩
              rw [← hpd] at fd
              have hxd2 : pd = true ∨ hangB g d x = true := by rw [hpd]; exact hxd tk
              clear hpd hxd
              cases pd
              · have hdx : hangB g d x = true := by
                  rcases hxd2 with h | h
                  · cases h
                  · exact h
                have hix2 := fun wx => run_index_bools Try.underlying22 Try.underlying4 Try.infoBool (hangB g d) hx32 wx
                rw [hdx] at hix2
                clear hxd2 hdx
                go_wp2_with (first
                  | (refine wpList_wanted (by rfl) fun K hK => wp_load_row 26 _ rfl w.heap.size rfl 26 gr (0, 0) _ hrd Try.underlying26 rfl hsg (hK _ _ ?_))
                  | (go_at_call 18; refine hrc.mono ?_; rintro e w10 ⟨rfl, hb10⟩))
                go_roundw
                case rel => exact ⟨d + 1, by omega, by go_num, HBd.out.trans (hb10.mono hdz)⟩
                case measure => simp [intOf]; omega
              · clear hxd2
                go_wp2_with fail
                go_roundw
                case rel => exact ⟨d + 1, by omega, by go_num, HBd.out⟩
                case measure => simp [intOf]; omega
          · have hbw : Below wo.heap.size wo wr := HBO.out.trans (hBd.mono (by omega))
            have hsr : SetAt 32 wr (w5.heap.size + 1) (fun i => (ord.take q).contains i) := by
              obtain ⟨t, ht⟩ := HS7.out
              exact ⟨t, by rw [hbw.block _ (by omega)]; exact ht⟩
            have f0 := hsr.cell hx32
            have f1 := hsr.frozen x
            have HSr : Hid (SetAt 32 wr (w5.heap.size + 1) (fun i => (ord.take q).contains i)) := hsr
            have HGr : Hid (W6.grownBy wr (some (w5.heap.size + 1))) := grown_trans HG7.out (below_grown hbw _)
            clear hsr hbw hBd
            go_wp2_with fail
            go_roundw
            case rel =>
              refine ⟨q + 1, by omega, by go_num, (HSr.out.put x true).congr (fun i _ => ?_), grown_put_same HGr.out _ _⟩
              rw [contains_snoc hqo, Hx.out]
              by_cases e : i = x
              · subst e; simp
              · have : (i == x) = false := by simpa using e
                rw [if_neg e, this, Bool.or_false]
            case measure => simp [intOf]; omega
      · have hqe : ord.take q = ord := List.take_of_length_le (by have := HIL.out; omega)
        rw [hqe] at hS
        obtain ⟨tP, hP⟩ := hS
        obtain ⟨pl, hpl⟩ : ∃ pl : Nat → Bool, pl = fun i => ord.contains i := ⟨_, rfl⟩
        rw [← hpl] at hP
        have heq : sameB 32 pl inn = true := by
          rw [sameB_iff]
          intro i _
          rw [hpl, Bool.eq_iff_iff]
          have := HM1.out i
          simpa using this
        have hgd := Try.setGuard
        have he := fun w => run_equalIn_bools 9998 Try.underlying22 Try.underlying4 Try.infoBool pl inn w
        rw [heq] at he
        have HBF : Hid (Below w.heap.size w wo) := HB5.out.trans (hb7.mono (by have := HB5.out.size; omega))
        clear hG hb7 hpl heq hqe
        go_wp2_with (first
          | (refine wpList_load_row rfl 22 _ rfl (w5.heap.size + 1) rfl tP (bools 32 pl) (0, 0) _ hP Try.underlying22 rfl (Try.sizeSet' _) ?_)
          | (refine wpList_load_row rfl 22 _ rfl w5.heap.size rfl 22 (bools 32 inn) (0, 0) _ hp7 Try.underlying22 rfl (Try.sizeSet' _) ?_))
        go_ret
        exact ⟨rfl, HBF.out⟩

end Go.Proofs.Ytkoefoccbjhoiab
