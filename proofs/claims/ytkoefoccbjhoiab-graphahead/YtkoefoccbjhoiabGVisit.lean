/-
  The contract of package graph's visit: it does just what the search of the mathematics does.
-/
import Derived.Test.YtkoefoccbjhoiabGClose
import Derived.BigRegion
set_option linter.unusedVariables false
set_option linter.unusedSimpArgs false
namespace Go.Proofs.Ytkoefoccbjhoiab
open Go.RowKit

theorem StAt.cMet {w : World} {c : Nat} {gv : Nat → Value} {s : St} {sv : Value} (h : StAt w c gv s sv) : w.cell? ⟨c, 64, none⟩ = some (.int .i64 s.met) := by rw [BlkAt.cell h (by omega)]; rfl
theorem StAt.cTurn {w : World} {c : Nat} {gv : Nat → Value} {s : St} {sv : Value} (h : StAt w c gv s sv) {n : Nat} (hn : n < 32) : w.cell? ⟨c, 65 + n, none⟩ = some (.int .i64 (s.turn n)) := by rw [BlkAt.cell h (by omega), sCell_turn _ _ _ hn]
theorem StAt.cBack {w : World} {c : Nat} {gv : Nat → Value} {s : St} {sv : Value} (h : StAt w c gv s sv) {n : Nat} (hn : n < 32) : w.cell? ⟨c, 97 + n, none⟩ = some (.int .i64 (s.back n)) := by rw [BlkAt.cell h (by omega), sCell_back _ _ _ hn]
theorem StAt.cStack {w : World} {c : Nat} {gv : Nat → Value} {s : St} {sv : Value} (h : StAt w c gv s sv) : w.cell? ⟨c, 129, none⟩ = some sv := by rw [BlkAt.cell h (by omega)]; rfl
theorem StAt.cOpn {w : World} {c : Nat} {gv : Nat → Value} {s : St} {sv : Value} (h : StAt w c gv s sv) {n : Nat} (hn : n < 32) : w.cell? ⟨c, 130 + n, none⟩ = some (.bool (s.opn n)) := by rw [BlkAt.cell h (by omega), sCell_opn _ _ _ hn]
theorem StAt.cReach {w : World} {c : Nat} {gv : Nat → Value} {s : St} {sv : Value} (h : StAt w c gv s sv) {n m : Nat} (hn : n < 32) (hm : m < 32) : w.cell? ⟨c, 162 + n * 32 + m, none⟩ = some (.bool (s.reach n m)) := by rw [BlkAt.cell h (by omega), sCell_reach _ _ _ hm]
theorem StAt.fr {w : World} {c : Nat} {gv : Nat → Value} {s : St} {sv : Value} (h : StAt w c gv s sv) (i : Nat) : w.frozen? ⟨c, i, none⟩ = false := BlkAt.frozen h i

theorem incl_use (c : Nat) (gv : Nat → Value) (s : St) (sv : Value) (n d : Nat) (hn : n < 32) (hd : d < 32) (cs : List Value) (hcs : cs = (bools 32 (s.reach d)).toList) (w : World) (hs : StAt w c gv s sv) :
    Calls Try.prog 129 #[.pointer (some ⟨c, 162 + n * 32, none⟩), .agg cs.toArray] w fun e w' => e = .returned (.tuple #[]) ∧ StAt w' c gv (s.incl n d) sv ∧ w.grownBy w' (some c) ∧ w'.rangeAt c (162 + d * 32) cs := by
  subst hcs
  refine (incl_any c gv s sv n hn (s.reach d) w hs).mono ?_
  rintro e w' ⟨rfl, h1, h2⟩
  refine ⟨rfl, h1, h2, ?_⟩
  have := h1.row hd
  have e : ({ s with reach := upd s.reach n (fun j => s.reach n j || s.reach d j) } : St).reach d = s.reach d := by
    show upd s.reach n (fun j => s.reach n j || s.reach d j) d = s.reach d
    unfold upd
    split
    · rename_i e; subst e; simp
    · rfl
  rw [e] at this
  exact this

theorem rise_len (f : Nat → Nat) (M : Nat) : ∀ (l : List Nat) (lo : Nat), l.Pairwise (fun x y => f x < f y) → (∀ x ∈ l, lo < f x ∧ f x ≤ M) → l.length ≤ M - lo
  | [], _, _, _ => by simp
  | a :: l, lo, h, hb => by
    rw [List.pairwise_cons] at h
    have := rise_len f M l (f a) h.2 (fun x hx => ⟨h.1 x hx, (hb x (by simp [hx])).2⟩)
    have h1 := hb a (by simp)
    simp
    omega
theorem Inv.len {A : Nat → Nat → Bool} {s : St} (h : Inv A s) : s.stack.length ≤ 32 := by
  have h1 := rise_len s.turn s.met s.stack 0 h.sorted (fun x hx => ⟨by have := h.mem x hx; omega, h.le x⟩)
  have := h.all
  omega
theorem StAt.grownOther {w w1 : World} {c : Nat} {gv : Nat → Value} {s : St} {sv : Value} {row : Option Nat} (h : StAt w c gv s sv) (hg : w.grownBy w1 row) (hr : some c ≠ row) : StAt w1 c gv s sv := by
  obtain ⟨t, h1⟩ := h
  exact ⟨t, by rw [hg.block c (BlkAt.lt ⟨t, h1⟩) hr]; exact h1⟩
theorem Own.notC {w : World} {c : Nat} {sv : Value} {l : List Nat} (h : Own w c sv l) : some c ≠ sv.ownBlock := by
  intro e
  have := (World.ownsRow.lt h c e.symm).1
  omega
theorem Own.below {w : World} {c : Nat} {sv : Value} {l : List Nat} (h : Own w c sv l) : ∀ k, sv.ownBlock = some k → c ≤ k := fun k hk => by
  have := (World.ownsRow.lt h k hk).1
  omega
theorem Own.snoc {w : World} {c : Nat} {v : Value} {l : List Nat} {n : Nat} (h : w.ownsRow (c + 1) 3 1 v ((ints l).length + 1) (intCells (ints l) ++ [.int .i64 n])) : Own w c v (l ++ [n]) := by
  unfold Own
  have e1 : (ints (l ++ [n])).length = (ints l).length + 1 := by simp [ints]
  have e2 : intCells (ints (l ++ [n])) = intCells (ints l) ++ [.int .i64 n] := by simp [ints, intCells]
  rw [e1, e2]
  exact h

set_option maxRecDepth 100000 in
set_option maxHeartbeats 1000000 in
theorem visit_any (c : Nat) (gv : Nat → Value) (g : GraphL) : ∀ (k : Nat) (s : St) (n : Nat) (sv : Value) (w : World), Pre g.adj s n → 32 - s.met ≤ k → StAt w c gv s sv → Own w c sv s.stack → GraphC c w gv g →
    Calls Try.prog 106 #[.pointer (some ⟨c, 0, none⟩), .int .i64 n] w fun e w' => e = .returned (.tuple #[]) ∧ ∃ sv', StAt w' c gv (visitL g.adj k s n) sv' ∧ Own w' c sv' (visitL g.adj k s n).stack ∧ Below c w w' := by
  intro k
  induction k with
  | zero =>
    intro s n sv w hp hk _ _ _
    have := hp.inv.room hp.lt hp.new
    omega
  | succ k ih =>
    intro s n sv w hp hk hs ho hg
    have hmet := hp.inv.room hp.lt hp.new
    have hn := hp.lt
    have hc := hs.lt
    have n1 : (0 : Int) ≤ (n : Int) ∧ (n : Int) < 32 := by omega
    have em : ((s.met + 1 : Nat) : Int) = (s.met : Int) + 1 := by omega
    have c64 := hs.cMet
    have f64 := hs.fr 64
    have hs1 : StAt _ c gv ⟨s.met + 1, s.turn, s.back, s.stack, s.opn, s.reach⟩ sv := hs.putMet (s.met + 1)
    have hg1 := grown_put_same (World.grownBy.refl w (some c)) 64 (.int .i64 ((s.met + 1 : Nat) : Int))
    rw [em] at hs1 hg1
    have HP : Hid (Pre g.adj s n) := hp
    have HO : Hid (Own w c sv s.stack) := ho
    have HG : Hid (GraphC c w gv g) := hg
    clear hs hp ho hg em
    go_enter Try.func106, Try.ntmps106
    go_upto_region 1 with fail
    obtain ⟨W, hW⟩ : ∃ W, W = w.setCell ⟨c, 64, none⟩ (.int .i64 ((s.met : Int) + 1)) := ⟨_, rfl⟩
    rw [← hW] at hs1 hg1 ⊢
    clear hW c64 f64
    have x1 : W.cell? ⟨c, 64, none⟩ = some (.int .i64 ((s.met : Int) + 1)) := hs1.cMet
    have x2 : W.cell? ⟨c, 65 + n, none⟩ = some (.int .i64 (s.turn n)) := hs1.cTurn hn
    have x3 : W.cell? ⟨c, 97 + n, none⟩ = some (.int .i64 (s.back n)) := hs1.cBack hn
    have y2 := hs1.fr (65 + n)
    have y3 := hs1.fr (97 + n)
    have em : ((s.met + 1 : Nat) : Int) = (s.met : Int) + 1 := by omega
    have hs2 : StAt _ c gv ⟨s.met + 1, upd s.turn n (s.met + 1), upd s.back n (s.met + 1), s.stack, s.opn, s.reach⟩ sv := (hs1.drew.putTurn hn (s.met + 1)).putBack hn (s.met + 1)
    have hg2 := grown_put_same (grown_put_same (grown_drew hg1) (65 + n) (.int .i64 ((s.met + 1 : Nat) : Int))) (97 + n) (.int .i64 ((s.met + 1 : Nat) : Int))
    rw [em] at hs2 hg2
    clear hs1 hg1 em
    go_region
    go_upto_region 2 with fail
    obtain ⟨W2, hW2⟩ : ∃ W2, W2 = ((W.setCell ⟨c, 65 + n, none⟩ (.int .i64 ((s.met : Int) + 1))).setCell ⟨c, 97 + n, none⟩ (.int .i64 ((s.met : Int) + 1))).drew := ⟨_, rfl⟩
    have hs3 : StAt W2 c gv ⟨s.met + 1, upd s.turn n (s.met + 1), upd s.back n (s.met + 1), s.stack, s.opn, s.reach⟩ sv := by rw [hW2]; exact hs2
    have hg3 : w.grownBy W2 (some c) := by rw [hW2]; exact hg2
    rw [← hW2]
    clear hW2 hs2 hg2 x1 x2 x3 y2 y3
    have hown : Own W2 c sv s.stack := HO.out.kept hg3
    have hownR : W2.ownsRow (c + 1) 3 1 sv (ints s.stack).length (intCells (ints s.stack)) := hown
    have hl32 : (ints s.stack).length ≤ 32 := by rw [ints_len]; exact HP.out.inv.len
    have hsz3 := hg3.size
    obtain ⟨i0, hi, hz0, hz1, hz2⟩ := info_parts Try.infoInt
    have c129 := hs3.cStack
    have f129 := hs3.fr 129
    have HS3 : Hid (StAt W2 c gv _ sv) := hs3
    clear hs3
    go_wp2_with (first
      | (at_builtin; refine wpList_append_own _ rfl _ _ 23 rfl (c + 1) 3 i0 (.int .i64 0) 1 8 Try.underlying23 hi hz0 hz1 hz2 rfl (by decide) _ _ _ rfl (hownR.alloc _) ⟨W2.heap.size, 0, none⟩ 1 1 [.int .i64 n] rfl rfl ?c1 ?c2 ?c3 ?c4 ?c5 ?_)
      | go_in)
    case c1 =>
      intro j u hj
      match j, hj with
      | 0, hj => simp at hj; subst hj; simp [Addr.add]
    case c2 => intro u hu; simp at hu; subst hu; rfl
    case c3 => unfold maxLen; omega
    case c4 => omega
    case c5 => simp; omega
    intro v0 w3 hown0 hgrow _
    obtain ⟨a', cap', hv', _, _⟩ := own_form hown0
    obtain ⟨v', hvv⟩ : ∃ v', v' = Value.slice a' ((ints s.stack).length + 1) cap' := ⟨_, rfl⟩
    have hown' : w3.ownsRow (c + 1) 3 1 v' ((ints s.stack).length + 1) (intCells (ints s.stack) ++ [.int .i64 n]) := by rw [hvv, ← hv']; exact hown0
    rw [hv']
    clear hown0 hv'
    have hs4 := (HS3.out.alloc (.cells #[.int .i64 n] 3)).grownOther hgrow hown.notC
    have hb4 : Below c w w3 := ((grown_below hg3 hc).alloc (by omega) _).grown hgrow (by rw [size_push]; omega) hown.below
    have c129' := hs4.cStack
    have f129' := hs4.fr 129
    have ho4 := Own.snoc hown'
    have hs5 : StAt _ c gv ⟨s.met + 1, upd s.turn n (s.met + 1), upd s.back n (s.met + 1), s.stack ++ [n], s.opn, s.reach⟩ v' := hs4.putStack v' (s.stack ++ [n])
    have hb5 : Below c w (w3.setCell ⟨c, 129, none⟩ v') := hb4.setCell (Nat.le_refl _) _
    have ho5 : Own (w3.setCell ⟨c, 129, none⟩ v') c v' (s.stack ++ [n]) := ho4.kept (grown_put_same (World.grownBy.refl _ _) _ _)
    clear hs4 hb4 ho4 hown' hgrow hown hownR c129 f129
    rw [hvv] at hs5 hb5 ho5
    clear hvv
    go_upto_region 3 with fail
    obtain ⟨W5, hW5⟩ : ∃ W5, W5 = w3.setCell ⟨c, 129, none⟩ (Value.slice a' ((ints s.stack).length + 1) cap') := ⟨_, rfl⟩
    obtain ⟨v5, hv5⟩ : ∃ v5, v5 = Value.slice a' ((ints s.stack).length + 1) cap' := ⟨_, rfl⟩
    rw [← hW5] at hs5 hb5 ho5 ⊢
    rw [← hv5] at hs5 ho5
    clear hW5 hv5 c129' f129'
    have x1 : W5.cell? ⟨c, 130 + n, none⟩ = some (.bool (s.opn n)) := hs5.cOpn hn
    have x2 : W5.cell? ⟨c, 162 + n * 32 + n, none⟩ = some (.bool (s.reach n n)) := hs5.cReach hn hn
    have y1 := hs5.fr (130 + n)
    have y2 := hs5.fr (162 + n * 32 + n)
    have hs6 : StAt _ c gv (s.enter n) v5 := ((hs5.putOpn hn true).putReach (n := n) hn true).drew
    have hb6 := ((hb5.setCell (p := ⟨c, 130 + n, none⟩) (Nat.le_refl _) (.bool true)).setCell (p := ⟨c, 162 + n * 32 + n, none⟩) (Nat.le_refl _) (.bool true)).drew
    have ho6 : Own _ c v5 (s.stack ++ [n]) := ho5.kept (grown_drew (grown_put_same (grown_put_same (World.grownBy.refl W5 (some c)) (130 + n) (.bool true)) (162 + n * 32 + n) (.bool true)))
    clear hs5 hb5 ho5
    go_region
    go_upto_region 4 with fail
    obtain ⟨W6, hW6⟩ : ∃ W6, W6 = ((W5.setCell ⟨c, 130 + n, none⟩ (.bool true)).setCell ⟨c, 162 + n * 32 + n, none⟩ (.bool true)).drew := ⟨_, rfl⟩
    rw [← hW6] at hs6 hb6 ho6 ⊢
    clear hW6 x1 x2 y1 y2
    have hah := ahead_any c gv g (s.enter n) v5 n hn W6 hs6 (HG.out.later hb6)
    have hc6 := hs6.lt
    have HS6 : Hid (StAt W6 c gv (s.enter n) v5) := hs6
    have HB6 : Hid (Below c w W6) := hb6
    have HO6 : Hid (Own W6 c v5 (s.stack ++ [n])) := ho6
    clear hs6 hb6 ho6
    go_wp2_with fail
    refine hah.mono ?_
    rintro e w7 ⟨rfl, hb7⟩
    clear hah
    go_wp2_with fail
    obtain ⟨WX, hWX⟩ : ∃ WX, WX = w7 := ⟨_, rfl⟩
    clear hWX WX
    have hb8 : Below c w w7 := HB6.out.trans (hb7.mono (by omega))
    have hs8 : StAt w7 c gv (s.enter n) v5 := HS6.out.later hb7 hc6
    have ho8 : Own w7 c v5 (s.stack ++ [n]) := HO6.out.kept (below_grown hb7 _)
    have HV : Hid (∀ j, j ≤ 32 → ∃ ext, Mid g.adj s n j (edges g.adj k s n j) ext) := (visit_post g.adj_lt (k + 1) s n HP.out hk).2 k rfl
    clear hb7 hsz3 hl32 hi hz0 hz1 hz2 HO HS3
    go_loopw [58] (fun i wr => ∃ d : Nat, d ≤ 32 ∧ i = .int .i64 d ∧ ∃ v, StAt wr c gv (edges g.adj k s n d) v ∧ Own wr c v (edges g.adj k s n d).stack ∧ Below c w wr) (fun i _ => 32 - (intOf i).toNat)
    case atStart => exact ⟨0, Nat.zero_le _, rfl, v5, hs8, ho8, hb8⟩
    case round =>
      obtain ⟨d, hd, rfl, v, hS, hO, hB⟩ := hrel
      clear hs8 ho8 hb8 HS6 HB6 HO6
      by_cases hdl : d < 32
      · have hix := fun wx => run_index_bools Try.underlying22 Try.underlying4 Try.infoBool (g.adj n) hdl wx
        have d1 : (0 : Int) ≤ (d : Int) ∧ (d : Int) < 32 := by omega
        obtain ⟨ext, M⟩ := HV.out d hd
        have HE0 := edges_succ g.adj k s n d
        generalize edges g.adj k s n d = t at hS hO M HE0
        have HM : Hid (Mid g.adj s n d t ext) := M
        clear M
        cases ha : g.adj n d
        · rw [ha] at hix
          have HE1 : Hid (edges g.adj k s n (d + 1) = t) := by unfold Hid; rw [HE0]; unfold St.edge; rw [ha]; rfl
          have HS : Hid (StAt wr c gv t v) := hS
          have HO : Hid (Own wr c v t.stack) := hO
          have HB : Hid (Below c w wr) := hB
          clear HE0 hS hO hB
          go_wp2_with fail
          go_roundw
          case rel => exact ⟨d + 1, by omega, by go_num, v, by rw [HE1.out]; exact HS.out, by rw [HE1.out]; exact HO.out, HB.out⟩
          case measure => simp [intOf]; omega
        · rw [ha] at hix
          have t0 := hS.cTurn hdl
          by_cases h0 : t.turn d = 0
          · rw [h0] at t0
            obtain ⟨t1, ht1⟩ : ∃ t1, t1 = visitL g.adj k t d := ⟨_, rfl⟩
            have HE1 : Hid (edges g.adj k s n (d + 1) = (t1.low n d).incl n d) := by unfold Hid; rw [HE0]; unfold St.edge; rw [if_pos ha, if_pos h0, ht1]
            have hvis := ih t d v wr (HM.out.pre HP.out ha hdl h0) (by have := HM.out.met; omega) hS hO (HG.out.later hB)
            rw [← ht1] at hvis
            have HB : Hid (Below c w wr) := hB
            have HHa : Hid (g.adj n d = true) := ha
            clear HE0 hS hO hB ht1 ha h0
            go_upto_region 9 with fail
            go_wp2_with fail
            refine hvis.mono ?_
            rintro e W8 ⟨rfl, v8, hS8, hO8, hB8⟩
            have HS8 : Hid (StAt W8 c gv t1 v8) := hS8
            have HO8 : Hid (Own W8 c v8 t1.stack) := hO8
            have HB8 : Hid (Below c w W8) := HB.out.trans hB8
            clear hvis hS8 hO8 hB8 t0
            have o1 := HS8.out.cOpn hdl
            cases hop : t1.opn d
            · rw [hop] at o1
              have HLo : Hid (t1.low n d = t1) := by unfold Hid St.low; rw [hop]; rfl
              go_upto_region 12 with fail
              clear o1

              have r1 := StAt.row (HS8.out) hdl
              obtain ⟨cs, hcs⟩ : ∃ cs, cs = (bools 32 ((t1 : St).reach d)).toList := ⟨_, rfl⟩
              have hin := incl_use c gv t1 v8 n d hn hdl cs hcs (W8).drew (StAt.drew (HS8.out))
              have hu := Try.underlying22
              have z1 := Try.sizeSet ((t1 : St).reach d)
              have k1 := bools_len 32 ((t1 : St).reach d)
              have o2 := bools_one 32 ((t1 : St).reach d)
              rw [← hcs] at r1 z1 k1 o2
              have hc8 := StAt.lt (HS8.out)
              have HO9 : Hid (∀ wx, (W8).drew.grownBy wx (some c) → Own wx c v8 ((t1 : St).incl n d).stack) := fun wx hx => Own.kept (w := W8.drew) (HO8.out) hx
              have HB9 : Hid (∀ wx, (W8).drew.grownBy wx (some c) → Below c w wx) := fun wx hx => (Below.drew (HB8.out)).trans (grown_below hx hc8)
              have HCS : Hid (cs = (bools 32 ((t1 : St).reach d)).toList) := hcs
              clear hcs
              go_region_held3 (fun w' => w'.rangeAt c (162 + d * 32) cs) (first | exact r1 | assumption) (first
                | (go_at_call 129; refine hin.mono ?_; rintro e w9 ⟨rfl, hS9, hG9, hR9⟩)
                | fail)
              go_wp2_with fail
              go_roundw
              case rel => exact ⟨d + 1, by omega, by go_num, v8, by rw [HE1.out, HLo.out]; exact hS9, by rw [HE1.out, HLo.out]; exact HO9.out _ hG9, HB9.out _ hG9⟩
              case measure => simp [intOf]; omega
            · rw [hop] at o1
              have b1 := HS8.out.cBack hn
              have b2 := HS8.out.cBack hdl
              have fb := HS8.out.fr (97 + n)
              rcases Nat.lt_or_ge (t1.back d) (t1.back n) with hle | hle
              rotate_left
              · have HLo : Hid (t1.low n d = ⟨t1.met, t1.turn, upd t1.back n (t1.back n), t1.stack, t1.opn, t1.reach⟩) := by unfold Hid St.low; rw [if_pos hop, Nat.min_eq_left hle]
                have hle' : ¬ t1.back d < t1.back n := by omega
                have hs10 : StAt _ c gv ⟨t1.met, t1.turn, upd t1.back n (t1.back n), t1.stack, t1.opn, t1.reach⟩ v8 := (HS8.out.putBack hn (t1.back n)).drew
                have hg10 := grown_drew (grown_put_same (World.grownBy.refl W8 (some c)) (97 + n) (.int .i64 ((t1.back n : Nat) : Int)))
                go_upto_region 11 with fail
                go_region
                go_upto_region 12 with fail
                obtain ⟨W9, hW9⟩ : ∃ W9, W9 = (W8.setCell ⟨c, 97 + n, none⟩ (.int .i64 ((t1.back n : Nat) : Int))).drew := ⟨_, rfl⟩
                rw [← hW9] at hs10 hg10 ⊢
                have ho10 : Own W9 c v8 t1.stack := HO8.out.kept hg10
                have hb10 : Below c w W9 := HB8.out.trans (grown_below hg10 HS8.out.lt)
                clear hW9 o1 b1 b2 fb hg10

                have r1 := StAt.row (hs10) hdl
                obtain ⟨cs, hcs⟩ : ∃ cs, cs = (bools 32 ((⟨t1.met, t1.turn, upd t1.back n (t1.back n), t1.stack, t1.opn, t1.reach⟩ : St).reach d)).toList := ⟨_, rfl⟩
                have hin := incl_use c gv ⟨t1.met, t1.turn, upd t1.back n (t1.back n), t1.stack, t1.opn, t1.reach⟩ v8 n d hn hdl cs hcs (W9).drew (StAt.drew (hs10))
                have hu := Try.underlying22
                have z1 := Try.sizeSet ((⟨t1.met, t1.turn, upd t1.back n (t1.back n), t1.stack, t1.opn, t1.reach⟩ : St).reach d)
                have k1 := bools_len 32 ((⟨t1.met, t1.turn, upd t1.back n (t1.back n), t1.stack, t1.opn, t1.reach⟩ : St).reach d)
                have o2 := bools_one 32 ((⟨t1.met, t1.turn, upd t1.back n (t1.back n), t1.stack, t1.opn, t1.reach⟩ : St).reach d)
                rw [← hcs] at r1 z1 k1 o2
                have hc8 := StAt.lt (hs10)
                have HO9 : Hid (∀ wx, (W9).drew.grownBy wx (some c) → Own wx c v8 ((⟨t1.met, t1.turn, upd t1.back n (t1.back n), t1.stack, t1.opn, t1.reach⟩ : St).incl n d).stack) := fun wx hx => Own.kept (w := W9.drew) (ho10) hx
                have HB9 : Hid (∀ wx, (W9).drew.grownBy wx (some c) → Below c w wx) := fun wx hx => (Below.drew (hb10)).trans (grown_below hx hc8)
                have HCS : Hid (cs = (bools 32 ((⟨t1.met, t1.turn, upd t1.back n (t1.back n), t1.stack, t1.opn, t1.reach⟩ : St).reach d)).toList) := hcs
                clear hcs
                go_region_held3 (fun w' => w'.rangeAt c (162 + d * 32) cs) (first | exact r1 | assumption) (first
                  | (go_at_call 129; refine hin.mono ?_; rintro e w9 ⟨rfl, hS9, hG9, hR9⟩)
                  | fail)
                go_wp2_with fail
                go_roundw
                case rel => exact ⟨d + 1, by omega, by go_num, v8, by rw [HE1.out, HLo.out]; exact hS9, by rw [HE1.out, HLo.out]; exact HO9.out _ hG9, HB9.out _ hG9⟩
                case measure => simp [intOf]; omega
              · have HLo : Hid (t1.low n d = ⟨t1.met, t1.turn, upd t1.back n (t1.back d), t1.stack, t1.opn, t1.reach⟩) := by unfold Hid St.low; rw [if_pos hop, Nat.min_eq_right (Nat.le_of_lt hle)]
                have hs10 : StAt _ c gv ⟨t1.met, t1.turn, upd t1.back n (t1.back d), t1.stack, t1.opn, t1.reach⟩ v8 := (HS8.out.putBack hn (t1.back d)).drew
                have hg10 := grown_drew (grown_put_same (World.grownBy.refl W8 (some c)) (97 + n) (.int .i64 ((t1.back d : Nat) : Int)))
                go_upto_region 11 with fail
                go_region
                go_upto_region 12 with fail
                obtain ⟨W9, hW9⟩ : ∃ W9, W9 = (W8.setCell ⟨c, 97 + n, none⟩ (.int .i64 ((t1.back d : Nat) : Int))).drew := ⟨_, rfl⟩
                rw [← hW9] at hs10 hg10 ⊢
                have ho10 : Own W9 c v8 t1.stack := HO8.out.kept hg10
                have hb10 : Below c w W9 := HB8.out.trans (grown_below hg10 HS8.out.lt)
                clear hW9 o1 b1 b2 fb hg10

                have r1 := StAt.row (hs10) hdl
                obtain ⟨cs, hcs⟩ : ∃ cs, cs = (bools 32 ((⟨t1.met, t1.turn, upd t1.back n (t1.back d), t1.stack, t1.opn, t1.reach⟩ : St).reach d)).toList := ⟨_, rfl⟩
                have hin := incl_use c gv ⟨t1.met, t1.turn, upd t1.back n (t1.back d), t1.stack, t1.opn, t1.reach⟩ v8 n d hn hdl cs hcs (W9).drew (StAt.drew (hs10))
                have hu := Try.underlying22
                have z1 := Try.sizeSet ((⟨t1.met, t1.turn, upd t1.back n (t1.back d), t1.stack, t1.opn, t1.reach⟩ : St).reach d)
                have k1 := bools_len 32 ((⟨t1.met, t1.turn, upd t1.back n (t1.back d), t1.stack, t1.opn, t1.reach⟩ : St).reach d)
                have o2 := bools_one 32 ((⟨t1.met, t1.turn, upd t1.back n (t1.back d), t1.stack, t1.opn, t1.reach⟩ : St).reach d)
                rw [← hcs] at r1 z1 k1 o2
                have hc8 := StAt.lt (hs10)
                have HO9 : Hid (∀ wx, (W9).drew.grownBy wx (some c) → Own wx c v8 ((⟨t1.met, t1.turn, upd t1.back n (t1.back d), t1.stack, t1.opn, t1.reach⟩ : St).incl n d).stack) := fun wx hx => Own.kept (w := W9.drew) (ho10) hx
                have HB9 : Hid (∀ wx, (W9).drew.grownBy wx (some c) → Below c w wx) := fun wx hx => (Below.drew (hb10)).trans (grown_below hx hc8)
                have HCS : Hid (cs = (bools 32 ((⟨t1.met, t1.turn, upd t1.back n (t1.back d), t1.stack, t1.opn, t1.reach⟩ : St).reach d)).toList) := hcs
                clear hcs
                go_region_held3 (fun w' => w'.rangeAt c (162 + d * 32) cs) (first | exact r1 | assumption) (first
                  | (go_at_call 129; refine hin.mono ?_; rintro e w9 ⟨rfl, hS9, hG9, hR9⟩)
                  | fail)
                go_wp2_with fail
                go_roundw
                case rel => exact ⟨d + 1, by omega, by go_num, v8, by rw [HE1.out, HLo.out]; exact hS9, by rw [HE1.out, HLo.out]; exact HO9.out _ hG9, HB9.out _ hG9⟩
                case measure => simp [intOf]; omega
          · have h0' : (((t.turn d : Nat) : Int) == 0) = false := by simp; omega
            obtain ⟨t1, ht1⟩ : ∃ t1, t1 = t := ⟨_, rfl⟩
            obtain ⟨v8, hv8⟩ : ∃ v8, v8 = v := ⟨_, rfl⟩
            obtain ⟨W8, hW8⟩ : ∃ W8, W8 = wr := ⟨_, rfl⟩
            have HE1 : Hid (edges g.adj k s n (d + 1) = (t1.low n d).incl n d) := by unfold Hid; rw [HE0]; unfold St.edge; rw [if_pos ha, if_neg h0, ht1]
            rw [← hW8, ← ht1] at t0
            rw [← ht1] at h0'
            have HS8 : Hid (StAt W8 c gv t1 v8) := by rw [ht1, hv8, hW8]; exact hS
            have HO8 : Hid (Own W8 c v8 t1.stack) := by rw [ht1, hv8, hW8]; exact hO
            have HB8 : Hid (Below c w W8) := by rw [hW8]; exact hB
            rw [← hW8]
            clear HE0 hS hO hB ha h0 HM hv8 hW8 ht1
            go_upto_region 10 with fail
            have o1 := HS8.out.cOpn hdl
            cases hop : t1.opn d
            · rw [hop] at o1
              have HLo : Hid (t1.low n d = t1) := by unfold Hid St.low; rw [hop]; rfl
              go_upto_region 12 with fail
              clear o1

              have r1 := StAt.row (HS8.out) hdl
              obtain ⟨cs, hcs⟩ : ∃ cs, cs = (bools 32 ((t1 : St).reach d)).toList := ⟨_, rfl⟩
              have hin := incl_use c gv t1 v8 n d hn hdl cs hcs (W8).drew (StAt.drew (HS8.out))
              have hu := Try.underlying22
              have z1 := Try.sizeSet ((t1 : St).reach d)
              have k1 := bools_len 32 ((t1 : St).reach d)
              have o2 := bools_one 32 ((t1 : St).reach d)
              rw [← hcs] at r1 z1 k1 o2
              have hc8 := StAt.lt (HS8.out)
              have HO9 : Hid (∀ wx, (W8).drew.grownBy wx (some c) → Own wx c v8 ((t1 : St).incl n d).stack) := fun wx hx => Own.kept (w := W8.drew) (HO8.out) hx
              have HB9 : Hid (∀ wx, (W8).drew.grownBy wx (some c) → Below c w wx) := fun wx hx => (Below.drew (HB8.out)).trans (grown_below hx hc8)
              have HCS : Hid (cs = (bools 32 ((t1 : St).reach d)).toList) := hcs
              clear hcs
              go_region_held3 (fun w' => w'.rangeAt c (162 + d * 32) cs) (first | exact r1 | assumption) (first
                | (go_at_call 129; refine hin.mono ?_; rintro e w9 ⟨rfl, hS9, hG9, hR9⟩)
                | fail)
              go_wp2_with fail
              go_roundw
              case rel => exact ⟨d + 1, by omega, by go_num, v8, by rw [HE1.out, HLo.out]; exact hS9, by rw [HE1.out, HLo.out]; exact HO9.out _ hG9, HB9.out _ hG9⟩
              case measure => simp [intOf]; omega
            · rw [hop] at o1
              have b1 := HS8.out.cBack hn
              have b2 := HS8.out.cBack hdl
              have fb := HS8.out.fr (97 + n)
              rcases Nat.lt_or_ge (t1.back d) (t1.back n) with hle | hle
              rotate_left
              · have HLo : Hid (t1.low n d = ⟨t1.met, t1.turn, upd t1.back n (t1.back n), t1.stack, t1.opn, t1.reach⟩) := by unfold Hid St.low; rw [if_pos hop, Nat.min_eq_left hle]
                have hle' : ¬ t1.back d < t1.back n := by omega
                have hs10 : StAt _ c gv ⟨t1.met, t1.turn, upd t1.back n (t1.back n), t1.stack, t1.opn, t1.reach⟩ v8 := (HS8.out.putBack hn (t1.back n)).drew
                have hg10 := grown_drew (grown_put_same (World.grownBy.refl W8 (some c)) (97 + n) (.int .i64 ((t1.back n : Nat) : Int)))
                go_upto_region 11 with fail
                go_region
                go_upto_region 12 with fail
                obtain ⟨W9, hW9⟩ : ∃ W9, W9 = (W8.setCell ⟨c, 97 + n, none⟩ (.int .i64 ((t1.back n : Nat) : Int))).drew := ⟨_, rfl⟩
                rw [← hW9] at hs10 hg10 ⊢
                have ho10 : Own W9 c v8 t1.stack := HO8.out.kept hg10
                have hb10 : Below c w W9 := HB8.out.trans (grown_below hg10 HS8.out.lt)
                clear hW9 o1 b1 b2 fb hg10

                have r1 := StAt.row (hs10) hdl
                obtain ⟨cs, hcs⟩ : ∃ cs, cs = (bools 32 ((⟨t1.met, t1.turn, upd t1.back n (t1.back n), t1.stack, t1.opn, t1.reach⟩ : St).reach d)).toList := ⟨_, rfl⟩
                have hin := incl_use c gv ⟨t1.met, t1.turn, upd t1.back n (t1.back n), t1.stack, t1.opn, t1.reach⟩ v8 n d hn hdl cs hcs (W9).drew (StAt.drew (hs10))
                have hu := Try.underlying22
                have z1 := Try.sizeSet ((⟨t1.met, t1.turn, upd t1.back n (t1.back n), t1.stack, t1.opn, t1.reach⟩ : St).reach d)
                have k1 := bools_len 32 ((⟨t1.met, t1.turn, upd t1.back n (t1.back n), t1.stack, t1.opn, t1.reach⟩ : St).reach d)
                have o2 := bools_one 32 ((⟨t1.met, t1.turn, upd t1.back n (t1.back n), t1.stack, t1.opn, t1.reach⟩ : St).reach d)
                rw [← hcs] at r1 z1 k1 o2
                have hc8 := StAt.lt (hs10)
                have HO9 : Hid (∀ wx, (W9).drew.grownBy wx (some c) → Own wx c v8 ((⟨t1.met, t1.turn, upd t1.back n (t1.back n), t1.stack, t1.opn, t1.reach⟩ : St).incl n d).stack) := fun wx hx => Own.kept (w := W9.drew) (ho10) hx
                have HB9 : Hid (∀ wx, (W9).drew.grownBy wx (some c) → Below c w wx) := fun wx hx => (Below.drew (hb10)).trans (grown_below hx hc8)
                have HCS : Hid (cs = (bools 32 ((⟨t1.met, t1.turn, upd t1.back n (t1.back n), t1.stack, t1.opn, t1.reach⟩ : St).reach d)).toList) := hcs
                clear hcs
                go_region_held3 (fun w' => w'.rangeAt c (162 + d * 32) cs) (first | exact r1 | assumption) (first
                  | (go_at_call 129; refine hin.mono ?_; rintro e w9 ⟨rfl, hS9, hG9, hR9⟩)
                  | fail)
                go_wp2_with fail
                go_roundw
                case rel => exact ⟨d + 1, by omega, by go_num, v8, by rw [HE1.out, HLo.out]; exact hS9, by rw [HE1.out, HLo.out]; exact HO9.out _ hG9, HB9.out _ hG9⟩
                case measure => simp [intOf]; omega
              · have HLo : Hid (t1.low n d = ⟨t1.met, t1.turn, upd t1.back n (t1.back d), t1.stack, t1.opn, t1.reach⟩) := by unfold Hid St.low; rw [if_pos hop, Nat.min_eq_right (Nat.le_of_lt hle)]
                have hs10 : StAt _ c gv ⟨t1.met, t1.turn, upd t1.back n (t1.back d), t1.stack, t1.opn, t1.reach⟩ v8 := (HS8.out.putBack hn (t1.back d)).drew
                have hg10 := grown_drew (grown_put_same (World.grownBy.refl W8 (some c)) (97 + n) (.int .i64 ((t1.back d : Nat) : Int)))
                go_upto_region 11 with fail
                go_region
                go_upto_region 12 with fail
                obtain ⟨W9, hW9⟩ : ∃ W9, W9 = (W8.setCell ⟨c, 97 + n, none⟩ (.int .i64 ((t1.back d : Nat) : Int))).drew := ⟨_, rfl⟩
                rw [← hW9] at hs10 hg10 ⊢
                have ho10 : Own W9 c v8 t1.stack := HO8.out.kept hg10
                have hb10 : Below c w W9 := HB8.out.trans (grown_below hg10 HS8.out.lt)
                clear hW9 o1 b1 b2 fb hg10

                have r1 := StAt.row (hs10) hdl
                obtain ⟨cs, hcs⟩ : ∃ cs, cs = (bools 32 ((⟨t1.met, t1.turn, upd t1.back n (t1.back d), t1.stack, t1.opn, t1.reach⟩ : St).reach d)).toList := ⟨_, rfl⟩
                have hin := incl_use c gv ⟨t1.met, t1.turn, upd t1.back n (t1.back d), t1.stack, t1.opn, t1.reach⟩ v8 n d hn hdl cs hcs (W9).drew (StAt.drew (hs10))
                have hu := Try.underlying22
                have z1 := Try.sizeSet ((⟨t1.met, t1.turn, upd t1.back n (t1.back d), t1.stack, t1.opn, t1.reach⟩ : St).reach d)
                have k1 := bools_len 32 ((⟨t1.met, t1.turn, upd t1.back n (t1.back d), t1.stack, t1.opn, t1.reach⟩ : St).reach d)
                have o2 := bools_one 32 ((⟨t1.met, t1.turn, upd t1.back n (t1.back d), t1.stack, t1.opn, t1.reach⟩ : St).reach d)
                rw [← hcs] at r1 z1 k1 o2
                have hc8 := StAt.lt (hs10)
                have HO9 : Hid (∀ wx, (W9).drew.grownBy wx (some c) → Own wx c v8 ((⟨t1.met, t1.turn, upd t1.back n (t1.back d), t1.stack, t1.opn, t1.reach⟩ : St).incl n d).stack) := fun wx hx => Own.kept (w := W9.drew) (ho10) hx
                have HB9 : Hid (∀ wx, (W9).drew.grownBy wx (some c) → Below c w wx) := fun wx hx => (Below.drew (hb10)).trans (grown_below hx hc8)
                have HCS : Hid (cs = (bools 32 ((⟨t1.met, t1.turn, upd t1.back n (t1.back d), t1.stack, t1.opn, t1.reach⟩ : St).reach d)).toList) := hcs
                clear hcs
                go_region_held3 (fun w' => w'.rangeAt c (162 + d * 32) cs) (first | exact r1 | assumption) (first
                  | (go_at_call 129; refine hin.mono ?_; rintro e w9 ⟨rfl, hS9, hG9, hR9⟩)
                  | fail)
                go_wp2_with fail
                go_roundw
                case rel => exact ⟨d + 1, by omega, by go_num, v8, by rw [HE1.out, HLo.out]; exact hS9, by rw [HE1.out, HLo.out]; exact HO9.out _ hG9, HB9.out _ hG9⟩
                case measure => simp [intOf]; omega
      · obtain rfl : d = 32 := by omega
        obtain ⟨ext, M⟩ := HV.out 32 hd
        have HE0 : Hid (visitL g.adj (k + 1) s n = (edges g.adj k s n 32).shut n) := rfl
        generalize edges g.adj k s n 32 = t at hS hO M HE0
        have b1 := hS.cBack hn
        have b2 := hS.cTurn hn
        have hns : n ∉ s.stack := fun h => HP.out.inv.mem n h HP.out.new
        have hcl := fun wx (hx : StAt wx c gv t v) (ho : Own wx c v t.stack) => close_any c gv t v n s.stack ext wx hx ho M.stack hns (fun x hx => M.inv.lt x (M.inv.mem x hx))
        have HCL : Hid (∀ wx, StAt wx c gv t v → Own wx c v t.stack → _) := hcl
        have HS : Hid (StAt wr c gv t v) := hS
        have HO : Hid (Own wr c v t.stack) := hO
        have HB : Hid (Below c w wr) := hB
        clear M hcl hS hO hB hns
        by_cases hb : t.back n = t.turn n
        · have hb' : (((t.back n : Nat) : Int) == ((t.turn n : Nat) : Int)) = true := by rw [hb]; simp
          have HE : Hid (visitL g.adj (k + 1) s n = t.close n) := by unfold Hid; rw [HE0.out]; unfold St.shut; rw [if_pos hb]
          clear hb
          go_upto_region 14 with fail
          go_quiet (fail)
          go_wp2_with fail
          refine (HCL.out (wr.drewN nq) (HS.out.drewN nq) HO.out).mono ?_
          rintro e w9 ⟨rfl, v9, hS9, hO9, hG9⟩
          go_wp2_with fail
          go_end0
          refine ⟨rfl, v9, by rw [HE.out]; exact hS9, by rw [HE.out]; exact hO9, HB.out.trans ?_⟩
          exact (below_drewN (Below.refl _ _) nq).trans (grown_below hG9 HS.out.lt)
        · have hb' : (((t.back n : Nat) : Int) == ((t.turn n : Nat) : Int)) = false := by simp; omega
          have HE : Hid (visitL g.adj (k + 1) s n = t) := by unfold Hid; rw [HE0.out]; unfold St.shut; rw [if_neg hb]
          clear hb
          go_upto_region 14 with fail
          go_quiet (fail)
          go_wp2_with fail
          go_end0
          exact ⟨rfl, v, by rw [HE.out]; exact HS.out, by rw [HE.out]; exact HO.out, HB.out.trans (below_drewN (Below.refl _ _) nq)⟩

end Go.Proofs.Ytkoefoccbjhoiab
