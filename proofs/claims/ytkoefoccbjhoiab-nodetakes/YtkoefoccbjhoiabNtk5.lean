/-
  The contracts of package graph's ring, isFree and nextRing.
  Plain mathematics of an order: ring by ring, the least first.
  The contract of package graph's Order.
  Plain mathematics: what an order is, by what hangs on what alone; that it has all, each behind what it hangs on; that its parts are orders.
  Plain mathematics: what is executed order by order stands behind all that it hangs on, but those that hang on it: these by number.
-/
import Derived.Test.YtkoefoccbjhoiabNtk4
namespace Go.Proofs.Ytkoefoccbjhoiab
open Go.RowKit

/-- Those that hang on the same as n. -/
def sameAs (R : Nat → Nat → Bool) (n m : Nat) : Bool := sameB 32 (R n) (R m)
def ringN (R : Nat → Nat → Bool) (n : Nat) : List Nat := (List.range 32).filter (sameAs R n)
def freeTo (R : Nat → Nat → Bool) (placed : Nat → Bool) (n k : Nat) : Bool := (List.range k).all fun m => !R n m || placed m || sameAs R n m
def mayB (R : Nat → Nat → Bool) (T : Nat → Nat) (placed : Nat → Bool) (n : Nat) : Bool := decide (0 < T n) && !placed n && freeTo R placed n 32
def nextN (R : Nat → Nat → Bool) (T : Nat → Nat) (placed : Nat → Bool) : Option Nat := (List.range 32).find? (mayB R T placed)
def nextL (R : Nat → Nat → Bool) (T : Nat → Nat) (placed : Nat → Bool) : List Nat := match nextN R T placed with
  | none => []
  | some n => ringN R n

theorem ownsRow_drewN {w : World} {base : Nat} {e : TypeId} {size : Nat} {v : Value} {n : Nat} {xs : List Value} (h : w.ownsRow base e size v n xs) (k : Nat) : (w.drewN k).ownsRow base e size v n xs := h

set_option maxRecDepth 100000 in
set_option maxHeartbeats 400000 in
theorem ring_any (c : Nat) (gv : Nat → Value) (s : St) (sv : Value) (n : Nat) (hn : n < 32) (w : World) (hs : StAt w c gv s sv) :
    Calls Try.prog 108 #[.pointer (some ⟨c, 0, none⟩), .int .i64 n] w fun e w' => ∃ v, e = .returned v ∧ w'.ownsRow w.heap.size 3 1 v (ints (ringN s.reach n)).length (intCells (ints (ringN s.reach n))) ∧ Below w.heap.size w w' := by
  obtain ⟨i0, hi, hz0, hz1, hz2⟩ := info_parts Try.infoInt
  have hc := hs.lt
  have HS : Hid (StAt w c gv s sv) := hs
  clear hs
  go_enter Try.func108, Try.ntmps108
  go_wp2_with fail
  go_loopw [5, 7] (fun v i wr => ∃ k : Nat, k ≤ 32 ∧ i = .int .i64 k ∧ wr.ownsRow w.heap.size 3 1 v (unionTo (sameAs s.reach n) k).length ((unionTo (sameAs s.reach n) k).map (Value.int .i64)) ∧ Below w.heap.size w wr) (fun _ i _ => 32 - (intOf i).toNat)
  case atStart => exact ⟨0, Nat.zero_le _, rfl, World.ownsRow_nil _ _ _ _, Below.refl _ _⟩
  case round =>
    obtain ⟨k, hk, rfl, hown, hB⟩ := hrel
    have hsz1 := hB.size
    by_cases hlt : k < 32
    · have hto := together_any c gv s sv n k hn hlt wr (HS.out.later hB hc)
      have hlen := unionTo_len (sameAs s.reach n) k
      cases tk : sameAs s.reach n k
      · have HM : Hid (unionTo (sameAs s.reach n) (k + 1) = unionTo (sameAs s.reach n) k) := unionTo_miss tk
        have tk' : sameB 32 (s.reach n) (s.reach k) = false := tk
        rw [tk'] at hto
        go_wp2_with fail
        refine hto.mono ?_
        rintro e w' ⟨rfl, q, rfl⟩
        go_wp2_with fail
        go_roundw
        case rel => exact ⟨k + 1, by omega, by go_num, by rw [HM.out]; exact hown, below_drewN hB q⟩
        case measure => simp [intOf]; omega
      · have HM : Hid (unionTo (sameAs s.reach n) (k + 1) = unionTo (sameAs s.reach n) k ++ [(k : Int)]) := unionTo_hit tk
        have tk' : sameB 32 (s.reach n) (s.reach k) = true := tk
        rw [tk'] at hto
        go_wp2_with fail
        refine hto.mono ?_
        rintro e w' ⟨rfl, q, rfl⟩
        obtain ⟨W, hW⟩ : ∃ W, W = wr.drewN q := ⟨_, rfl⟩
        have hownW : W.ownsRow w.heap.size 3 1 u5 (unionTo (sameAs s.reach n) k).length ((unionTo (sameAs s.reach n) k).map (Value.int .i64)) := by rw [hW]; exact ownsRow_drewN hown q
        have hBW : Below w.heap.size w W := by rw [hW]; exact below_drewN hB q
        have hszW := hBW.size
        rw [← hW]
        clear hW hown hB hto
        go_wp2_with (first
          | (at_builtin; refine wpList_append_own _ rfl _ _ 23 rfl w.heap.size 3 i0 (.int .i64 0) 1 8 Try.underlying23 hi hz0 hz1 hz2 rfl (by decide) _ _ _ rfl (hownW.alloc _) ⟨W.heap.size, 0, none⟩ 1 1 [.int .i64 k] rfl rfl ?c1 ?c2 ?c3 ?c4 ?c5 ?_)
          | go_in)
        case c1 =>
          intro j u hj
          match j, hj with
          | 0, hj => simp at hj; subst hj; simp [Addr.add]
        case c2 => intro u hu; simp at hu; subst hu; rfl
        case c3 => unfold maxLen; omega
        case c4 => omega
        case c5 => simp; omega
        intro v' w3 hown' hgrow _
        have hB' : Below w.heap.size w w3 := (hBW.alloc hszW _).grown hgrow (by simp; omega) (owns_block hownW)
        clear hgrow hownW
        go_wp2_with fail
        go_roundw
        case rel => exact ⟨k + 1, by omega, by go_num, by rw [HM.out]; simpa using hown', hB'⟩
        case measure => simp [intOf]; omega
    · have e : k = 32 := by omega
      subst e
      have HO : Hid (wr.ownsRow w.heap.size 3 1 u5 (unionTo (sameAs s.reach n) 32).length ((unionTo (sameAs s.reach n) 32).map (Value.int .i64))) := hown
      clear hown
      go_wp2
      go_ret
      exact ⟨_, rfl, HO.out, hB⟩

theorem freeTo_hit {R : Nat → Nat → Bool} {placed : Nat → Bool} {n k : Nat} (h : freeTo R placed n k = true) (h' : (!R n k || placed k || sameAs R n k) = true) : freeTo R placed n (k + 1) = true := by
  unfold freeTo at *
  rw [List.range_succ, List.all_append, h]
  simpa using h'
theorem freeTo_miss {R : Nat → Nat → Bool} {placed : Nat → Bool} {n k m : Nat} (hk : k < m) (h' : (!R n k || placed k || sameAs R n k) = false) : freeTo R placed n m = false := by
  unfold freeTo
  rw [List.all_eq_false]
  exact ⟨k, List.mem_range.2 hk, by rw [h']; simp⟩

set_option maxRecDepth 100000 in
set_option maxHeartbeats 400000 in
theorem free_any (c : Nat) (gv : Nat → Value) (s : St) (sv : Value) (n : Nat) (hn : n < 32) (placed : Nat → Bool) (w : World) (hs : StAt w c gv s sv) :
    Calls Try.prog 107 #[.pointer (some ⟨c, 0, none⟩), .int .i64 n, .agg (bools 32 placed)] w fun e w' => e = .returned (.bool (freeTo s.reach placed n 32)) ∧ Below w.heap.size w w' := by
  have hc := hs.lt
  have n1 : (0 : Int) ≤ (n : Int) ∧ (n : Int) < 32 := by omega
  have hs0 := hs.alloc (.cells (bools 32 placed) 22)
  have hb0 : Below w.heap.size w (w.alloc (.cells (bools 32 placed) 22)) := (Below.refl _ _).alloc (Nat.le_refl _) _
  have hp0 : SetAt 32 (w.alloc (.cells (bools 32 placed) 22)) w.heap.size placed := ⟨22, heap_new _ _⟩
  go_enter Try.func107, Try.ntmps107
  go_upto_region 1 with fail
  obtain ⟨W, hW⟩ : ∃ W, W = w.alloc (.cells (bools 32 placed) 22) := ⟨_, rfl⟩
  rw [← hW] at hs0 hb0 hp0 ⊢
  have r1 := hs0.row hn
  have HS : Hid (StAt W c gv s sv) := hs0
  have HPl : Hid (SetAt 32 W w.heap.size placed) := hp0
  have HB : Hid (Below w.heap.size w W) := hb0
  have z1 := Try.sizeSet (s.reach n)
  clear hW hs hs0 hp0 hb0
  go_wp2_with (refine wpList_load_mid rfl 22 _ rfl c (162 + n * 32) rfl (bools 32 (s.reach n)).toList _ r1 Try.underlying22 rfl z1 ?_)
  rw [Array.toArray_toList]
  clear r1 z1
  go_loopw [15] (fun i wr => ∃ k : Nat, k ≤ 32 ∧ i = .int .i64 k ∧ freeTo s.reach placed n k = true ∧ ∃ q, wr = W.drewN q) (fun i _ => 32 - (intOf i).toNat)
  case atStart => exact ⟨0, Nat.zero_le _, rfl, rfl, 0, rfl⟩
  case round =>
    obtain ⟨k, hk, rfl, hko, q, rfl⟩ := hrel
    by_cases hlt : k < 32
    · have hix := fun wx => run_index_bools Try.underlying22 Try.underlying4 Try.infoBool (s.reach n) hlt wx
      have k1 : (0 : Int) ≤ (k : Int) ∧ (k : Int) < 32 := by omega
      have c0 := HPl.out.cell hlt
      have HKO : Hid (freeTo s.reach placed n k = true) := hko
      have hto := together_any c gv s sv n k hn hlt (W.drewN q) (HS.out.drewN q)
      clear hko
      cases tk : s.reach n k
      · rw [tk] at hix
        go_wp2_with fail
        go_roundw
        case rel => exact ⟨k + 1, by omega, by go_num, freeTo_hit HKO.out (by rw [tk]; rfl), q, rfl⟩
        case measure => simp [intOf]; omega
      · rw [tk] at hix
        cases tp : placed k
        · rw [tp] at c0
          cases ts : sameAs s.reach n k
          · have ts' : sameB 32 (s.reach n) (s.reach k) = false := ts
            rw [ts'] at hto
            have HF : Hid (freeTo s.reach placed n 32 = false) := freeTo_miss hlt (by rw [tk, tp, ts]; rfl)
            go_wp2_with fail
            refine hto.mono ?_
            rintro e w' ⟨rfl, q2, rfl⟩
            go_wp2_with fail
            go_ret
            exact ⟨ret_bool HF.out.symm, below_drewN HB.out _⟩
          · have ts' : sameB 32 (s.reach n) (s.reach k) = true := ts
            rw [ts'] at hto
            go_wp2_with fail
            refine hto.mono ?_
            rintro e w' ⟨rfl, q2, rfl⟩
            go_wp2_with fail
            go_roundw
            case rel => exact ⟨k + 1, by omega, by go_num, freeTo_hit HKO.out (by rw [tk, tp, ts]; rfl), q + q2, rfl⟩
            case measure => simp [intOf]; omega
        · rw [tp] at c0
          go_wp2_with fail
          go_roundw
          case rel => exact ⟨k + 1, by omega, by go_num, freeTo_hit HKO.out (by rw [tk, tp]; rfl), q, rfl⟩
          case measure => simp [intOf]; omega
    · have e : k = 32 := by omega
      subst e
      have HKO : Hid (freeTo s.reach placed n 32 = true) := hko
      clear hko
      go_wp2
      go_ret
      exact ⟨ret_bool HKO.out.symm, below_drewN HB.out q⟩

theorem run_index_ints {P : Program} {t e : TypeId} {n : Nat} (ht : P.underlying t = some (.array n e)) (he : P.underlying e = some (.int .i64)) (hi : (P.info? e).map (·.size) = some 1) (f : Nat → Value) {k : Nat} (hk : k < n) (w : World) :
    (Instr.index t (.agg (rowF n f)) (.int .i64 (k : Int))).run P w = .ok (f k) w := by
  have h1 : (0 : Int) ≤ (k : Int) ∧ (k : Int) < (n : Int) := by omega
  cases hq : P.info? e with
  | none => simp [hq] at hi
  | some i =>
    have hs : i.size = 1 := by simpa [hq] using hi
    have hg := rowF_get f hk
    simp [Instr.index, run_underlying ht, run_underlying he, asIntOf, h1, part, isAgg, sizeOf, typeInfo, hq, hs, hg, go_sem]
    intro h
    omega
theorem Try.sizeInt : (Try.prog.info? 3).map (·.size) = some 1 := by kernel_rfl
theorem Try.infoTurns : (Try.prog.info? 66).map (·.size) = some 32 := by kernel_rfl
def turnF (T : Nat → Nat) (i : Nat) : Value := .int .i64 (T i)
theorem StAt.turns {w : World} {c : Nat} {gv : Nat → Value} {s : St} {sv : Value} (h : StAt w c gv s sv) : w.rangeAt c 65 (rowF 32 (turnF s.turn)).toList := by
  have := BlkAt.range h (o := 65) (n := 32) (by omega)
  have e : (List.range 32).map (fun i => sCell gv s sv (65 + i)) = (rowF 32 (turnF s.turn)).toList := by
    unfold rowF
    simp only []
    exact List.map_congr_left fun i hi => sCell_turn gv s sv (List.mem_range.1 hi)
  rw [← e]
  exact this

/-- None below k may be placed. -/
def noneTo (R : Nat → Nat → Bool) (T : Nat → Nat) (placed : Nat → Bool) (k : Nat) : Bool := (List.range k).all fun n => !mayB R T placed n
theorem noneTo_hit {R : Nat → Nat → Bool} {T : Nat → Nat} {placed : Nat → Bool} {k : Nat} (h : noneTo R T placed k = true) (h' : mayB R T placed k = false) : noneTo R T placed (k + 1) = true := by
  unfold noneTo at *
  rw [List.range_succ, List.all_append, h]
  simp [h']
theorem nextL_hit {R : Nat → Nat → Bool} {T : Nat → Nat} {placed : Nat → Bool} {k : Nat} (hk : k < 32) (h : noneTo R T placed k = true) (h' : mayB R T placed k = true) : nextL R T placed = ringN R k := by
  have : nextN R T placed = some k := by
    unfold nextN
    rw [List.find?_range_eq_some]
    refine ⟨h', List.mem_range.2 hk, fun j hj => ?_⟩
    have := List.all_eq_true.1 h j (List.mem_range.2 hj)
    exact this
  unfold nextL
  rw [this]
theorem nextL_none {R : Nat → Nat → Bool} {T : Nat → Nat} {placed : Nat → Bool} (h : noneTo R T placed 32 = true) : nextL R T placed = [] := by
  have : nextN R T placed = none := by
    unfold nextN
    rw [List.find?_eq_none]
    intro x hx
    have := List.all_eq_true.1 h x hx
    simpa using this
  unfold nextL
  rw [this]
theorem may_parts {R : Nat → Nat → Bool} {T : Nat → Nat} {placed : Nat → Bool} {k : Nat} {a b c : Bool} (h1 : decide (0 < T k) = a) (h2 : placed k = b) (h3 : freeTo R placed k 32 = c) : mayB R T placed k = (a && !b && c) := by
  unfold mayB
  rw [h1, h2, h3]

set_option maxRecDepth 100000 in
set_option maxHeartbeats 800000 in
theorem next_any (c : Nat) (gv : Nat → Value) (s : St) (sv : Value) (placed : Nat → Bool) (w : World) (hs : StAt w c gv s sv) (hT : ∀ i, s.turn i ≤ 32) :
    Calls Try.prog 63 #[.pointer (some ⟨c, 0, none⟩), .agg (bools 32 placed)] w fun e w' => ∃ v, e = .returned v ∧ w'.ownsRow w.heap.size 3 1 v (ints (nextL s.reach s.turn placed)).length (intCells (ints (nextL s.reach s.turn placed))) ∧ Below w.heap.size w w' := by
  have hc := hs.lt
  have hs0 := hs.alloc (.cells (bools 32 placed) 22)
  have hb0 : Below w.heap.size w (w.alloc (.cells (bools 32 placed) 22)) := (Below.refl _ _).alloc (Nat.le_refl _) _
  have hp0 : (w.alloc (.cells (bools 32 placed) 22)).heap[w.heap.size]? = some (.cells (bools 32 placed) 22 (0, 0)) := heap_new _ _
  have hz0 : (w.alloc (.cells (bools 32 placed) 22)).heap.size = w.heap.size + 1 := size_push _ _
  have HT : Hid (∀ i, s.turn i ≤ 32) := hT
  clear hT
  go_enter Try.func63, Try.ntmps63
  go_upto_region 1 with fail
  obtain ⟨W, hW⟩ : ∃ W, W = w.alloc (.cells (bools 32 placed) 22) := ⟨_, rfl⟩
  rw [← hW] at hs0 hb0 hp0 hz0 ⊢
  have r1 := hs0.turns
  have HS : Hid (StAt W c gv s sv) := hs0
  have HPl : Hid (W.heap[w.heap.size]? = some (.cells (bools 32 placed) 22 (0, 0))) := hp0
  have HB : Hid (Below w.heap.size w W) := hb0
  have z1 : (Try.prog.info? 66).map (·.size) = some (rowF 32 (turnF s.turn)).toList.length := by rw [rowF_toList]; exact Try.infoTurns
  have HZ : Hid (W.heap.size = w.heap.size + 1) := hz0
  clear hW hs hs0 hp0 hb0 hz0
  go_wp2_with (refine wpList_load_mid rfl 66 _ rfl c 65 rfl (rowF 32 (turnF s.turn)).toList _ r1 Try.underlying66 rfl z1 ?_)
  rw [Array.toArray_toList]
  clear r1 z1
  go_loopw [11] (fun i wr => ∃ k : Nat, k ≤ 32 ∧ i = .int .i64 k ∧ noneTo s.reach s.turn placed k = true ∧ Below W.heap.size W wr) (fun i _ => 32 - (intOf i).toNat)
  case atStart => exact ⟨0, Nat.zero_le _, rfl, rfl, Below.refl _ _⟩
  case round =>
    obtain ⟨k, hk, rfl, hko, hBr⟩ := hrel
    have hwz := HZ.out
    have hrz := hBr.size
    by_cases hlt : k < 32
    · have hix : ∀ wx, (Instr.index 66 (.agg (rowF 32 (turnF s.turn))) (.int .i64 (k : Int))).run Try.prog wx = .ok (.int .i64 (s.turn k)) wx := fun wx => run_index_ints Try.underlying66 Try.underlying3 Try.sizeInt (turnF s.turn) hlt wx
      have ht32 := HT.out k
      have k1 : (0 : Int) ≤ (k : Int) ∧ (k : Int) < 32 := by omega
      have hrow : wr.heap[w.heap.size]? = some (.cells (bools 32 placed) 22 (0, 0)) := by rw [hBr.block _ (by omega)]; exact HPl.out
      have c0 : wr.cell? ⟨w.heap.size, k, none⟩ = some (.bool (placed k)) := SetAt.cell ⟨22, hrow⟩ hlt
      have hsr : StAt wr c gv s sv := HS.out.later hBr (by omega)
      have hfr := free_any c gv s sv k hlt placed wr hsr
      have hri := fun wx (hx : Below wr.heap.size wr wx) => ring_any c gv s sv k hlt wx (hsr.later hx (by omega))
      have HRI : Hid (∀ wx, Below wr.heap.size wr wx → _) := hri
      have HKO : Hid (noneTo s.reach s.turn placed k = true) := hko
      have HBR : Hid (Below W.heap.size W wr) := hBr
      clear hko hsr hri hBr
      by_cases t1 : 0 < s.turn k
      · have t1' : (0 : Int) < ((s.turn k : Nat) : Int) := by omega
        cases tp : placed k
        · rw [tp] at c0
          cases tf : freeTo s.reach placed k 32
          · rw [tf] at hfr
            have HN : Hid (mayB s.reach s.turn placed k = false) := may_parts (decide_eq_true t1) tp tf
            go_wp2_with (first
              | (refine wpList_wanted (by rfl) fun K hK => wp_load_row 22 _ rfl w.heap.size rfl 22 (bools 32 placed) (0, 0) _ hrow Try.underlying22 rfl (Try.sizeSet' _) (hK _ _ ?_))
              | (go_at_call 107; refine hfr.mono ?_; rintro e w1 ⟨rfl, hb1⟩))
            go_roundw
            case rel => exact ⟨k + 1, by omega, by go_num, noneTo_hit HKO.out HN.out, HBR.out.trans (hb1.mono (by omega))⟩
            case measure => simp [intOf]; omega
          · rw [tf] at hfr
            have HN : Hid (nextL s.reach s.turn placed = ringN s.reach k) := nextL_hit hlt HKO.out (may_parts (decide_eq_true t1) tp tf)
            go_wp2_with (first
              | (refine wpList_wanted (by rfl) fun K hK => wp_load_row 22 _ rfl w.heap.size rfl 22 (bools 32 placed) (0, 0) _ hrow Try.underlying22 rfl (Try.sizeSet' _) (hK _ _ ?_))
              | (go_at_call 107; refine hfr.mono ?_; rintro e w1 ⟨rfl, hb1⟩)
              | (go_at_call 108; refine (HRI.out w1 hb1).mono ?_; rintro e w2 ⟨v, rfl, ho2, hb2⟩))
            go_ret
            refine ⟨_, rfl, ?_, HB.out.trans ((HBR.out.mono (by omega)).trans ((hb1.mono (by omega)).trans (hb2.mono ?_)))⟩
            · rw [HN.out]; exact own_mono ho2 (by have := hb1.size; omega)
            · have := hb1.size; omega
        · rw [tp] at c0
          have HN : Hid (mayB s.reach s.turn placed k = false) := by unfold Hid mayB; rw [tp]; simp
          go_wp2_with fail
          go_roundw
          case rel => exact ⟨k + 1, by omega, by go_num, noneTo_hit HKO.out HN.out, HBR.out⟩
          case measure => simp [intOf]; omega
      · have t1' : ¬ (0 : Int) < ((s.turn k : Nat) : Int) := by omega
        have HN : Hid (mayB s.reach s.turn placed k = false) := by unfold Hid mayB; rw [decide_eq_false t1]; rfl
        go_wp2_with fail
        go_roundw
        case rel => exact ⟨k + 1, by omega, by go_num, noneTo_hit HKO.out HN.out, HBR.out⟩
        case measure => simp [intOf]; omega
    · have e : k = 32 := by omega
      subst e
      have HN : Hid (nextL s.reach s.turn placed = []) := nextL_none hko
      clear hko
      go_wp2
      go_ret
      exact ⟨_, rfl, by rw [HN.out]; exact World.ownsRow_nil _ _ _ _, HB.out.trans (hBr.mono (by omega))⟩

end Go.Proofs.Ytkoefoccbjhoiab

namespace Go.Proofs.Ytkoefoccbjhoiab
open Go.RowKit

theorem sameAs_symm {R : Nat → Nat → Bool} {n m : Nat} (h : sameAs R n m = true) : sameAs R m n = true := sameB_iff.2 fun i hi => (sameB_iff.1 h i hi).symm
theorem sameAs_trans {R : Nat → Nat → Bool} {n m k : Nat} (h : sameAs R n m = true) (h' : sameAs R m k = true) : sameAs R n k = true := sameB_iff.2 fun i hi => (sameB_iff.1 h i hi).trans (sameB_iff.1 h' i hi)
theorem mem_ring {R : Nat → Nat → Bool} {n m : Nat} : m ∈ ringN R n ↔ m < 32 ∧ sameAs R n m = true := by
  unfold ringN
  rw [List.mem_filter, List.mem_range]
theorem ring_nodup (R : Nat → Nat → Bool) (n : Nat) : (ringN R n).Nodup := List.Pairwise.filter _ List.nodup_range
/-- Those that are placed behind j rounds, in their order. -/
def outAt (R : Nat → Nat → Bool) (T : Nat → Nat) : Nat → List Nat
  | 0 => []
  | j + 1 => outAt R T j ++ nextL R T (fun i => (outAt R T j).contains i)
def orderN (R : Nat → Nat → Bool) (T : Nat → Nat) : List Nat := outAt R T 32

theorem next_some {R : Nat → Nat → Bool} {T : Nat → Nat} {placed : Nat → Bool} {n : Nat} (h : nextN R T placed = some n) : n < 32 ∧ mayB R T placed n = true ∧ ∀ m, m < n → mayB R T placed m = false := by
  unfold nextN at h
  rw [List.find?_range_eq_some] at h
  obtain ⟨h1, h2, h3⟩ := h
  exact ⟨List.mem_range.1 h2, h1, fun m hm => by simpa using h3 m hm⟩
theorem may_not {R : Nat → Nat → Bool} {T : Nat → Nat} {placed : Nat → Bool} {n : Nat} (h : mayB R T placed n = true) : 0 < T n ∧ placed n = false ∧ freeTo R placed n 32 = true := by
  unfold mayB at h
  simp at h
  exact ⟨h.1.1, h.1.2, h.2⟩

structure Placed (R : Nat → Nat → Bool) (out : List Nat) : Prop where
  nodup : out.Nodup
  lt : ∀ x ∈ out, x < 32
  rings : ∀ x y, y < 32 → sameAs R x y = true → x ∈ out → y ∈ out

theorem placed_next {R : Nat → Nat → Bool} {T : Nat → Nat} {out : List Nat} (h : Placed R out) : Placed R (out ++ nextL R T (fun i => out.contains i)) := by
  cases hq : nextN R T (fun i => out.contains i) with
  | none =>
    have : nextL R T (fun i => out.contains i) = [] := by unfold nextL; rw [hq]
    rw [this, List.append_nil]
    exact h
  | some n =>
    have e : nextL R T (fun i => out.contains i) = ringN R n := by unfold nextL; rw [hq]
    obtain ⟨h1, h2, _⟩ := next_some hq
    have hn : n ∉ out := by simpa using (may_not h2).2.1
    rw [e]
    refine ⟨?_, ?_, ?_⟩
    · rw [List.nodup_append]
      refine ⟨h.nodup, ring_nodup R n, fun a ha b hb e => ?_⟩
      subst e
      exact hn (h.rings a n h1 (sameAs_symm (mem_ring.1 hb).2) ha)
    · intro x hx
      rcases List.mem_append.1 hx with hx | hx
      · exact h.lt x hx
      · exact (mem_ring.1 hx).1
    · intro x y hy hs hx
      rcases List.mem_append.1 hx with hx | hx
      · exact List.mem_append_left _ (h.rings x y hy hs hx)
      · exact List.mem_append_right _ (mem_ring.2 ⟨hy, sameAs_trans (mem_ring.1 hx).2 hs⟩)
theorem placed_at (R : Nat → Nat → Bool) (T : Nat → Nat) : ∀ j, Placed R (outAt R T j)
  | 0 => ⟨.nil, by simp [outAt], by simp [outAt]⟩
  | j + 1 => placed_next (placed_at R T j)

theorem len_lt : ∀ (N : Nat) (l : List Nat), l.Nodup → (∀ x ∈ l, x < N) → l.length ≤ N
  | 0, l, _, h => by
    cases l with
    | nil => simp
    | cons a l => have := h a (by simp); omega
  | N + 1, l, hd, h => by
    have h1 := len_lt N (l.erase N) (hd.erase N) (fun x hx => by
      have hm := (List.Nodup.mem_erase_iff hd).1 hx
      have := h x hm.2
      have := hm.1
      omega)
    have := List.length_erase_le (a := N) (l := l)
    by_cases hm : N ∈ l
    · rw [List.length_erase_of_mem hm] at h1
      omega
    · rw [List.erase_of_not_mem hm] at h1
      omega
theorem Placed.len {R : Nat → Nat → Bool} {out : List Nat} (h : Placed R out) : out.length ≤ 32 := len_lt 32 out h.nodup h.lt

theorem outAt_stays {R : Nat → Nat → Bool} {T : Nat → Nat} {j : Nat} (h : nextL R T (fun i => (outAt R T j).contains i) = []) : ∀ i, outAt R T (j + i) = outAt R T j
  | 0 => rfl
  | i + 1 => by
    have ih := outAt_stays h i
    show outAt R T (j + i) ++ nextL R T (fun k => (outAt R T (j + i)).contains k) = _
    rw [ih, h, List.append_nil]
theorem order_at {R : Nat → Nat → Bool} {T : Nat → Nat} {j : Nat} (hj : j ≤ (outAt R T j).length) (h : nextL R T (fun i => (outAt R T j).contains i) = []) : orderN R T = outAt R T j := by
  have := (placed_at R T j).len
  unfold orderN
  obtain ⟨i, hi⟩ : ∃ i, 32 = j + i := ⟨32 - j, by omega⟩
  rw [hi]
  exact outAt_stays h i

end Go.Proofs.Ytkoefoccbjhoiab

namespace Go.Proofs.Ytkoefoccbjhoiab
open Go.RowKit

def lenOf : Value → Nat
  | .slice _ n _ => n
  | _ => 0

/-- The search's end, from n on. -/
def endOf (g : GraphL) (n : Nat) : St := visitL g.adj 32 St.none n
theorem end_turn (g : GraphL) {n : Nat} (hn : n < 32) (i : Nat) : (endOf g n).turn i ≤ 32 := by
  obtain ⟨⟨ext, P⟩, _⟩ := visit_post g.adj_lt 32 St.none n (pre_none g.adj hn) (by simp [St.none])
  have h1 := P.inv.le i
  have h2 := P.inv.all
  unfold endOf
  omega
def orderNat (g : GraphL) (n : Nat) : List Nat := orderN (endOf g n).reach (endOf g n).turn
/-- The order of n: nothing, if it is not ready. -/
def orderI (g : GraphL) (n : Int) : List Nat := if readyI g n then orderNat g n.toNat else []

theorem known_use2 (gv : Nat → Value) (g : GraphL) (S : Nat → Bool) (B c o : Nat) (w : World) (hB : B < w.heap.size) (hc : c < w.heap.size) (hg : GraphC B w gv g) (cs rs : List Value) (hcs : cs.toArray = rowF 64 gv) (hrs : rs.toArray = bools 32 S) (h : w.rangeAt B 0 cs ∧ w.rangeAt c o rs) :
    Calls Try.prog 62 #[.agg cs.toArray, .agg rs.toArray] w fun e w' => e = .returned (.bool (knowsB g S 32)) ∧ (w'.rangeAt B 0 cs ∧ w'.rangeAt c o rs) ∧ Below w.heap.size w w' := by
  rw [hcs, hrs]
  refine (allKnown_any gv g B S w hg).mono ?_
  rintro e w' ⟨rfl, hb⟩
  exact ⟨rfl, ⟨range_later h.1 hb hB, range_later h.2 hb hc⟩, hb⟩

theorem ints_append (a b : List Nat) : ints (a ++ b) = ints a ++ ints b := by simp [ints]
theorem cells_append (a b : List Int) : intCells (a ++ b) = intCells a ++ intCells b := by simp [intCells]
theorem Own.join {w : World} {c : Nat} {v : Value} {a b : List Nat} (h : w.ownsRow (c + 1) 3 1 v ((ints a).length + (ints b).length) (intCells (ints a) ++ intCells (ints b))) : Own w c v (a ++ b) := by
  unfold Own
  rw [ints_append, cells_append, List.length_append]
  exact h
theorem contains_snoc {l : List Nat} {k : Nat} (hk : k < l.length) (i : Nat) : (l.take (k + 1)).contains i = ((l.take k).contains i || i == l.getD k 0) := by
  rw [take_snoc hk, Bool.eq_iff_iff]
  simp
theorem own_later {w w' : World} {base : Nat} {e : TypeId} {size : Nat} {v : Value} {n : Nat} {xs : List Value} (h : w.ownsRow base e size v n xs) (hb : Below w.heap.size w w') : w'.ownsRow base e size v n xs :=
  World.ownsRow.kept h (below_grown hb none) (by
    cases v.ownBlock with
    | none => exact Or.inl rfl
    | some k => exact Or.inr (by simp))

set_option maxRecDepth 100000 in
set_option maxHeartbeats 2000000 in
theorem order_any (gv : Nat → Value) (g : GraphL) (n : Int) (w : World) (hg : GraphC w.heap.size w gv g) :
    Calls Try.prog 15 #[.agg (rowF 64 gv), .int .i64 n] w fun e w' => ∃ v, e = .returned v ∧ w'.ownsRow w.heap.size 3 1 v (ints (orderI g n)).length (intCells (ints (orderI g n))) ∧ Below w.heap.size w w' := by
  obtain ⟨gr, hgr⟩ : ∃ gr, gr = rowF 64 gv := ⟨_, rfl⟩
  obtain ⟨cs, hcs⟩ : ∃ cs, cs = (rowF 64 gv).toList := ⟨_, rfl⟩
  rw [← hgr]
  have hsg := Try.sizeGraph gv
  rw [← hgr] at hsg
  have hb : Below w.heap.size w (w.alloc (.cells gr 26)) := (Below.refl _ _).alloc (Nat.le_refl _) _
  have hr1 : (w.alloc (.cells gr 26)).heap[w.heap.size]? = some (.cells gr 26 (0, 0)) := heap_new _ _
  have hc0 : (w.alloc (.cells gr 26)).rangeAt w.heap.size 0 cs := by
    rw [hcs]
    exact row_range ⟨26, by rw [← hgr]; exact heap_new _ _⟩
  have hz : (w.alloc (.cells gr 26)).heap.size = w.heap.size + 1 := size_push _ _
  have hsz : (Try.prog.info? 26).map (·.size) = some cs.length := by rw [hcs, rowF_toList]; exact Try.infoGraph
  have HCS : Hid (cs.toArray = rowF 64 gv) := by unfold Hid; rw [hcs]
  have HGR : Hid (gr = rowF 64 gv) := hgr
  clear hgr hcs
  by_cases ht : 0 ≤ n ∧ n < 32
  · obtain ⟨m, rfl⟩ := Int.eq_ofNat_of_zero_le ht.1
    have hm : m < 32 := by omega
    have tb : txnB' (m : Int) = true := by simp [txnB']; omega
    have m1 : (0 : Int) ≤ (m : Int) ∧ (m : Int) < 32 := ht
    have ER : Hid (readyI g (m : Int) = knowsB g (hangB g m) 32) := by
      unfold Hid readyI
      rw [tb]
      rfl
    go_enter Try.func15, Try.ntmps15
    go_upto_region 1 with fail
    obtain ⟨W, hW⟩ : ∃ W, W = w.alloc (.cells gr 26) := ⟨_, rfl⟩
    rw [← hW] at hc0 hb hz hr1 ⊢
    have hse := searchFrom_any gv g m W hm ((hg.later hb).mono (by omega))
    rw [← HGR.out] at hse
    clear hW
    go_wp2_with (first
      | (go_at_call 60; refine (g_isTxn _ _).mono ?_; rintro e w' ⟨rfl, rfl⟩)
      | (refine wpList_load_row rfl 26 _ rfl w.heap.size rfl 26 gr (0, 0) _ hr1 Try.underlying26 rfl hsg ?_))
    refine hse.mono ?_
    rintro e w1 ⟨c, sv, rfl, hcc, hS, hb1⟩
    go_upto_region 4 with fail
    have hw1 := hb1.size
    have hbw1 : Below w.heap.size w w1 := hb.trans (hb1.mono (by omega))
    have hcl := hS.lt
    obtain ⟨rs, hrs⟩ : ∃ rs, rs = (bools 32 ((visitL g.adj 32 St.none m).reach m)).toList := ⟨_, rfl⟩
    have hH0 : w1.rangeAt w.heap.size 0 cs ∧ w1.rangeAt c (162 + m * 32) rs := ⟨range_later hc0 hb1 (by omega), by rw [hrs]; exact hS.row hm⟩
    have z1 : (Try.prog.info? 22).map (·.size) = some rs.length := by rw [hrs]; exact Try.sizeSet _
    have hkn := known_use2 gv g (hangB g m) w.heap.size c (162 + m * 32) w1.drew (by show w.heap.size < w1.heap.size; omega) hcl (hg.later (Below.drew hbw1)) cs rs HCS.out (by rw [hrs]; simp; rfl) hH0
    have HS : Hid (StAt w1 c gv (endOf g m) sv) := hS
    have HB1 : Hid (Below w.heap.size w w1) := hbw1
    have HW1 : Hid (w.heap.size < c ∧ c < w1.heap.size) := ⟨by omega, hcl⟩
    clear hS hrs hse hb1 hb hr1 hc0 hg
    cases hrd : knowsB g (hangB g m) 32
    · rw [hrd] at hkn
      have EO : Hid (orderI g (m : Int) = []) := by unfold Hid orderI; rw [ER.out, hrd]; rfl
      refine wp_region_held_drew (S := fun w' => w'.rangeAt w.heap.size 0 cs ∧ w'.rangeAt c (162 + m * 32) rs) (by kernel_rfl) hH0 ?_
      intro hH
      refine wpAnyH_takeD (i := 0) (d := some 17) (v := .agg cs.toArray) rfl rfl (by kernel_rfl) (by kernel_rfl) (by kernel_rfl) (fun _ _ _ h => h) (yieldsIf_load_mid (by rfl) _ _ rfl _ _ rfl cs _ (fun _ h => h.1) Try.underlying26 rfl hsz) hH ?_
      simp only [Act.put, List.setIfInBounds_toArray, List.set_cons_zero, List.set_cons_succ]
      refine wpAnyH_takeD (i := 1) (d := some 18) (v := .pointer (some ⟨c, 0, none⟩)) rfl rfl (by kernel_rfl) (by kernel_rfl) (by kernel_rfl) (fun _ _ _ h => h) (Or.inl ⟨by rfl, fun _ _ => by go_simp⟩) hH ?_
      simp only [Act.put, List.setIfInBounds_toArray, List.set_cons_zero, List.set_cons_succ]
      refine wpAnyH_takeD (i := 2) (d := some 19) (v := .int .i64 m) rfl rfl (by kernel_rfl) (by kernel_rfl) (by kernel_rfl) (fun _ _ _ h => h) (Or.inl ⟨by rfl, fun _ _ => by go_simp⟩) hH ?_
      simp only [Act.put, List.setIfInBounds_toArray, List.set_cons_zero, List.set_cons_succ]
      refine wpAnyH_takeD (i := 3) (d := some 20) (v := .pointer (some ⟨c, 0, none⟩)) rfl rfl (by kernel_rfl) (by kernel_rfl) (by kernel_rfl) (fun _ _ _ h => h) (Or.inl ⟨by rfl, fun _ _ => by go_simp⟩) hH ?_
      simp only [Act.put, List.setIfInBounds_toArray, List.set_cons_zero, List.set_cons_succ]
      refine wpAnyH_takeD (i := 4) (d := some 21) (v := .pointer (some ⟨c, 162, none⟩)) rfl rfl (by kernel_rfl) (by kernel_rfl) (by kernel_rfl) (fun _ _ _ h => h) (Or.inl ⟨by rfl, fun _ _ => by go_simp⟩) hH ?_
      simp only [Act.put, List.setIfInBounds_toArray, List.set_cons_zero, List.set_cons_succ]
      refine wpAnyH_takeD (i := 5) (d := some 22) (v := .pointer (some ⟨c, 162 + m * 32, none⟩)) rfl rfl (by kernel_rfl) (by kernel_rfl) (by kernel_rfl) (fun _ _ _ h => h) (Or.inl ⟨by rfl, fun _ _ => by go_simp⟩) hH ?_
      simp only [Act.put, List.setIfInBounds_toArray, List.set_cons_zero, List.set_cons_succ]
      refine wpAnyH_takeD (i := 6) (d := some 23) (v := .agg rs.toArray) rfl rfl (by kernel_rfl) (by kernel_rfl) (by kernel_rfl) (fun _ _ _ h => h) (yieldsIf_load_mid (by rfl) _ _ rfl _ _ rfl rs _ (fun _ h => h.2) Try.underlying22 rfl z1) hH ?_
      simp only [Act.put, List.setIfInBounds_toArray, List.set_cons_zero, List.set_cons_succ]
      refine wpAnyH_ready (rs := [7]) (by kernel_rfl) (by simp) ?_
      refine AllReadyH.cons rfl (fun K hK => ?_) AllReadyH.nil
      go_simp
      refine (hkn).mono ?_
      rintro e w2 ⟨rfl, hc2, hb2⟩
      go_wp2_with fail
      refine hK.out _ _ (hc2) (fun hH2 => ?_)
      clear hK K hH
      have hH := hH2
      clear hH2
      refine wpAnyH_takeD (i := 8) (d := some 25) (v := .bool true) rfl rfl (by kernel_rfl) (by kernel_rfl) (by kernel_rfl) (fun _ _ _ h => h) (Or.inl ⟨by rfl, fun _ _ => by go_simp⟩) hH ?_
      simp only [Act.put, List.setIfInBounds_toArray, List.set_cons_zero, List.set_cons_succ]
      refine wpAnyH_done (by kernel_rfl) ?_ _
      go_wp2_with fail
      go_ret
      refine ⟨_, rfl, by rw [EO.out]; exact World.ownsRow_nil _ _ _ _, HB1.out.trans ((below_drewN (Below.refl _ _) 1).trans (hb2.mono ?_))⟩
      have := HW1.out
      show w.heap.size ≤ w1.heap.size
      omega
    · rw [hrd] at hkn
      have EO : Hid (orderI g (m : Int) = orderN (endOf g m).reach (endOf g m).turn) := by unfold Hid orderI; rw [ER.out, hrd]; rfl
      refine wp_region_held_drew (S := fun w' => w'.rangeAt w.heap.size 0 cs ∧ w'.rangeAt c (162 + m * 32) rs) (by kernel_rfl) hH0 ?_
      intro hH
      refine wpAnyH_takeD (i := 0) (d := some 17) (v := .agg cs.toArray) rfl rfl (by kernel_rfl) (by kernel_rfl) (by kernel_rfl) (fun _ _ _ h => h) (yieldsIf_load_mid (by rfl) _ _ rfl _ _ rfl cs _ (fun _ h => h.1) Try.underlying26 rfl hsz) hH ?_
      simp only [Act.put, List.setIfInBounds_toArray, List.set_cons_zero, List.set_cons_succ]
      refine wpAnyH_takeD (i := 1) (d := some 18) (v := .pointer (some ⟨c, 0, none⟩)) rfl rfl (by kernel_rfl) (by kernel_rfl) (by kernel_rfl) (fun _ _ _ h => h) (Or.inl ⟨by rfl, fun _ _ => by go_simp⟩) hH ?_
      simp only [Act.put, List.setIfInBounds_toArray, List.set_cons_zero, List.set_cons_succ]
      refine wpAnyH_takeD (i := 2) (d := some 19) (v := .int .i64 m) rfl rfl (by kernel_rfl) (by kernel_rfl) (by kernel_rfl) (fun _ _ _ h => h) (Or.inl ⟨by rfl, fun _ _ => by go_simp⟩) hH ?_
      simp only [Act.put, List.setIfInBounds_toArray, List.set_cons_zero, List.set_cons_succ]
      refine wpAnyH_takeD (i := 3) (d := some 20) (v := .pointer (some ⟨c, 0, none⟩)) rfl rfl (by kernel_rfl) (by kernel_rfl) (by kernel_rfl) (fun _ _ _ h => h) (Or.inl ⟨by rfl, fun _ _ => by go_simp⟩) hH ?_
      simp only [Act.put, List.setIfInBounds_toArray, List.set_cons_zero, List.set_cons_succ]
      refine wpAnyH_takeD (i := 4) (d := some 21) (v := .pointer (some ⟨c, 162, none⟩)) rfl rfl (by kernel_rfl) (by kernel_rfl) (by kernel_rfl) (fun _ _ _ h => h) (Or.inl ⟨by rfl, fun _ _ => by go_simp⟩) hH ?_
      simp only [Act.put, List.setIfInBounds_toArray, List.set_cons_zero, List.set_cons_succ]
      refine wpAnyH_takeD (i := 5) (d := some 22) (v := .pointer (some ⟨c, 162 + m * 32, none⟩)) rfl rfl (by kernel_rfl) (by kernel_rfl) (by kernel_rfl) (fun _ _ _ h => h) (Or.inl ⟨by rfl, fun _ _ => by go_simp⟩) hH ?_
      simp only [Act.put, List.setIfInBounds_toArray, List.set_cons_zero, List.set_cons_succ]
      refine wpAnyH_takeD (i := 6) (d := some 23) (v := .agg rs.toArray) rfl rfl (by kernel_rfl) (by kernel_rfl) (by kernel_rfl) (fun _ _ _ h => h) (yieldsIf_load_mid (by rfl) _ _ rfl _ _ rfl rs _ (fun _ h => h.2) Try.underlying22 rfl z1) hH ?_
      simp only [Act.put, List.setIfInBounds_toArray, List.set_cons_zero, List.set_cons_succ]
      refine wpAnyH_ready (rs := [7]) (by kernel_rfl) (by simp) ?_
      refine AllReadyH.cons rfl (fun K hK => ?_) AllReadyH.nil
      go_simp
      refine (hkn).mono ?_
      rintro e w2 ⟨rfl, hc2, hb2⟩
      go_wp2_with fail
      refine hK.out _ _ (hc2) (fun hH2 => ?_)
      clear hK K hH
      have hH := hH2
      clear hH2
      refine wpAnyH_takeD (i := 8) (d := some 25) (v := .bool false) rfl rfl (by kernel_rfl) (by kernel_rfl) (by kernel_rfl) (fun _ _ _ h => h) (Or.inl ⟨by rfl, fun _ _ => by go_simp⟩) hH ?_
      simp only [Act.put, List.setIfInBounds_toArray, List.set_cons_zero, List.set_cons_succ]
      refine wpAnyH_done (by kernel_rfl) ?_ _
      -- SECOND HALF
      have HW2 : Hid (w1.heap.size ≤ w2.heap.size) := hb2.size
      have HB2 : Hid (Below w1.heap.size w1 w2) := (below_drewN (Below.refl _ _) 1).trans hb2
      clear hb2 hc2 hH hkn hH0 z1 hsz hsg
      obtain ⟨F, hF⟩ : ∃ F, F = endOf g m := ⟨_, rfl⟩
      have HT : Hid (∀ i, F.turn i ≤ 32) := by unfold Hid; rw [hF]; exact end_turn g hm
      rw [← hF] at HS EO
      clear hF
      go_upto_region 8 with fail
      rw [← Try.zero22]
      obtain ⟨W3, hW3⟩ : ∃ W3, W3 = w2.alloc (.cells (bools 32 fun _ => false) 22) := ⟨_, rfl⟩
      have hp3 : W3.heap[w2.heap.size]? = some (.cells (bools 32 fun i => (outAt F.reach F.turn 0).contains i) 22 (0, 0)) := by rw [hW3]; exact heap_new _ _
      have hb3 : Below w2.heap.size w2 W3 := by rw [hW3]; exact (Below.refl _ _).alloc (Nat.le_refl _) _
      have hz3 : W3.heap.size = w2.heap.size + 1 := by rw [hW3]; exact size_push _ _
      rw [← hW3]
      have hx := HW1.out
      have hx2 := HW2.out
      have HP : Hid (w.heap.size < w2.heap.size ∧ c < w2.heap.size) := ⟨by omega, by omega⟩
      have hS2 : StAt w2 c gv F sv := HS.out.later HB2.out hx.2
      have HS2 : Hid (StAt w2 c gv F sv) := hS2
      have HBW : Hid (Below w.heap.size w w2) := HB1.out.trans (HB2.out.mono (by omega))
      have hnx := next_any c gv F sv (fun i => (outAt F.reach F.turn 0).contains i) W3 (hS2.later hb3 (by omega)) HT.out
      have HB3 : Hid (Below w2.heap.size w2 W3) := hb3
      have HZ3 : Hid (W3.heap.size = w2.heap.size + 1) := hz3
      clear hW3 hx hx2 hb3 hz3 hS2 HB1 HB2 HS HW1 HW2
      go_wp2_with (first
        | (refine wpList_load_row rfl 22 _ rfl w2.heap.size rfl 22 (bools 32 fun i => (outAt F.reach F.turn 0).contains i) (0, 0) _ hp3 Try.underlying22 rfl (Try.sizeSet' _) ?_))
      refine hnx.mono ?_
      rintro e w4 ⟨v8, rfl, ho8, hb4⟩
      have hz3 := HZ3.out
      have hb5 : Below w2.heap.size w2 w4 := HB3.out.trans (hb4.mono (by omega))
      have hp4 : SetAt 32 w4 w2.heap.size (fun i => (outAt F.reach F.turn 0).contains i) := ⟨22, by rw [hb4.block _ (by omega)]; exact hp3⟩
      have ho9 : Own w4 w2.heap.size v8 (nextL F.reach F.turn fun i => (outAt F.reach F.turn 0).contains i) := own_mono ho8 (by omega)
      clear hnx hp3 ho8 hb4 hz3 HB3 HZ3
      go_wp2_with fail
      go_loopw [7, 8] (fun v7 v8 wr => ∃ j : Nat, j ≤ (outAt F.reach F.turn j).length ∧ Own wr w2.heap.size v7 (outAt F.reach F.turn j) ∧ Own wr w2.heap.size v8 (nextL F.reach F.turn fun i => (outAt F.reach F.turn j).contains i) ∧ SetAt 32 wr w2.heap.size (fun i => (outAt F.reach F.turn j).contains i) ∧ Below w2.heap.size w2 wr) (fun v7 _ _ => 32 - lenOf v7)
      case atStart => exact ⟨0, Nat.zero_le _, World.ownsRow_nil _ _ _ _, ho9, hp4, hb5⟩
      case round =>
        obtain ⟨j, hj, ho7, ho8, hP, hBr⟩ := hrel
        clear ho9 hp4 hb5
        obtain ⟨wo, hwo⟩ : ∃ wo, wo = wr := ⟨_, rfl⟩
        subst hwo
        have HJ : Hid (outAt F.reach F.turn (j + 1) = outAt F.reach F.turn j ++ nextL F.reach F.turn fun i => (outAt F.reach F.turn j).contains i) := rfl
        have HL : Hid ((outAt F.reach F.turn (j + 1)).length ≤ 32) := (placed_at F.reach F.turn (j + 1)).len
        have HLt : Hid (∀ x ∈ outAt F.reach F.turn (j + 1), x < 32) := (placed_at F.reach F.turn (j + 1)).lt
        have HOA : Hid (nextL F.reach F.turn (fun i => (outAt F.reach F.turn j).contains i) = [] → orderN F.reach F.turn = outAt F.reach F.turn j) := order_at hj
        have HJJ : Hid (j ≤ (outAt F.reach F.turn j).length) := hj
        obtain ⟨out, hout⟩ : ∃ out, out = outAt F.reach F.turn j := ⟨_, rfl⟩
        rw [← hout] at ho7 ho8 hP HJ HOA HJJ
        obtain ⟨ring, hring⟩ : ∃ ring, ring = nextL F.reach F.turn (fun i => out.contains i) := ⟨_, rfl⟩
        rw [← hring] at ho8 HJ HOA
        clear hout hring hj
        by_cases hr : ring = []
        · have hl0 : (ints ring).length = 0 := by rw [hr]; rfl
          obtain ⟨a8, cap8, hv8, _, _⟩ := own_form ho8
          have HO7 : Hid (Own wo w2.heap.size u7 out) := ho7
          rw [hl0] at hv8
          have E : Hid (orderI g (m : Int) = out) := EO.out.trans (HOA.out hr)
          rw [hv8]
          clear ho7 ho8 hl0 hv8 hr
          go_wp2_with fail
          go_ret
          refine ⟨_, rfl, by rw [E.out]; exact own_mono HO7.out (by have := HP.out; omega), HBW.out.trans (hBr.mono (by have := HP.out; omega))⟩
        · have hlr : 0 < ring.length := List.length_pos_iff.2 hr
          obtain ⟨g8, cap8, hv8, hg8, hcap8, hmax8, hgl8, hcell8⟩ := ho8.form hlr
          obtain ⟨a7, cap7, hv7, _, _⟩ := own_form ho7
          have hlen1 := HL.out
          rw [HJ.out, List.length_append] at hlen1
          have hil : (ints ring).length = ring.length := ints_len ring
          have hlp : (0 : Int) < ((ints ring).length : Int) := by omega
          have hl32 : (ints ring).length ≤ 32 := by omega
          have HR32 : Hid (∀ x ∈ ring, x < 32) := fun x hx => HLt.out x (by rw [HJ.out]; exact List.mem_append_right _ hx)
          have HC8 : Hid (∀ i, i < (ints ring).length → wo.cell? ⟨g8, i, none⟩ = some (.int .i64 ((ints ring).getD i 0))) := hcell8
          have HO7 : Hid (Own wo w2.heap.size u7 out) := ho7
          have HBr : Hid (Below w2.heap.size w2 wo) := hBr
          have HIL : Hid ((ints ring).length = ring.length) := hil
          have HL1 : Hid (out.length + ring.length ≤ 32) := hlen1
          have HV7 : Hid (u7 = .slice a7 (ints out).length cap7) := hv7
          have HO8 : Hid (Own wo w2.heap.size u8 ring) := ho8
          rw [hv8]
          have HV8 : Hid (u8 = .slice (some ⟨g8, 0, none⟩) (ints ring).length cap8) := hv8
          clear hcell8 ho7 ho8 hBr hil hlen1 hv7 hv8 hr
          go_wp2_with fail
          go_loopw [37] (fun i wr => ∃ k : Nat, k ≤ (ints ring).length ∧ i = .int .i64 k ∧ SetAt 32 wr w2.heap.size (fun i => out.contains i || (ring.take k).contains i) ∧ wo.grownBy wr (some w2.heap.size)) (fun i _ => (ints ring).length - (intOf i).toNat)
          case atStart => exact ⟨0, Nat.zero_le _, rfl, hP.congr (by simp), World.grownBy.refl _ _⟩
          case round =>
            obtain ⟨k, hk, rfl, hS, hG⟩ := hrel
            by_cases hlt : k < (ints ring).length
            · obtain ⟨x, Hx⟩ : ∃ x : Nat, Hid (ring.getD k 0 = x) := ⟨_, rfl⟩
              have hkr : k < ring.length := by have := HIL.out; omega
              have hx32 : x < 32 := by
                have : ring.getD k 0 ∈ ring := by
                  rw [List.getD, List.getElem?_eq_getElem hkr]
                  exact List.getElem_mem hkr
                rw [← Hx.out]
                exact HR32.out _ this
              have e0 : wr.cell? ⟨g8, k, none⟩ = some (.int .i64 x) := by
                rw [World.grownBy.cell hG (HC8.out k hlt) (by simp; omega), ints_get _ hkr, Hx.out]
              have x1 : (0 : Int) ≤ (x : Int) ∧ (x : Int) < 32 := by omega
              have f0 := hS.cell hx32
              have f1 := hS.frozen x
              have HSx : Hid (SetAt 32 wr w2.heap.size (fun i => out.contains i || (ring.take k).contains i)) := hS
              have HGx : Hid (wo.grownBy wr (some w2.heap.size)) := hG
              clear hS hG hP
              go_wp2_with fail
              go_roundw
              case rel =>
                refine ⟨k + 1, by omega, by go_num, (HSx.out.put x true).congr (fun i _ => ?_), grown_put_same HGx.out _ _⟩
                rw [contains_snoc hkr, Hx.out]
                by_cases e : i = x
                · subst e; simp
                · have : (i == x) = false := by simpa using e
                  rw [if_neg e, this, Bool.or_false]
              case measure => simp [intOf]; omega
            · have hS1 : SetAt 32 wr w2.heap.size (fun i => (outAt F.reach F.turn (j + 1)).contains i) := hS.congr (fun i _ => by
                rw [HJ.out, List.contains_append, List.take_of_length_le (by have := HIL.out; omega)])
              obtain ⟨tP, hP1⟩ := hS1
              have hPlt : w2.heap.size < wr.heap.size := SetAt.lt ⟨tP, hP1⟩
              have ho7 : Own wr w2.heap.size u7 out := HO7.out.kept hG
              have ho7R : wr.ownsRow (w2.heap.size + 1) 3 1 u7 (ints out).length (intCells (ints out)) := ho7
              obtain ⟨i0, hi, hz0, hz1, hz2⟩ := info_parts Try.infoInt
              have HCr : Hid (∀ i, i < (ints ring).length → wr.cell? ⟨g8, i, none⟩ = some (.int .i64 ((ints ring).getD i 0))) := fun i hi => World.grownBy.cell hG (HC8.out i hi) (by simp; omega)
              have hil2 : (ints out).length = out.length := ints_len out
              have HIO : Hid ((ints out).length = out.length) := hil2
              have hob : (ints out).length + (ints ring).length ≤ 32 := by have := HIL.out; have := HL1.out; omega
              have HGr : Hid (wo.grownBy wr (some w2.heap.size)) := hG
              clear hS hG hP hil2
              go_wp2_with (first
                | (at_builtin; refine wpList_append_own _ rfl _ _ 23 rfl (w2.heap.size + 1) 3 i0 (.int .i64 0) 1 8 Try.underlying23 hi hz0 hz1 hz2 rfl (by decide) _ _ _ rfl ho7R ⟨g8, 0, none⟩ (ints ring).length cap8 (intCells (ints ring)) rfl ?hl ?c1 ?c2 ?c3 ?c4 ?c5 ?_)
                | go_in)
              case hl => simp [intCells]
              case c1 =>
                intro q u hq
                have hql : q < (ints ring).length := by
                  have := (List.getElem?_eq_some_iff.1 hq).1
                  simpa [intCells] using this
                rw [Addr.add_mid, Nat.zero_add, HCr.out q hql]
                simp [intCells, hql] at hq
                simp [List.getD, hql, hq]
              case c2 =>
                intro u hu
                simp [intCells] at hu
                obtain ⟨_, _, rfl⟩ := hu
                rfl
              case c3 => unfold maxLen; omega
              case c4 => omega
              case c5 => omega
              intro v7 w5 hown' hgrow _
              have hn7 : some w2.heap.size ≠ u7.ownBlock := ho7.notC
              have hP5 : w5.heap[w2.heap.size]? = some (.cells (bools 32 fun i => (outAt F.reach F.turn (j + 1)).contains i) tP (0, 0)) := by rw [hgrow.block _ hPlt hn7]; exact hP1
              have ho5 : Own w5 w2.heap.size v7 (out ++ ring) := Own.join hown'
              obtain ⟨a9, cap9, hv9, _, _⟩ := own_form hown'
              have HV9 : Hid (v7 = .slice a9 ((ints out).length + (ints ring).length) cap9) := hv9
              have hb5 : Below w2.heap.size w2 w5 := (HBr.out.grown HGr.out (by have := HBr.out.size; omega) (by intro k hk; cases hk; exact Nat.le_refl _)).grown hgrow (by omega) (ho7.below)
              have hsz5 := hgrow.size
              have hnx := next_any c gv F sv (fun i => (outAt F.reach F.turn (j + 1)).contains i) w5 (HS2.out.later hb5 HP.out.2) HT.out
              have HO5 : Hid (Own w5 w2.heap.size v7 (out ++ ring)) := ho5
              have HB5 : Hid (Below w2.heap.size w2 w5) := hb5
              obtain ⟨pl, hpl⟩ : ∃ pl : Nat → Bool, pl = fun i => (outAt F.reach F.turn (j + 1)).contains i := ⟨_, rfl⟩
              rw [← hpl] at hP5 hnx
              have HPL : Hid (pl = fun i => (outAt F.reach F.turn (j + 1)).contains i) := hpl
              clear hgrow ho7 ho7R hown' hP1 ho5 hb5 hv9 hi hz0 hz1 hz2 hpl
              go_wp2_with (first
                | (refine wpList_load_row rfl 22 _ rfl w2.heap.size rfl tP (bools 32 pl) (0, 0) _ hP5 Try.underlying22 rfl (Try.sizeSet' _) ?_))
              refine hnx.mono ?_
              rintro e w6 ⟨v8, rfl, ho6, hb6⟩
              go_wp2_with fail
              go_roundw
              case rel =>
                rw [HPL.out] at ho6 hP5
                refine ⟨j + 1, ?_, ?_, own_mono ho6 (by omega), ⟨tP, by rw [hb6.block _ (by omega)]; exact hP5⟩, HB5.out.trans (hb6.mono (by omega))⟩
                · rw [HJ.out, List.length_append]
                  have := HJJ.out
                  omega
                · rw [HJ.out]
                  exact own_later HO5.out hb6
              case measure =>
                rw [HV9.out, HV7.out]
                simp [lenOf]
                have := HIL.out
                omega
  · have tb : txnB' n = false := by simp [txnB']; omega
    have E : Hid (orderI g n = []) := by unfold Hid orderI readyI; rw [tb]; rfl
    go_enter Try.func15, Try.ntmps15
    go_upto_region 1 with fail
    obtain ⟨W, hW⟩ : ∃ W, W = w.alloc (.cells gr 26) := ⟨_, rfl⟩
    rw [← hW] at hb ⊢
    clear hW hr1 hc0 hz
    go_wp2_with (first
      | (go_at_call 60; refine (g_isTxn _ _).mono ?_; rintro e w' ⟨rfl, rfl⟩))
    go_ret
    exact ⟨_, rfl, by rw [E.out]; exact World.ownsRow_nil _ _ _ _, hb⟩

end Go.Proofs.Ytkoefoccbjhoiab

namespace Go.Proofs.Ytkoefoccbjhoiab
open Go.RowKit

/-- May x be placed? D: those that are asked for; H: what hangs on what. -/
def mayS (H : Nat → Nat → Bool) (D placed : Nat → Bool) (x : Nat) : Bool := D x && !placed x && (List.range 32).all fun m => !H x m || placed m || H m x
def ringS (H : Nat → Nat → Bool) (x : Nat) : List Nat := (List.range 32).filter fun m => H x m && H m x
def nextS (H : Nat → Nat → Bool) (D placed : Nat → Bool) : List Nat := match (List.range 32).find? (mayS H D placed) with
  | none => []
  | some x => ringS H x
def outS (H : Nat → Nat → Bool) (D : Nat → Bool) : Nat → List Nat
  | 0 => []
  | j + 1 => outS H D j ++ nextS H D (fun i => (outS H D j).contains i)

/-- H goes on, over those of D; D is closed. -/
structure Clo (H : Nat → Nat → Bool) (D : Nat → Bool) : Prop where
  refl : ∀ x, x < 32 → D x = true → H x x = true
  trans : ∀ x y z, D x = true → H x y = true → H y z = true → H x z = true
  closed : ∀ x y, D x = true → H x y = true → D y = true
  lt : ∀ x, D x = true → x < 32

theorem nextS_none {H : Nat → Nat → Bool} {D placed : Nat → Bool} (h : ∀ x, x < 32 → mayS H D placed x = false) : nextS H D placed = [] := by
  have : (List.range 32).find? (mayS H D placed) = none := by
    rw [List.find?_eq_none]
    intro x hx
    rw [h x (List.mem_range.1 hx)]
    simp
  unfold nextS
  rw [this]
theorem nextS_some {H : Nat → Nat → Bool} {D placed : Nat → Bool} {x : Nat} (hx : x < 32) (h : mayS H D placed x = true) (hl : ∀ y, y < x → mayS H D placed y = false) : nextS H D placed = ringS H x := by
  have : (List.range 32).find? (mayS H D placed) = some x := by
    rw [List.find?_range_eq_some]
    exact ⟨h, List.mem_range.2 hx, fun j hj => by rw [hl j hj]; rfl⟩
  unfold nextS
  rw [this]
/-- Either nothing may be placed, or the least that may. -/
theorem nextS_cases (H : Nat → Nat → Bool) (D placed : Nat → Bool) : (nextS H D placed = [] ∧ ∀ x, x < 32 → mayS H D placed x = false) ∨ ∃ x, x < 32 ∧ mayS H D placed x = true ∧ (∀ y, y < x → mayS H D placed y = false) ∧ nextS H D placed = ringS H x := by
  cases hq : (List.range 32).find? (mayS H D placed) with
  | none =>
    left
    rw [List.find?_eq_none] at hq
    refine ⟨by unfold nextS; rw [(List.find?_eq_none.2 hq)], fun x hx => by simpa using hq x (List.mem_range.2 hx)⟩
  | some x =>
    right
    have hq' := hq
    rw [List.find?_range_eq_some] at hq
    obtain ⟨h1, h2, h3⟩ := hq
    exact ⟨x, List.mem_range.1 h2, h1, fun y hy => by simpa using h3 y hy, by unfold nextS; rw [hq']⟩
theorem mayS_iff {H : Nat → Nat → Bool} {D placed : Nat → Bool} {x : Nat} : mayS H D placed x = true ↔ D x = true ∧ placed x = false ∧ ∀ m, m < 32 → H x m = true → placed m = true ∨ H m x = true := by
  unfold mayS
  simp only [Bool.and_eq_true, Bool.not_eq_true', List.all_eq_true, List.mem_range, Bool.or_eq_true]
  constructor
  · rintro ⟨⟨h1, h2⟩, h3⟩
    refine ⟨h1, h2, fun m hm hx => ?_⟩
    rcases h3 m hm with (h | h) | h
    · rw [hx] at h; cases h
    · exact Or.inl h
    · exact Or.inr h
  · rintro ⟨h1, h2, h3⟩
    refine ⟨⟨h1, h2⟩, fun m hm => ?_⟩
    cases hx : H x m
    · exact Or.inl (Or.inl rfl)
    · rcases h3 m hm hx with h | h
      · exact Or.inl (Or.inr h)
      · exact Or.inr h
theorem mem_ringS {H : Nat → Nat → Bool} {x m : Nat} : m ∈ ringS H x ↔ m < 32 ∧ H x m = true ∧ H m x = true := by
  unfold ringS
  rw [List.mem_filter, List.mem_range, Bool.and_eq_true]
theorem mayS_congr {H H' : Nat → Nat → Bool} {D D' placed : Nat → Bool} (hc : Clo H D) (hD : ∀ x, x < 32 → D x = D' x) (hH : ∀ x, D x = true → ∀ y, y < 32 → H x y = H' x y) {x : Nat} (hx : x < 32) : mayS H D placed x = mayS H' D' placed x := by
  rw [Bool.eq_iff_iff, mayS_iff, mayS_iff, ← hD x hx]
  constructor
  · rintro ⟨h1, h2, h3⟩
    refine ⟨h1, h2, fun m hm hxm => ?_⟩
    rw [← hH x h1 m hm] at hxm
    rw [← hH m (hc.closed x m h1 hxm) x hx]
    exact h3 m hm hxm
  · rintro ⟨h1, h2, h3⟩
    refine ⟨h1, h2, fun m hm hxm => ?_⟩
    have := h3 m hm (by rw [← hH x h1 m hm]; exact hxm)
    rw [hH m (hc.closed x m h1 hxm) x hx]
    exact this
theorem ringS_congr {H H' : Nat → Nat → Bool} {D : Nat → Bool} (hc : Clo H D) (hH : ∀ x, D x = true → ∀ y, y < 32 → H x y = H' x y) {x : Nat} (hx : x < 32) (hd : D x = true) : ringS H x = ringS H' x := by
  unfold ringS
  refine List.filter_congr fun m hm => ?_
  have hm := List.mem_range.1 hm
  rw [← hH x hd m hm]
  cases hxm : H x m
  · rfl
  · rw [hH m (hc.closed x m hd hxm) x hx]
/-- An order hangs only on what is asked for, and on what these hang on. -/
theorem outS_congr {H H' : Nat → Nat → Bool} {D D' : Nat → Bool} (hc : Clo H D) (hD : ∀ x, x < 32 → D x = D' x) (hH : ∀ x, D x = true → ∀ y, y < 32 → H x y = H' x y) : ∀ j, outS H D j = outS H' D' j
  | 0 => rfl
  | j + 1 => by
    have ih := outS_congr hc hD hH j
    show outS H D j ++ _ = outS H' D' j ++ _
    rw [ih]
    congr 1
    rcases nextS_cases H D (fun i => (outS H' D' j).contains i) with ⟨h1, h2⟩ | ⟨x, h1, h2, h3, h4⟩
    · rw [h1, nextS_none fun x hx => by rw [← mayS_congr hc hD hH hx]; exact h2 x hx]
    · rw [h4, nextS_some h1 (by rw [← mayS_congr hc hD hH h1]; exact h2) (fun y hy => by rw [← mayS_congr hc hD hH (by omega)]; exact h3 y hy)]
      exact ringS_congr hc hH h1 (mayS_iff.1 h2).1

/-- What holds of all that is placed so far. -/
structure Laid (H : Nat → Nat → Bool) (D : Nat → Bool) (out : List Nat) : Prop where
  nodup : out.Nodup
  inD : ∀ x ∈ out, D x = true
  rings : ∀ x y, y < 32 → H x y = true → H y x = true → x ∈ out → y ∈ out
  behind : ∀ pre x post, out = pre ++ x :: post → ∀ d, d < 32 → H x d = true → d ∈ pre ∨ H d x = true

theorem laid_next {H : Nat → Nat → Bool} {D : Nat → Bool} (hc : Clo H D) {out : List Nat} (h : Laid H D out) : Laid H D (out ++ nextS H D (fun i => out.contains i)) := by
  rcases nextS_cases H D (fun i => out.contains i) with ⟨h1, h2⟩ | ⟨x, h1, h2, h3, h4⟩
  · rw [h1, List.append_nil]; exact h
  · rw [h4]
    obtain ⟨m1, m2, m3⟩ := mayS_iff.1 h2
    have hx : x ∉ out := by simpa using m2
    have inR : ∀ y ∈ ringS H x, D y = true := fun y hy => hc.closed x y m1 (mem_ringS.1 hy).2.1
    refine ⟨?_, ?_, ?_, ?_⟩
    · rw [List.nodup_append]
      refine ⟨h.nodup, List.Pairwise.filter _ List.nodup_range, fun a ha b hb e => ?_⟩
      subst e
      have hb := mem_ringS.1 hb
      exact hx (h.rings a x h1 hb.2.2 hb.2.1 ha)
    · intro y hy
      rcases List.mem_append.1 hy with hy | hy
      · exact h.inD y hy
      · exact inR y hy
    · intro y z hz h5 h6 hy
      rcases List.mem_append.1 hy with hy | hy
      · exact List.mem_append_left _ (h.rings y z hz h5 h6 hy)
      · have hq := mem_ringS.1 hy
        have dy := inR y hy
        have dz := hc.closed y z dy h5
        exact List.mem_append_right _ (mem_ringS.2 ⟨hz, hc.trans x y z m1 hq.2.1 h5, hc.trans z y x dz h6 hq.2.2⟩)
    · intro pre y post e d hd hyd
      rw [List.append_eq_append_iff] at e
      rcases e with ⟨qs, e1, e2⟩ | ⟨bs, e1, e2⟩
      · -- y stands in the ring
        have hy : y ∈ ringS H x := by rw [e2]; simp
        have hq := mem_ringS.1 hy
        have hxd := hc.trans x y d m1 hq.2.1 hyd
        rcases m3 d hd hxd with hp | hp
        · left
          rw [e1]
          exact List.mem_append_left _ (by simpa using hp)
        · right
          exact hc.trans d x y (hc.closed x d m1 hxd) hp hq.2.1
      · cases bs with
        | nil =>
          have e2' : y :: post = ringS H x := by simpa using e2
          have hy : y ∈ ringS H x := by rw [← e2']; simp
          have hq := mem_ringS.1 hy
          have hxd := hc.trans x y d m1 hq.2.1 hyd
          rcases m3 d hd hxd with hp | hp
          · left
            have e1' : out = pre := by simpa using e1
            rw [← e1']
            simpa using hp
          · right
            exact hc.trans d x y (hc.closed x d m1 hxd) hp hq.2.1
        | cons b bs =>
          simp only [List.cons_append, List.cons.injEq] at e2
          obtain ⟨rfl, e3⟩ := e2
          exact h.behind pre y bs e1 d hd hyd
theorem laid_at {H : Nat → Nat → Bool} {D : Nat → Bool} (hc : Clo H D) : ∀ j, Laid H D (outS H D j)
  | 0 => ⟨.nil, by simp [outS], by simp [outS], by simp [outS]⟩
  | j + 1 => laid_next hc (laid_at hc j)
theorem Laid.len {H : Nat → Nat → Bool} {D : Nat → Bool} (hc : Clo H D) {out : List Nat} (h : Laid H D out) : out.length ≤ 32 := len_lt 32 out h.nodup (fun x hx => hc.lt x (h.inD x hx))

theorem outS_stays {H : Nat → Nat → Bool} {D : Nat → Bool} {j : Nat} (h : nextS H D (fun i => (outS H D j).contains i) = []) : ∀ i, outS H D (j + i) = outS H D j
  | 0 => rfl
  | i + 1 => by
    have ih := outS_stays h i
    show outS H D (j + i) ++ nextS H D (fun k => (outS H D (j + i)).contains k) = _
    rw [ih, h, List.append_nil]
end Go.Proofs.Ytkoefoccbjhoiab

namespace Go.Proofs.Ytkoefoccbjhoiab
open Go.RowKit

end Go.Proofs.Ytkoefoccbjhoiab
