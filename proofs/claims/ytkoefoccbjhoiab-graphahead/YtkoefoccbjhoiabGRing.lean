/-
  The contracts of package graph's ring, isFree and nextRing.
-/
import Derived.Test.YtkoefoccbjhoiabGReady
set_option linter.unusedVariables false
set_option linter.unusedSimpArgs false
namespace Go.Proofs.Ytkoefoccbjhoiab
open Go.RowKit

/-- Those that hang on the same as n. -/
def sameAs (R : Nat → Nat → Bool) (n m : Nat) : Bool := sameB 32 (R n) (R m)
def ringN (R : Nat → Nat → Bool) (n : Nat) : List Nat := (List.range 32).filter (sameAs R n)
def freeTo (R : Nat → Nat → Bool) (placed : Nat → Bool) (n k : Nat) : Bool := (List.range k).all fun m => !R n m || placed m || sameAs R n m
def mayB (R : Nat → Nat → Bool) (T : Nat → Nat) (placed : Nat → Bool) (n : Nat) : Bool := decide (0 < T n) && !placed n && freeTo R placed n 32
def nextN (R : Nat → Nat → Bool) (T : Nat → Nat) (placed : Nat → Bool) : Option Nat := (List.range 32).find? (mayB R T placed)
def nextL (R : Nat → Nat → Bool) (T : Nat → Nat) (placed : Nat → Bool) : List Nat := match nextN R T placed with
  | none => []
  | some n => ringN R n

theorem ring_ints (R : Nat → Nat → Bool) (n : Nat) : unionTo (sameAs R n) 32 = ints (ringN R n) := rfl

theorem ownsRow_drewN {w : World} {base : Nat} {e : TypeId} {size : Nat} {v : Value} {n : Nat} {xs : List Value} (h : w.ownsRow base e size v n xs) (k : Nat) : (w.drewN k).ownsRow base e size v n xs := h

set_option maxRecDepth 100000 in
set_option maxHeartbeats 400000 in
theorem ring_any (c : Nat) (gv : Nat → Value) (s : St) (sv : Value) (n : Nat) (hn : n < 32) (w : World) (hs : StAt w c gv s sv) :
    Calls Try.prog 108 #[.pointer (some ⟨c, 0, none⟩), .int .i64 n] w fun e w' => ∃ v, e = .returned v ∧ w'.ownsRow w.heap.size 3 1 v (ints (ringN s.reach n)).length (intCells (ints (ringN s.reach n))) ∧ Below w.heap.size w w' := by
  obtain ⟨i0, hi, hz0, hz1, hz2⟩ := info_parts Try.infoInt
  have hc := hs.lt
  have HS : Hid (StAt w c gv s sv) := hs
  clear hs
  go_enter Try.func108, Try.ntmps108
  go_wp2_with fail
  go_loopw [5, 7] (fun v i wr => ∃ k : Nat, k ≤ 32 ∧ i = .int .i64 k ∧ wr.ownsRow w.heap.size 3 1 v (unionTo (sameAs s.reach n) k).length ((unionTo (sameAs s.reach n) k).map (Value.int .i64)) ∧ Below w.heap.size w wr) (fun _ i _ => 32 - (intOf i).toNat)
  case atStart => exact ⟨0, Nat.zero_le _, rfl, World.ownsRow_nil _ _ _ _, Below.refl _ _⟩
  case round =>
    obtain ⟨k, hk, rfl, hown, hB⟩ := hrel
    have hsz1 := hB.size
    by_cases hlt : k < 32
    · have hto := together_any c gv s sv n k hn hlt wr (HS.out.later hB hc)
      have hlen := unionTo_len (sameAs s.reach n) k
      cases tk : sameAs s.reach n k
      · have HM : Hid (unionTo (sameAs s.reach n) (k + 1) = unionTo (sameAs s.reach n) k) := unionTo_miss tk
        have tk' : sameB 32 (s.reach n) (s.reach k) = false := tk
        rw [tk'] at hto
        go_wp2_with fail
        refine hto.mono ?_
        rintro e w' ⟨rfl, q, rfl⟩
        go_wp2_with fail
        go_roundw
        case rel => exact ⟨k + 1, by omega, by go_num, by rw [HM.out]; exact hown, below_drewN hB q⟩
        case measure => simp [intOf]; omega
      · have HM : Hid (unionTo (sameAs s.reach n) (k + 1) = unionTo (sameAs s.reach n) k ++ [(k : Int)]) := unionTo_hit tk
        have tk' : sameB 32 (s.reach n) (s.reach k) = true := tk
        rw [tk'] at hto
        go_wp2_with fail
        refine hto.mono ?_
        rintro e w' ⟨rfl, q, rfl⟩
        obtain ⟨W, hW⟩ : ∃ W, W = wr.drewN q := ⟨_, rfl⟩
        have hownW : W.ownsRow w.heap.size 3 1 u5 (unionTo (sameAs s.reach n) k).length ((unionTo (sameAs s.reach n) k).map (Value.int .i64)) := by rw [hW]; exact ownsRow_drewN hown q
        have hBW : Below w.heap.size w W := by rw [hW]; exact below_drewN hB q
        have hszW := hBW.size
        rw [← hW]
        clear hW hown hB hto
        go_wp2_with (first
          | (at_builtin; refine wpList_append_own _ rfl _ _ 23 rfl w.heap.size 3 i0 (.int .i64 0) 1 8 Try.underlying23 hi hz0 hz1 hz2 rfl (by decide) _ _ _ rfl (hownW.alloc _) ⟨W.heap.size, 0, none⟩ 1 1 [.int .i64 k] rfl rfl ?c1 ?c2 ?c3 ?c4 ?c5 ?_)
          | go_in)
        case c1 =>
          intro j u hj
          match j, hj with
          | 0, hj => simp at hj; subst hj; simp [Addr.add]
        case c2 => intro u hu; simp at hu; subst hu; rfl
        case c3 => unfold maxLen; omega
        case c4 => omega
        case c5 => simp; omega
        intro v' w3 hown' hgrow _
        have hB' : Below w.heap.size w w3 := (hBW.alloc hszW _).grown hgrow (by simp; omega) (owns_block hownW)
        clear hgrow hownW
        go_wp2_with fail
        go_roundw
        case rel => exact ⟨k + 1, by omega, by go_num, by rw [HM.out]; simpa using hown', hB'⟩
        case measure => simp [intOf]; omega
    · have e : k = 32 := by omega
      subst e
      have HO : Hid (wr.ownsRow w.heap.size 3 1 u5 (unionTo (sameAs s.reach n) 32).length ((unionTo (sameAs s.reach n) 32).map (Value.int .i64))) := hown
      clear hown
      go_wp2
      go_ret
      exact ⟨_, rfl, HO.out, hB⟩

theorem freeTo_hit {R : Nat → Nat → Bool} {placed : Nat → Bool} {n k : Nat} (h : freeTo R placed n k = true) (h' : (!R n k || placed k || sameAs R n k) = true) : freeTo R placed n (k + 1) = true := by
  unfold freeTo at *
  rw [List.range_succ, List.all_append, h]
  simpa using h'
theorem freeTo_miss {R : Nat → Nat → Bool} {placed : Nat → Bool} {n k m : Nat} (hk : k < m) (h' : (!R n k || placed k || sameAs R n k) = false) : freeTo R placed n m = false := by
  unfold freeTo
  rw [List.all_eq_false]
  exact ⟨k, List.mem_range.2 hk, by rw [h']; simp⟩

set_option maxRecDepth 100000 in
set_option maxHeartbeats 400000 in
theorem free_any (c : Nat) (gv : Nat → Value) (s : St) (sv : Value) (n : Nat) (hn : n < 32) (placed : Nat → Bool) (w : World) (hs : StAt w c gv s sv) :
    Calls Try.prog 107 #[.pointer (some ⟨c, 0, none⟩), .int .i64 n, .agg (bools 32 placed)] w fun e w' => e = .returned (.bool (freeTo s.reach placed n 32)) ∧ Below w.heap.size w w' := by
  have hc := hs.lt
  have n1 : (0 : Int) ≤ (n : Int) ∧ (n : Int) < 32 := by omega
  have hs0 := hs.alloc (.cells (bools 32 placed) 22)
  have hb0 : Below w.heap.size w (w.alloc (.cells (bools 32 placed) 22)) := (Below.refl _ _).alloc (Nat.le_refl _) _
  have hp0 : SetAt 32 (w.alloc (.cells (bools 32 placed) 22)) w.heap.size placed := ⟨22, heap_new _ _⟩
  go_enter Try.func107, Try.ntmps107
  go_upto_region 1 with fail
  obtain ⟨W, hW⟩ : ∃ W, W = w.alloc (.cells (bools 32 placed) 22) := ⟨_, rfl⟩
  rw [← hW] at hs0 hb0 hp0 ⊢
  have r1 := hs0.row hn
  have HS : Hid (StAt W c gv s sv) := hs0
  have HPl : Hid (SetAt 32 W w.heap.size placed) := hp0
  have HB : Hid (Below w.heap.size w W) := hb0
  have z1 := Try.sizeSet (s.reach n)
  clear hW hs hs0 hp0 hb0
  go_wp2_with (refine wpList_load_mid rfl 22 _ rfl c (162 + n * 32) rfl (bools 32 (s.reach n)).toList _ r1 Try.underlying22 rfl z1 ?_)
  rw [Array.toArray_toList]
  clear r1 z1
  go_loopw [15] (fun i wr => ∃ k : Nat, k ≤ 32 ∧ i = .int .i64 k ∧ freeTo s.reach placed n k = true ∧ ∃ q, wr = W.drewN q) (fun i _ => 32 - (intOf i).toNat)
  case atStart => exact ⟨0, Nat.zero_le _, rfl, rfl, 0, rfl⟩
  case round =>
    obtain ⟨k, hk, rfl, hko, q, rfl⟩ := hrel
    by_cases hlt : k < 32
    · have hix := fun wx => run_index_bools Try.underlying22 Try.underlying4 Try.infoBool (s.reach n) hlt wx
      have k1 : (0 : Int) ≤ (k : Int) ∧ (k : Int) < 32 := by omega
      have c0 := HPl.out.cell hlt
      have HKO : Hid (freeTo s.reach placed n k = true) := hko
      have hto := together_any c gv s sv n k hn hlt (W.drewN q) (HS.out.drewN q)
      clear hko
      cases tk : s.reach n k
      · rw [tk] at hix
        go_wp2_with fail
        go_roundw
        case rel => exact ⟨k + 1, by omega, by go_num, freeTo_hit HKO.out (by rw [tk]; rfl), q, rfl⟩
        case measure => simp [intOf]; omega
      · rw [tk] at hix
        cases tp : placed k
        · rw [tp] at c0
          cases ts : sameAs s.reach n k
          · have ts' : sameB 32 (s.reach n) (s.reach k) = false := ts
            rw [ts'] at hto
            have HF : Hid (freeTo s.reach placed n 32 = false) := freeTo_miss hlt (by rw [tk, tp, ts]; rfl)
            go_wp2_with fail
            refine hto.mono ?_
            rintro e w' ⟨rfl, q2, rfl⟩
            go_wp2_with fail
            go_ret
            exact ⟨ret_bool HF.out.symm, below_drewN HB.out _⟩
          · have ts' : sameB 32 (s.reach n) (s.reach k) = true := ts
            rw [ts'] at hto
            go_wp2_with fail
            refine hto.mono ?_
            rintro e w' ⟨rfl, q2, rfl⟩
            go_wp2_with fail
            go_roundw
            case rel => exact ⟨k + 1, by omega, by go_num, freeTo_hit HKO.out (by rw [tk, tp, ts]; rfl), q + q2, rfl⟩
            case measure => simp [intOf]; omega
        · rw [tp] at c0
          go_wp2_with fail
          go_roundw
          case rel => exact ⟨k + 1, by omega, by go_num, freeTo_hit HKO.out (by rw [tk, tp]; rfl), q, rfl⟩
          case measure => simp [intOf]; omega
    · have e : k = 32 := by omega
      subst e
      have HKO : Hid (freeTo s.reach placed n 32 = true) := hko
      clear hko
      go_wp2
      go_ret
      exact ⟨ret_bool HKO.out.symm, below_drewN HB.out q⟩

theorem run_index_ints {P : Program} {t e : TypeId} {n : Nat} (ht : P.underlying t = some (.array n e)) (he : P.underlying e = some (.int .i64)) (hi : (P.info? e).map (·.size) = some 1) (f : Nat → Value) {k : Nat} (hk : k < n) (w : World) :
    (Instr.index t (.agg (rowF n f)) (.int .i64 (k : Int))).run P w = .ok (f k) w := by
  have h1 : (0 : Int) ≤ (k : Int) ∧ (k : Int) < (n : Int) := by omega
  cases hq : P.info? e with
  | none => simp [hq] at hi
  | some i =>
    have hs : i.size = 1 := by simpa [hq] using hi
    have hg := rowF_get f hk
    simp [Instr.index, run_underlying ht, run_underlying he, asIntOf, h1, part, isAgg, sizeOf, typeInfo, hq, hs, hg, go_sem]
    intro h
    omega
theorem Try.sizeInt : (Try.prog.info? 3).map (·.size) = some 1 := by kernel_rfl
theorem Try.infoTurns : (Try.prog.info? 66).map (·.size) = some 32 := by kernel_rfl
def turnF (T : Nat → Nat) (i : Nat) : Value := .int .i64 (T i)
theorem StAt.turns {w : World} {c : Nat} {gv : Nat → Value} {s : St} {sv : Value} (h : StAt w c gv s sv) : w.rangeAt c 65 (rowF 32 (turnF s.turn)).toList := by
  have := BlkAt.range h (o := 65) (n := 32) (by omega)
  have e : (List.range 32).map (fun i => sCell gv s sv (65 + i)) = (rowF 32 (turnF s.turn)).toList := by
    unfold rowF
    simp only []
    exact List.map_congr_left fun i hi => sCell_turn gv s sv (List.mem_range.1 hi)
  rw [← e]
  exact this

/-- None below k may be placed. -/
def noneTo (R : Nat → Nat → Bool) (T : Nat → Nat) (placed : Nat → Bool) (k : Nat) : Bool := (List.range k).all fun n => !mayB R T placed n
theorem noneTo_hit {R : Nat → Nat → Bool} {T : Nat → Nat} {placed : Nat → Bool} {k : Nat} (h : noneTo R T placed k = true) (h' : mayB R T placed k = false) : noneTo R T placed (k + 1) = true := by
  unfold noneTo at *
  rw [List.range_succ, List.all_append, h]
  simp [h']
theorem nextL_hit {R : Nat → Nat → Bool} {T : Nat → Nat} {placed : Nat → Bool} {k : Nat} (hk : k < 32) (h : noneTo R T placed k = true) (h' : mayB R T placed k = true) : nextL R T placed = ringN R k := by
  have : nextN R T placed = some k := by
    unfold nextN
    rw [List.find?_range_eq_some]
    refine ⟨h', List.mem_range.2 hk, fun j hj => ?_⟩
    have := List.all_eq_true.1 h j (List.mem_range.2 hj)
    exact this
  unfold nextL
  rw [this]
theorem nextL_none {R : Nat → Nat → Bool} {T : Nat → Nat} {placed : Nat → Bool} (h : noneTo R T placed 32 = true) : nextL R T placed = [] := by
  have : nextN R T placed = none := by
    unfold nextN
    rw [List.find?_eq_none]
    intro x hx
    have := List.all_eq_true.1 h x hx
    simpa using this
  unfold nextL
  rw [this]
theorem may_parts {R : Nat → Nat → Bool} {T : Nat → Nat} {placed : Nat → Bool} {k : Nat} {a b c : Bool} (h1 : decide (0 < T k) = a) (h2 : placed k = b) (h3 : freeTo R placed k 32 = c) : mayB R T placed k = (a && !b && c) := by
  unfold mayB
  rw [h1, h2, h3]

set_option maxRecDepth 100000 in
set_option maxHeartbeats 800000 in
theorem next_any (c : Nat) (gv : Nat → Value) (s : St) (sv : Value) (placed : Nat → Bool) (w : World) (hs : StAt w c gv s sv) (hT : ∀ i, s.turn i ≤ 32) :
    Calls Try.prog 63 #[.pointer (some ⟨c, 0, none⟩), .agg (bools 32 placed)] w fun e w' => ∃ v, e = .returned v ∧ w'.ownsRow w.heap.size 3 1 v (ints (nextL s.reach s.turn placed)).length (intCells (ints (nextL s.reach s.turn placed))) ∧ Below w.heap.size w w' := by
  have hc := hs.lt
  have hs0 := hs.alloc (.cells (bools 32 placed) 22)
  have hb0 : Below w.heap.size w (w.alloc (.cells (bools 32 placed) 22)) := (Below.refl _ _).alloc (Nat.le_refl _) _
  have hp0 : (w.alloc (.cells (bools 32 placed) 22)).heap[w.heap.size]? = some (.cells (bools 32 placed) 22 (0, 0)) := heap_new _ _
  have hz0 : (w.alloc (.cells (bools 32 placed) 22)).heap.size = w.heap.size + 1 := size_push _ _
  have HT : Hid (∀ i, s.turn i ≤ 32) := hT
  clear hT
  go_enter Try.func63, Try.ntmps63
  go_upto_region 1 with fail
  obtain ⟨W, hW⟩ : ∃ W, W = w.alloc (.cells (bools 32 placed) 22) := ⟨_, rfl⟩
  rw [← hW] at hs0 hb0 hp0 hz0 ⊢
  have r1 := hs0.turns
  have HS : Hid (StAt W c gv s sv) := hs0
  have HPl : Hid (W.heap[w.heap.size]? = some (.cells (bools 32 placed) 22 (0, 0))) := hp0
  have HB : Hid (Below w.heap.size w W) := hb0
  have z1 : (Try.prog.info? 66).map (·.size) = some (rowF 32 (turnF s.turn)).toList.length := by rw [rowF_toList]; exact Try.infoTurns
  have HZ : Hid (W.heap.size = w.heap.size + 1) := hz0
  clear hW hs hs0 hp0 hb0 hz0
  go_wp2_with (refine wpList_load_mid rfl 66 _ rfl c 65 rfl (rowF 32 (turnF s.turn)).toList _ r1 Try.underlying66 rfl z1 ?_)
  rw [Array.toArray_toList]
  clear r1 z1
  go_loopw [11] (fun i wr => ∃ k : Nat, k ≤ 32 ∧ i = .int .i64 k ∧ noneTo s.reach s.turn placed k = true ∧ Below W.heap.size W wr) (fun i _ => 32 - (intOf i).toNat)
  case atStart => exact ⟨0, Nat.zero_le _, rfl, rfl, Below.refl _ _⟩
  case round =>
    obtain ⟨k, hk, rfl, hko, hBr⟩ := hrel
    have hwz := HZ.out
    have hrz := hBr.size
    by_cases hlt : k < 32
    · have hix : ∀ wx, (Instr.index 66 (.agg (rowF 32 (turnF s.turn))) (.int .i64 (k : Int))).run Try.prog wx = .ok (.int .i64 (s.turn k)) wx := fun wx => run_index_ints Try.underlying66 Try.underlying3 Try.sizeInt (turnF s.turn) hlt wx
      have ht32 := HT.out k
      have k1 : (0 : Int) ≤ (k : Int) ∧ (k : Int) < 32 := by omega
      have hrow : wr.heap[w.heap.size]? = some (.cells (bools 32 placed) 22 (0, 0)) := by rw [hBr.block _ (by omega)]; exact HPl.out
      have c0 : wr.cell? ⟨w.heap.size, k, none⟩ = some (.bool (placed k)) := SetAt.cell ⟨22, hrow⟩ hlt
      have hsr : StAt wr c gv s sv := HS.out.later hBr (by omega)
      have hfr := free_any c gv s sv k hlt placed wr hsr
      have hri := fun wx (hx : Below wr.heap.size wr wx) => ring_any c gv s sv k hlt wx (hsr.later hx (by omega))
      have HRI : Hid (∀ wx, Below wr.heap.size wr wx → _) := hri
      have HKO : Hid (noneTo s.reach s.turn placed k = true) := hko
      have HBR : Hid (Below W.heap.size W wr) := hBr
      clear hko hsr hri hBr
      by_cases t1 : 0 < s.turn k
      · have t1' : (0 : Int) < ((s.turn k : Nat) : Int) := by omega
        cases tp : placed k
        · rw [tp] at c0
          cases tf : freeTo s.reach placed k 32
          · rw [tf] at hfr
            have HN : Hid (mayB s.reach s.turn placed k = false) := may_parts (decide_eq_true t1) tp tf
            go_wp2_with (first
              | (refine wpList_wanted (by rfl) fun K hK => wp_load_row 22 _ rfl w.heap.size rfl 22 (bools 32 placed) (0, 0) _ hrow Try.underlying22 rfl (Try.sizeSet' _) (hK _ _ ?_))
              | (go_at_call 107; refine hfr.mono ?_; rintro e w1 ⟨rfl, hb1⟩))
            go_roundw
            case rel => exact ⟨k + 1, by omega, by go_num, noneTo_hit HKO.out HN.out, HBR.out.trans (hb1.mono (by omega))⟩
            case measure => simp [intOf]; omega
          · rw [tf] at hfr
            have HN : Hid (nextL s.reach s.turn placed = ringN s.reach k) := nextL_hit hlt HKO.out (may_parts (decide_eq_true t1) tp tf)
            go_wp2_with (first
              | (refine wpList_wanted (by rfl) fun K hK => wp_load_row 22 _ rfl w.heap.size rfl 22 (bools 32 placed) (0, 0) _ hrow Try.underlying22 rfl (Try.sizeSet' _) (hK _ _ ?_))
              | (go_at_call 107; refine hfr.mono ?_; rintro e w1 ⟨rfl, hb1⟩)
              | (go_at_call 108; refine (HRI.out w1 hb1).mono ?_; rintro e w2 ⟨v, rfl, ho2, hb2⟩))
            go_ret
            refine ⟨_, rfl, ?_, HB.out.trans ((HBR.out.mono (by omega)).trans ((hb1.mono (by omega)).trans (hb2.mono ?_)))⟩
            · rw [HN.out]; exact own_mono ho2 (by have := hb1.size; omega)
            · have := hb1.size; omega
        · rw [tp] at c0
          have HN : Hid (mayB s.reach s.turn placed k = false) := by unfold Hid mayB; rw [tp]; simp
          go_wp2_with fail
          go_roundw
          case rel => exact ⟨k + 1, by omega, by go_num, noneTo_hit HKO.out HN.out, HBR.out⟩
          case measure => simp [intOf]; omega
      · have t1' : ¬ (0 : Int) < ((s.turn k : Nat) : Int) := by omega
        have HN : Hid (mayB s.reach s.turn placed k = false) := by unfold Hid mayB; rw [decide_eq_false t1]; rfl
        go_wp2_with fail
        go_roundw
        case rel => exact ⟨k + 1, by omega, by go_num, noneTo_hit HKO.out HN.out, HBR.out⟩
        case measure => simp [intOf]; omega
    · have e : k = 32 := by omega
      subst e
      have HN : Hid (nextL s.reach s.turn placed = []) := nextL_none hko
      clear hko
      go_wp2
      go_ret
      exact ⟨_, rfl, by rw [HN.out]; exact World.ownsRow_nil _ _ _ _, HB.out.trans (hBr.mono (by omega))⟩

end Go.Proofs.Ytkoefoccbjhoiab
