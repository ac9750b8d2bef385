/-
  What the document's own TakeFrame needs of memory.
  Two rows of numbers are alike.
  The contracts of the document's own isTxn, has and SameNumbers.
  The contract of the document's own IsRising.
  Plain mathematics of our own: the reader at a place of a text, and what a text's length tells of a frame.
  The contracts of the document's own SameOps and SameFrame, of fromSix and of the closure of DecodeFrame.
-/
import Derived.Test.YtgdkjjmnoikhdabRep21
import Derived.Test.YtgdkjjmnoikhdabRep23
import Derived.Test.YtgdkjjmnoikhdabRep19
import Derived.Test.YtgdkjjmnoikhdabRep1
import Derived.Test.YtgdkjjmnoikhdabRep7
namespace Go.Proofs.Ytgdkjjmnoikhdab
open Go.RowKit

theorem setCells_size (c : Nat) : ∀ (vs : List Value) (o : Nat) (w : World), (w.setCells c o vs).heap.size = w.heap.size
  | [], _, _ => rfl
  | v :: r, o, w => by rw [World.setCells, setCells_size c r]; simp [World.setCell]
theorem setCells_other {c k : Nat} (hk : k ≠ c) : ∀ (vs : List Value) (o : Nat) (w : World), (w.setCells c o vs).heap[k]? = w.heap[k]?
  | [], _, _ => rfl
  | v :: r, o, w => by rw [World.setCells, setCells_other hk r, Below.heap_setCell _ _ _ _ hk]
theorem setCells_below {B c : Nat} {a : World} (hc : B ≤ c) : ∀ (vs : List Value) (o : Nat) {w : World}, Below B a w → Below B a (w.setCells c o vs)
  | [], _, _, h => h
  | v :: r, o, w, h => by rw [World.setCells]; exact setCells_below hc r (o + 1) (h.setCell hc _)
theorem BlkAt.put6 {c n : Nat} {w : World} {mv ev : Nat → Value} (h : BlkAt 201 w c mv) (hn : n < 32) : BlkAt 201 (w.setCells c (n * 6) (rowF 6 ev).toList) c (fun i => if n * 6 ≤ i ∧ i < n * 6 + 6 then ev (i - n * 6) else mv i) := by
  have hlen : (rowF 6 ev).toList.length = 6 := by rw [Array.length_toList, rowF_size]
  refine (BlkAt.puts (rowF 6 ev).toList (n * 6) h (by rw [hlen]; omega)).congr fun i hi => ?_
  rw [hlen]
  by_cases e : n * 6 ≤ i ∧ i < n * 6 + 6
  · rw [if_pos e, if_pos e]
    have h3 := rowF_get ev (N := 6) (i := i - n * 6) (by omega)
    simp only [List.getD, Array.getElem?_toList, h3, Option.getD_some]
  · rw [if_neg e, if_neg e]
theorem NodeR.putEnt {lo c m : Nat} {w : World} {nv ev : Nat → Value} {s : NodeL} {e' : EntryL} (h : NodeR lo c w nv s) (hm : m < 32) (he : ∀ f, f < 6 → fieldOK (fun b => (lo ≤ b ∧ (b < c ∨ c + 2 < b)) ∧ (nv 192).ownBlock ≠ some b) w e' f (ev f)) :
    NodeR lo c (w.setCells c (m * 6) (rowF 6 ev).toList) (fun i => if m * 6 ≤ i ∧ i < m * 6 + 6 then ev (i - m * 6) else nv i) ⟨upd s.ent m e', s.order, s.vals⟩ := by
  have e192 : (if m * 6 ≤ 192 ∧ 192 < m * 6 + 6 then ev (192 - m * 6) else nv 192) = nv 192 := if_neg (by omega)
  refine ⟨h.blk.put6 hm, ?_, h.lc, by rw [setCells_size]; exact h.room, ?_⟩
  · show NodeE (fun b => (lo ≤ b ∧ (b < c ∨ c + 2 < b)) ∧ (if m * 6 ≤ 192 ∧ 192 < m * 6 + 6 then ev (192 - m * 6) else nv 192).ownBlock ≠ some b) _ _ _
    rw [e192]
    have h1 : NodeE (fun b => (lo ≤ b ∧ (b < c ∨ c + 2 < b)) ∧ (nv 192).ownBlock ≠ some b) w (fun i => if m * 6 ≤ i ∧ i < m * 6 + 6 then ev (i - m * 6) else nv i) ⟨upd s.ent m e', s.order, s.vals⟩ := by
      refine h.node.change (fun g hg => ?_) (fun i _ hi _ => ?_) hm s.order
      · show fieldOK _ w e' g (if m * 6 ≤ m * 6 + g ∧ m * 6 + g < m * 6 + 6 then ev (m * 6 + g - m * 6) else nv (m * 6 + g))
        rw [if_pos (by omega), show m * 6 + g - m * 6 = g by omega]
        exact he g hg
      · show (if m * 6 ≤ i ∧ i < m * 6 + 6 then ev (i - m * 6) else nv i) = nv i
        rw [if_neg (by omega)]
    exact h1.later (fun b _ hb => setCells_other (by omega) _ _ _)
  · show World.ownsRow _ _ _ _ (if m * 6 ≤ 192 ∧ 192 < m * 6 + 6 then ev (192 - m * 6) else nv 192) _ _
    rw [e192]
    exact own_same h.order (fun k hk => setCells_other (by have := (World.ownsRow.lt h.order k hk).1; omega) _ _ _)
theorem ApartR.into {lo B c : Nat} {w : World} {nv : Nat → Value} {s : NodeL} {old : Array Value} {t : TypeId} (h : ApartR B w nv s) (hl : lo ≤ c) (hc : c + 2 < B) (hB : B ≤ w.heap.size) (hr : w.heap[c]? = some (.cells old t (0, 0))) : NodeR lo c (w.setRow c (rowF 201 nv)) nv s :=
  ⟨⟨t, heap_setRow hr⟩, (h.node.later (fun b _ hb => setRow_other _ _ (by omega))).mono (fun b _ hb => ⟨by omega, hb.2⟩), hl, by rw [size_setRow]; omega,
   own_mono (own_same h.order (fun k hk => setRow_other _ _ (by have := (World.ownsRow.lt h.order k hk).1; omega))) (by omega)⟩
theorem NodeR.out {lo c : Nat} {w : World} {nv : Nat → Value} {s : NodeL} (h : NodeR lo c w nv s) (hl : s.order.length * 8 ≤ 140737488355328) (r : Array Value) : NodeC (lo ≤ ·) (w.setRow (c + 2) r) nv s := by
  have h1 := own_same h.order (w' := w.setRow (c + 2) r) (fun k hk => setRow_other _ _ (by have := (World.ownsRow.lt h.order k hk).1; omega))
  exact ⟨(h.node.later (fun b _ hb => setRow_other _ _ (by omega))).mono (fun _ _ hb => hb.1.1), (IsI.of_owns h1 hl).mono (fun _ _ hb => by have := hb.1; have := h.lc; omega)⟩
theorem framesR_one {x : World} {K : Nat} {k n i : Int} {a4 : Option Addr} {c4 : Nat} {deps : List Int} (h : x.heap[K]? = some (.cells #[.int .i64 k, .int .i64 n, .int .i64 i, .slice none 0 0, .slice a4 deps.length c4, .slice none 0 0, .slice none 0 0] 43 (0, 0)))
    (h4 : SlInts x a4 c4 deps ∧ IntsIn (0 ≤ ·) x a4 deps) : FramesV 0 x (.slice (some ⟨K, 0, none⟩) 1 1) [⟨k, n, i, [], deps, [], []⟩] := by
  refine ⟨[[.int .i64 k, .int .i64 n, .int .i64 i, .slice none 0 0, .slice a4 deps.length c4, .slice none 0 0, .slice none 0 0]], rfl, ⟨rfl, Or.inr ⟨K, 1, _, rfl, Nat.zero_le _, h, Nat.le_refl _, by decide, rfl, rfl⟩⟩, fun i hi => ?_⟩
  have : i = 0 := by simp at hi; exact hi
  subst this
  exact ⟨rfl, none, 0, a4, c4, none, 0, none, 0, rfl, slO_nil _ _, h4, slI_nil _ _, slI_nil _ _⟩
theorem framesR_two {z4 : World} {v' : Value} {who m : Int} {a5 a6 : Option Addr} {c5 c6 : Nat} {ats vals : List Int} (own : z4.ownsRow 0 43 7 v' (1 + 1) ([.int .i64 4, .int .i64 who, .int .i64 m, .slice none 0 0, .slice none 0 0, .slice none 0 0, .slice none 0 0] ++ [.int .i64 5, .int .i64 who, .int .i64 m, .slice none 0 0, .slice none 0 0, .slice a5 ats.length c5, .slice a6 vals.length c6]))
    (h5 : SlInts z4 a5 c5 ats ∧ IntsIn (0 ≤ ·) z4 a5 ats) (h6 : SlInts z4 a6 c6 vals ∧ IntsIn (0 ≤ ·) z4 a6 vals) : FramesV 0 z4 v' [⟨4, who, m, [], [], [], []⟩, ⟨5, who, m, [], [], ats, vals⟩] := by
  refine ⟨[[.int .i64 4, .int .i64 who, .int .i64 m, .slice none 0 0, .slice none 0 0, .slice none 0 0, .slice none 0 0], [.int .i64 5, .int .i64 who, .int .i64 m, .slice none 0 0, .slice none 0 0, .slice a5 ats.length c5, .slice a6 vals.length c6]], rfl, own, fun i hi => ?_⟩
  match i, hi with
  | 0, _ => exact ⟨rfl, none, 0, none, 0, none, 0, none, 0, rfl, slO_nil _ _, slI_nil _ _, slI_nil _ _, slI_nil _ _⟩
  | 1, _ => exact ⟨rfl, none, 0, none, 0, a5, c5, a6, c6, rfl, slO_nil _ _, slI_nil _ _, h5, h6⟩
theorem step_store_row {P : Program} {ops : Array Oper} {o : Oper} {a : Act} {w : World} {K : Act → World → Prop} {Q : Exit → Act → World → Prop} {E : Prop} (hgd : o.guard = none) (ty : TypeId) (x y : Operand) (ho : o.op = .store ty x y)
    (g : Nat) (cells : Array Value) (hx : a.eval x = .pointer (some ⟨g, 0, none⟩)) (hy : a.eval y = .agg cells) (t : TypeId) (old : Array Value) (hg : w.heap[g]? = some (.cells old t (0, 0))) (hi : (P.info? ty).map (·.size) = some cells.size)
    (hold : old.size = cells.size) (h1 : cells.all (·.oneCell') = true) (h : K (a.put o.dst undef) (w.setRow g cells)) : if Region.wanted o (yielded ops a.tmps) = true then Oper.wp P o a w K Q else E := by
  have hw : Region.wanted o (yielded ops a.tmps) = true := by simp [Region.wanted, hgd]
  rw [if_pos hw]
  exact wp_store_row ty x y ho g cells hx hy t old hg hi hold h1 h
theorem IsI.sl1 {ok : Nat → Prop} {w : World} {a : Option Addr} {cap : Nat} {zs : List Int} (h : IsI ok w (.slice a zs.length cap) zs) : SlInts w a cap zs ∧ IntsIn ok w a zs := by
  obtain ⟨a', cap', e, hs⟩ := h.sl
  simp only [Value.slice.injEq, true_and] at e
  obtain ⟨rfl, rfl⟩ := e
  refine ⟨hs, ?_⟩
  obtain ⟨a2, cap2, e', hi, _⟩ := h
  simp only [Value.slice.injEq, true_and] at e'
  obtain ⟨rfl, rfl⟩ := e'
  exact hi
theorem ops_far {lo B : Nat} {w : World} {a : Option Addr} {zs : List OpL} (h : OpsIn (· < B) w a zs) (hf : ∀ x, a = some x → lo ≤ x.block) : OpsIn (fun b => lo ≤ b ∧ b < B) w a zs := by
  rcases h with h | ⟨b, off, rfl, hb, hc⟩
  · exact Or.inl h
  · exact Or.inr ⟨b, off, rfl, ⟨hf _ rfl, hb⟩, hc⟩
theorem ints_far {lo B : Nat} {w : World} {a : Option Addr} {zs : List Int} (h : IntsIn (· < B) w a zs) (hf : ∀ x, a = some x → lo ≤ x.block) : IntsIn (fun b => lo ≤ b ∧ b < B) w a zs := by
  rcases h with h | ⟨b, off, rfl, hb, hc⟩
  · exact Or.inl h
  · exact Or.inr ⟨b, off, rfl, ⟨hf _ rfl, hb⟩, hc⟩
def AreaR (c : Nat) (nv : Nat → Value) (w : World) (b : Nat) : Prop := b < w.heap.size ∧ b ≠ c ∧ (nv 192).ownBlock ≠ some b
theorem Safe.endsR {A : Nat → Prop} {lo c : Nat} {W w w' : World} {nv nv' : Nat → Value} {s' : NodeL} (h : Safe A c W w nv) (e : EndsR lo c w w' nv nv' s') : Safe A c W w' nv' := by
  refine ⟨fun k hk ha => ?_, fun k hk ha => ?_, h.lt, h.nc, Nat.le_trans h.size e.moves.size⟩
  · rw [e.moves.block k (by have := h.size; omega) (fun hc => h.nc (by rw [← hc]; exact ha)) (fun ho => h.ord k ho ha)]
    exact h.same k hk ha
  · rcases e.ord k hk with h1 | h1
    · exact h.ord k h1 ha
    · have := h.lt k ha
      have := h.size
      omega
theorem EndsR.below {lo c : Nat} {w w' : World} {nv nv' : Nat → Value} {s s' : NodeL} (h : NodeR lo c w nv s) (e : EndsR lo c w w' nv nv' s') : Below c w w' :=
  ⟨e.moves.os, e.moves.tape, e.moves.output, e.moves.size, fun k hk => e.moves.block k (by have := h.room; omega) (by omega) (fun ho => by have := (World.ownsRow.lt h.order k ho).1; omega)⟩
theorem rowR_range {x : World} {b : Nat} {cs : Array Value} {t : TypeId} (h : x.heap[b]? = some (.cells cs t (0, 0))) : x.rangeAt b 0 cs.toList := by
  intro j v hv
  rw [Nat.zero_add, cell_of_row _ _ _ _ _ _ h]
  rw [Array.getElem?_toList] at hv
  exact hv

end Go.Proofs.Ytgdkjjmnoikhdab

namespace Go.Proofs.Ytgdkjjmnoikhdab
open Go.RowKit

theorem run_part_ints {P : Program} {e : TypeId} (he : P.underlying e = some (.int .i64)) (hi : (P.info? e).map (·.size) = some 1) {n : Nat} (S : Nat → Int) {k : Nat} (hk : k < n) (w : World) :
    (part e (rowF n fun i => .int .i64 (S i)) k).run P w = .ok (.int .i64 (S k)) w := by
  cases hq : P.info? e with
  | none => simp [hq] at hi
  | some i =>
    have hs : i.size = 1 := by simpa [hq] using hi
    have hg := rowF_get (fun i => Value.int .i64 (S i)) hk
    simp [part, isAgg, run_underlying he, sizeOf, typeInfo, hq, hs, hg, go_sem]
    try omega
theorem run_equalIn_row {P : Program} {t e : TypeId} {n : Nat} (d : Nat) (ht : P.underlying t = some (.array n e)) (he : P.underlying e = some (.int .i64)) (hi : (P.info? e).map (·.size) = some 1) (S : Nat → Int) (w : World) :
    (Op.equalIn (d + 2) t (.agg (rowF n fun i => .int .i64 (S i))) (.agg (rowF n fun i => .int .i64 (S i)))).run P w = .ok true w := by
  have hsz : ∀ w, (sizeOf e).run P w = .ok 1 w := by
    intro w
    cases hq : P.info? e with
    | none => simp [hq] at hi
    | some i =>
      have hs : i.size = 1 := by simpa [hq] using hi
      simp [sizeOf, typeInfo, hq, hs]
  rw [Op.equalIn]
  simp only [Sem.run_bind, run_underlying ht, Result.andThen_ok, hsz, Std.Legacy.Range.forIn_eq_forIn_range', Std.Legacy.Range.size, Nat.sub_zero, Nat.add_sub_cancel, Nat.div_one]
  have hl : ∀ i ∈ List.range' 0 n 1, i < n := fun i hi => by simpa using (List.mem_range'_1.1 hi).2
  generalize List.range' 0 n 1 = l at hl ⊢
  induction l with
  | nil => simp
  | cons i l ih =>
    have hk : i < n := hl i (by simp)
    have px := run_part_ints he hi S hk w
    have pe : (Op.equalIn (d + 1) e (.int .i64 (S i)) (.int .i64 (S i))).run P w = .ok true w := by simp [Op.equalIn, run_underlying he]
    simp only [List.forIn_cons, Sem.run_bind, Nat.mul_one, px, pe, Result.andThen_ok]
    simp only [Bool.not_true, Bool.false_eq_true, if_false, Sem.run_pure, Result.andThen_ok]
    simpa only [Nat.mul_one] using ih fun j hj => hl j (by simp [hj])
theorem Try.infoInt1 : (Try.prog.info? 3).map (·.size) = some 1 := by kernel_rfl
theorem Try.infoVals : (Try.prog.info? 39).map (·.size) = some 8 := by kernel_rfl
theorem Try.valsGuard : Try.prog.eqGuardType Try.prog.depth 39 = false := by kernel_rfl

end Go.Proofs.Ytgdkjjmnoikhdab

namespace Go.Proofs.Ytgdkjjmnoikhdab
open Go.RowKit

def txnB (n : Int) : Bool := decide (0 ≤ n ∧ n < 32)

set_option maxRecDepth 100000 in
set_option maxHeartbeats 400000 in
theorem isTxn_any (n : Int) (w : World) :
    Calls Try.prog 61 #[.int .i64 n] w fun e w' => e = .returned (.bool (txnB n)) ∧ w' = w := by
  by_cases h1 : 0 ≤ n
  · by_cases h2 : n < 32
    · have E : Hid (txnB n = true) := decide_eq_true ⟨h1, h2⟩
      go_enter Try.func61, Try.ntmps61
      go_wp2
      go_ret
      exact ⟨ret_bool (by rw [E.out]), rfl⟩
    · have E : Hid (txnB n = false) := decide_eq_false (fun h => h2 h.2)
      go_enter Try.func61, Try.ntmps61
      go_wp2
      go_ret
      exact ⟨ret_bool (by rw [E.out]), rfl⟩
  · have E : Hid (txnB n = false) := decide_eq_false (fun h => h1 h.1)
    go_enter Try.func61, Try.ntmps61
    go_wp2
    go_ret
    exact ⟨ret_bool (by rw [E.out]), rfl⟩

set_option maxRecDepth 100000 in
set_option maxHeartbeats 400000 in
theorem ref_has (a : Option Addr) (cap : Nat) (zs : List Int) (n : Int) (w : World) (hl : zs.length ≤ maxLen) (hz : IntsAt w.heap.size w a zs) :
    Calls Try.prog 60 #[.slice a zs.length cap, .int .i64 n] w fun e w' => e = .returned (.bool (hasL zs n)) ∧ w' = w := by
  unfold maxLen at hl
  rcases hz with rfl | ⟨b, off, rfl, hb, hc⟩
  · go_enter Try.func60, Try.ntmps60
    go_wp2
    refine wp_loop_rounds 1 ?_; rw [rounds_succ]
    go_wp2
    go_ret
    exact ⟨rfl, rfl⟩
  · go_enter Try.func60, Try.ntmps60
    go_wp2
    go_loop [9] (fun i => ∃ k : Nat, k ≤ zs.length ∧ i = .int .i64 k ∧ (zs.take k).any (eqB n) = false) (fun i => zs.length - (intOf i).toNat)
    case atStart => exact ⟨0, Nat.zero_le _, rfl, rfl⟩
    case round =>
      obtain ⟨k, hk, rfl, hno⟩ := hrel
      by_cases hlt : k < zs.length
      · obtain ⟨q, Hq, e0⟩ := IntsAt.at hc hb (Below.refl _ _) hlt
        have hm : Hid (eqB n q = (q == n)) := rfl
        clear hc
        cases t1 : q == n
        · go_wp2
          go_round
          case rel => exact ⟨k + 1, by omega, by go_num, any_step hlt Hq.out hno (by rw [hm.out, t1])⟩
          case measure => simp [intOf]; omega
        · go_wp2
          go_ret
          exact ⟨ret_bool (any_hit hlt Hq.out (by rw [hm.out, t1])).symm, rfl⟩
      · go_wp2
        go_ret
        exact ⟨ret_bool (any_end hlt hno).symm, rfl⟩


set_option maxRecDepth 100000 in
set_option maxHeartbeats 400000 in
theorem sameNumbers_any (a : Option Addr) (cap : Nat) (zs : List Int) (a' : Option Addr) (cap' : Nat) (w : World) (hl : zs.length ≤ maxLen) (hz : IntsAt w.heap.size w a zs) (hy : IntsAt w.heap.size w a' zs) :
    Calls Try.prog 32 #[.slice a zs.length cap, .slice a' zs.length cap'] w fun e w' => e = .returned (.bool true) ∧ Below w.heap.size w w' := by
  unfold maxLen at hl
  have hne : ((zs.length : Int) != (zs.length : Int)) = false := by simp
  rcases hz with rfl | ⟨b, off, rfl, hb, hc⟩
  · go_enter Try.func32, Try.ntmps32
    go_wp2
    refine wp_loop_rounds 1 ?_; rw [rounds_succ]
    go_wp2
    go_ret
    exact ⟨rfl, Below.refl _ _⟩
  rcases hy with rfl | ⟨b', off', rfl, hb', hc'⟩
  · go_enter Try.func32, Try.ntmps32
    go_wp2
    refine wp_loop_rounds 1 ?_; rw [rounds_succ]
    go_wp2
    go_ret
    exact ⟨rfl, Below.refl _ _⟩
  go_enter Try.func32, Try.ntmps32
  go_wp2
  go_loopw [13] (fun i wr => ∃ k : Nat, k ≤ zs.length ∧ i = .int .i64 k ∧ Below w.heap.size w wr) (fun i _ => zs.length - (intOf i).toNat)
  case atStart => exact ⟨0, Nat.zero_le _, rfl, Below.refl _ _⟩
  case round =>
    obtain ⟨k, hk, rfl, hB⟩ := hrel
    by_cases hlt : k < zs.length
    · obtain ⟨q, Hq, e0⟩ := IntsAt.at hc hb hB hlt
      have f0 : wr.cell? ⟨b', off' + k, none⟩ = some (.int .i64 q) := by rw [hB.cell (p := ⟨b', off' + k, none⟩) hb', ← Hq.out]; exact hc' k hlt
      have hi : (k : Int) < (zs.length : Int) := by omega
      clear hc hc'
      go_wp2
      go_quiet (fail)
      go_wp2
      go_roundw
      case rel => exact ⟨k + 1, by omega, by go_num, below_drewN hB _⟩
      case measure => simp [intOf]; omega
    · go_wp2
      go_ret
      exact ⟨rfl, hB⟩

end Go.Proofs.Ytgdkjjmnoikhdab

namespace Go.Proofs.Ytgdkjjmnoikhdab
open Go.RowKit

set_option maxRecDepth 100000 in
set_option maxHeartbeats 400000 in
theorem isRising_any (a : Option Addr) (cap : Nat) (zs : List Int) (w : World) (hl : zs.length ≤ maxLen) (hz : IntsAt w.heap.size w a zs) :
    Calls Try.prog 59 #[.slice a zs.length cap] w fun e w' => e = .returned (.bool (risingFrom (-1) zs)) ∧ w' = w := by
  unfold maxLen at hl
  rcases hz with rfl | ⟨b, off, rfl, hb, hc⟩
  · go_enter Try.func59, Try.ntmps59
    go_wp2
    refine wp_loop_rounds 1 ?_; rw [rounds_succ]
    go_wp2
    go_ret
    exact ⟨rfl, rfl⟩
  · go_enter Try.func59, Try.ntmps59
    go_wp2
    go_loop [3, 8] (fun l i => ∃ (k : Nat) (q : Int), k ≤ zs.length ∧ i = .int .i64 k ∧ l = .int .i64 q ∧ -1 ≤ q ∧ Hid (risingFrom (-1) zs = risingFrom q (zs.drop k))) (fun _ i => zs.length - (intOf i).toNat)
    case atStart => exact ⟨0, -1, Nat.zero_le _, rfl, rfl, by omega, rfl⟩
    case round =>
      obtain ⟨k, l, hk, rfl, rfl, hl0, hno⟩ := hrel
      by_cases hlt : k < zs.length
      · obtain ⟨q, Hq, e0⟩ := IntsAt.at hc hb (Below.refl _ _) hlt
        clear hc
        by_cases t1 : q ≤ l
        · go_wp2
          go_ret
          exact ⟨ret_bool (rising_no hlt Hq.out hno.out (Or.inl t1)).symm, rfl⟩
        · go_wp2_with fail
          refine (isTxn_any _ _).mono ?_
          rintro e wx ⟨rfl, hw⟩
          subst hw
          by_cases t2 : 32 ≤ q
          · have E : txnB q = false := decide_eq_false (by omega)
            rw [E]
            go_wp2
            go_ret
            exact ⟨ret_bool (rising_no hlt Hq.out hno.out (Or.inr t2)).symm, rfl⟩
          · have E : txnB q = true := decide_eq_true ⟨by omega, by omega⟩
            rw [E]
            clear E
            go_wp2
            go_round
            case rel => exact ⟨k + 1, q, by omega, by go_num, rfl, by omega, rising_yes hlt Hq.out hno.out (by omega) (by omega)⟩
            case measure => simp [intOf]; omega
      · go_wp2
        go_ret
        exact ⟨ret_bool (rising_end hlt hno.out).symm, rfl⟩


end Go.Proofs.Ytgdkjjmnoikhdab

namespace Go.Proofs.Ytgdkjjmnoikhdab
open Go.RowKit

def pos (l : List UInt8) (p : Nat) : Rd := ⟨l.drop p, false⟩
def bAt (l : List UInt8) (p : Nat) : Nat := (l.getD p 0).toNat
theorem bAt_lt (l : List UInt8) (p : Nat) : bAt l p < 256 := (l.getD p 0).toNat_lt
theorem pos_cons {l : List UInt8} {p : Nat} (h : p < l.length) : l.drop p = l.getD p 0 :: l.drop (p + 1) := by
  rw [List.drop_eq_getElem_cons h]
  simp [List.getD, h]
theorem pos_one {l : List UInt8} {p : Nat} (h : p < l.length) : (pos l p).one = (bAt l p : Int) := by
  unfold pos Rd.one
  rw [pos_cons h]
  rfl
theorem pos_next {l : List UInt8} {p : Nat} (h : p < l.length) : (pos l p).next = pos l (p + 1) := by
  unfold pos Rd.next
  rw [pos_cons h]
theorem pos_six {l : List UInt8} {p : Nat} (h : p + 6 ≤ l.length) : (pos l p).next6 = pos l (p + 6) := by
  unfold Rd.next6
  simp only [Rd.after]
  rw [pos_next (by omega), pos_next (by omega), pos_next (by omega), pos_next (by omega), pos_next (by omega), pos_next (by omega)]
theorem pos_end {l : List UInt8} {p : Nat} (h : p = l.length) : pos l p = ⟨[], false⟩ := by
  unfold pos
  rw [h, List.drop_length]

theorem getD_mid {A B : List UInt8} {x : UInt8} {k : Nat} (h : A.length = k) : (A ++ x :: B).getD k 0 = x := by
  subst h
  simp [List.getD]

theorem enc_shape {f : FrameL} (h : goodL f = 0) : bAt (encL f) 3 = f.ops.length ∧ bAt (encL f) (4 + 8 * f.ops.length) = f.deps.length ∧ bAt (encL f) (5 + 8 * f.ops.length + f.deps.length) = f.ats.length ∧
    (encL f).length = 6 + 8 * f.ops.length + f.deps.length + 7 * f.ats.length := by
  obtain ⟨hk, hn, hi, ⟨ho1, ho2⟩, ⟨hd1, hd2⟩, ⟨ha1, ha2⟩, hv1, hv2⟩ := good_in h
  have e1 := encOps_len f.ops
  have e2 := encTold_len f.ats f.vals hv1
  have e3 : (encNums f.deps).length = f.deps.length := by simp [encNums]
  have b1 := byt_nat (n := (f.ops.length : Int)) (by omega) (by omega)
  have b2 := byt_nat (n := (f.deps.length : Int)) (by omega) (by omega)
  have b3 := byt_nat (n := (f.ats.length : Int)) (by omega) (by omega)
  refine ⟨?_, ?_, ?_, ?_⟩
  · have : encL f = [byt f.kind, byt f.node, byt f.id] ++ byt f.ops.length :: (encOps f.ops ++ [byt f.deps.length] ++ encNums f.deps ++ [byt f.ats.length] ++ encTold f.ats f.vals) := by simp [encL]
    unfold bAt
    rw [this, getD_mid (k := 3) (by simp)]
    omega
  · have : encL f = ([byt f.kind, byt f.node, byt f.id, byt f.ops.length] ++ encOps f.ops) ++ byt f.deps.length :: (encNums f.deps ++ [byt f.ats.length] ++ encTold f.ats f.vals) := by simp [encL]
    unfold bAt
    rw [this, getD_mid (by simp [e1]; omega)]
    omega
  · have : encL f = ([byt f.kind, byt f.node, byt f.id, byt f.ops.length] ++ encOps f.ops ++ [byt f.deps.length] ++ encNums f.deps) ++ byt f.ats.length :: encTold f.ats f.vals := by simp [encL]
    unfold bAt
    rw [this, getD_mid (by simp [e1, e3]; omega)]
    omega
  · simp [encL, e1, e2, e3]
    omega

/-- A text that is a frame is as long as its counts say. -/
theorem ok_shape {l : List UInt8} (h : okL l = true) :
    l.length = 6 + 8 * bAt l 3 + bAt l (4 + 8 * bAt l 3) + 7 * bAt l (5 + 8 * bAt l 3 + bAt l (4 + 8 * bAt l 3)) := by
  obtain ⟨g1, g2⟩ := ok_sound h
  obtain ⟨s1, s2, s3, s4⟩ := enc_shape g1
  rw [g2] at s1 s2 s3 s4
  rw [s1, s2, s3, s4]

theorem not_ok {l : List UInt8} (h : ¬ l.length = 6 + 8 * bAt l 3 + bAt l (4 + 8 * bAt l 3) + 7 * bAt l (5 + 8 * bAt l 3 + bAt l (4 + 8 * bAt l 3))) : okL l = false := by
  cases ho : okL l with
  | false => rfl
  | true => exact absurd (ok_shape ho) h

/-- What is read where nothing lacks. -/
theorem read_pos {l : List UInt8} {n nd na : Nat} {zs : List OpL} {ds xs ys : List Int} (hn : bAt l 3 = n) (hd : bAt l (4 + 8 * n) = nd) (ha : bAt l (5 + 8 * n + nd) = na) (hl : l.length = 6 + 8 * n + nd + 7 * na)
    (E1 : Rd.ops n (pos l 4) = (zs, pos l (4 + 8 * n))) (E2 : Rd.nums nd (pos l (5 + 8 * n)) = (ds, pos l (5 + 8 * n + nd))) (E3 : Rd.told na (pos l (6 + 8 * n + nd)) = (xs, ys, pos l (6 + 8 * n + nd + 7 * na))) :
    okL l = (goodL ⟨bAt l 0, bAt l 1, bAt l 2, zs, ds, xs, ys⟩ == 0) ∧ (okL l = true → decL l = ⟨bAt l 0, bAt l 1, bAt l 2, zs, ds, xs, ys⟩) := by
  have e0 : (⟨l, false⟩ : Rd) = pos l 0 := rfl
  have q1 : (⟨l, false⟩ : Rd).r1 = pos l 3 := by rw [e0]; unfold Rd.r1; rw [pos_next (by omega), pos_next (by omega), pos_next (by omega)]
  have q2 : (⟨l, false⟩ : Rd).o1 = (zs, pos l (4 + 8 * n)) := by unfold Rd.o1; rw [q1, pos_one (by omega), pos_next (by omega), hn, Int.toNat_natCast, E1]
  have q3 : (⟨l, false⟩ : Rd).d1 = (ds, pos l (5 + 8 * n + nd)) := by
    unfold Rd.d1
    rw [q2]
    simp only
    rw [pos_one (by omega), pos_next (by omega), hd, Int.toNat_natCast, show 4 + 8 * n + 1 = 5 + 8 * n by omega, E2]
  have q4 : (⟨l, false⟩ : Rd).t1 = (xs, ys, pos l (6 + 8 * n + nd + 7 * na)) := by
    unfold Rd.t1
    rw [q3]
    simp only
    rw [pos_one (by omega), pos_next (by omega), ha, Int.toNat_natCast, show 5 + 8 * n + nd + 1 = 6 + 8 * n + nd by omega, E3]
  have q5 : (⟨l, false⟩ : Rd).end_ = ⟨[], false⟩ := by unfold Rd.end_; rw [q4]; exact pos_end hl.symm
  have q6 : (⟨l, false⟩ : Rd).frame = ⟨bAt l 0, bAt l 1, bAt l 2, zs, ds, xs, ys⟩ := by
    unfold Rd.frame
    rw [q2, q3, q4, e0, pos_next (by omega), pos_next (by omega), pos_one (by omega), pos_one (by omega), pos_one (by omega)]
  have q7 : okL l = (goodL ⟨bAt l 0, bAt l 1, bAt l 2, zs, ds, xs, ys⟩ == 0) := by
    unfold okL
    rw [q5, q6]
    rfl
  refine ⟨q7, fun h => ?_⟩
  unfold decL
  rw [if_pos h, q6]

end Go.Proofs.Ytgdkjjmnoikhdab

namespace Go.Proofs.Ytgdkjjmnoikhdab
open Go.RowKit

set_option maxRecDepth 100000 in
set_option maxHeartbeats 400000 in
theorem ref_sameOps_any (a : Option Addr) (cap : Nat) (zs : List OpL) (a' : Option Addr) (cap' : Nat) (w : World) (hl : zs.length ≤ maxLen) (hz : OpsAt w a zs) (hy : OpsAt w a' zs) :
    Calls Try.prog 62 #[.slice a zs.length cap, .slice a' zs.length cap'] w fun e w' => e = .returned (.bool true) ∧ Below w.heap.size w w' := by
  unfold maxLen at hl
  have hne : ((zs.length : Int) != (zs.length : Int)) = false := by simp
  rcases hz with rfl | ⟨b, off, rfl, hb, hc⟩
  · go_enter Try.func62, Try.ntmps62
    go_wp2
    refine wp_loop_rounds 1 ?_; rw [rounds_succ]
    go_wp2
    go_ret
    exact ⟨rfl, Below.refl _ _⟩
  rcases hy with rfl | ⟨b', off', rfl, hb', hc'⟩
  · go_enter Try.func62, Try.ntmps62
    go_wp2
    refine wp_loop_rounds 1 ?_; rw [rounds_succ]
    go_wp2
    go_ret
    exact ⟨rfl, Below.refl _ _⟩
  go_enter Try.func62, Try.ntmps62
  go_wp2
  go_loopw [13] (fun i wr => ∃ k : Nat, k ≤ zs.length ∧ i = .int .i64 k ∧ Below w.heap.size w wr) (fun i _ => zs.length - (intOf i).toNat)
  case atStart => exact ⟨0, Nat.zero_le _, rfl, Below.refl _ _⟩
  case round =>
    obtain ⟨k, hk, rfl, hB⟩ := hrel
    by_cases hlt : k < zs.length
    · obtain ⟨q0, q1, q2, Hq, e0, e1, e2⟩ := OpsAt.at hc hb hB hlt
      obtain ⟨p0, p1, p2, Hp, f0, f1, f2⟩ := OpsAt.at hc' hb' hB hlt
      have hh : (q0, q1, q2) = (p0, p1, p2) := Hq.out.symm.trans Hp.out
      simp at hh
      obtain ⟨rfl, rfl, rfl⟩ := hh
      have hi : (k : Int) < (zs.length : Int) := by omega
      clear hc hc'
      go_wp2
      go_quiet (fail)
      go_wp2
      go_roundw
      case rel => exact ⟨k + 1, by omega, by go_num, below_drewN hB _⟩
      case measure => simp [intOf]; omega
    · go_wp2
      go_ret
      exact ⟨rfl, hB⟩

set_option maxRecDepth 100000 in
set_option maxHeartbeats 1000000 in
theorem ref_sameFrame_any (v v' : Value) (f : FrameL) (w : World) (hv : FrameV w v f) (hv' : FrameV w v' f) :
    Calls Try.prog 26 #[v, v'] w fun e w' => e = .returned (.bool true) ∧ Below w.heap.size w w' := by
  obtain ⟨a3, c3, a4, c4, a5, c5, a6, c6, rfl, h3, h4, h5, h6⟩ := hv
  obtain ⟨b3, d3, b4, d4, b5, d5, b6, d6, rfl, k3, k4, k5, k6⟩ := hv'
  obtain ⟨kind, node, id, ops, deps, ats, vals⟩ := f
  simp only at *
  have tk : (kind == kind) = true := by simp
  have tn : (node == node) = true := by simp
  have ti : (id == id) = true := by simp
  go_enter Try.func26, Try.ntmps26
  go_wp2_with fail
  obtain ⟨W, hW⟩ : ∃ W, W = (w.alloc (.cells #[.int .i64 kind, .int .i64 node, .int .i64 id, .slice a3 ops.length c3, .slice a4 deps.length c4, .slice a5 ats.length c5, .slice a6 vals.length c6] 43)).alloc (.cells #[.int .i64 kind, .int .i64 node, .int .i64 id, .slice b3 ops.length d3, .slice b4 deps.length d4, .slice b5 ats.length d5, .slice b6 vals.length d6] 43) := ⟨_, rfl⟩
  have hf1 : FAt W w.heap.size kind node id (.slice a3 ops.length c3) (.slice a4 deps.length c4) (.slice a5 ats.length c5) (.slice a6 vals.length c6) := by rw [hW]; exact ⟨43, by rw [Below.heap_alloc _ _ _ (by rw [alloc_size]; omega), heap_new]⟩
  have hg1 : FAt W (w.heap.size + 1) kind node id (.slice b3 ops.length d3) (.slice b4 deps.length d4) (.slice b5 ats.length d5) (.slice b6 vals.length d6) := by rw [hW]; exact ⟨43, heap_new2 _ _ _⟩
  have hb1 : Below w.heap.size w W := by rw [hW]; exact ((Below.refl _ w).alloc (Nat.le_refl _) _).alloc (by rw [alloc_size]; omega) _
  rw [← hW]
  clear hW
  refine (ref_sameOps_any a3 c3 ops b3 d3 _ h3.2.1 (h3.later hb1).1 (k3.later hb1).1).mono ?_
  rintro e w1 ⟨rfl, hc⟩
  have hb2 := hb1.trans (hc.mono hb1.size)
  have hf2 := hf1.block (hc.block _ hf1.lt)
  have hg2 := hg1.block (hc.block _ hg1.lt)
  clear hc hf1 hg1 hb1
  have x4 := hf2.cell.2.2.2.2.1
  have y4 := hg2.cell.2.2.2.2.1
  go_wp2_with fail
  refine (sameNumbers_any a4 c4 deps b4 d4 _ h4.2.1 (h4.later hb2).1 (k4.later hb2).1).mono ?_
  rintro e w2 ⟨rfl, hc⟩
  have hb3 := hb2.trans (hc.mono hb2.size)
  have hf3 := hf2.block (hc.block _ hf2.lt)
  have hg3 := hg2.block (hc.block _ hg2.lt)
  clear hc hf2 hg2 hb2 x4 y4
  have x5 := hf3.cell.2.2.2.2.2.1
  have y5 := hg3.cell.2.2.2.2.2.1
  go_wp2_with fail
  refine (sameNumbers_any a5 c5 ats b5 d5 _ h5.2.1 (h5.later hb3).1 (k5.later hb3).1).mono ?_
  rintro e w3 ⟨rfl, hc⟩
  have hb4 := hb3.trans (hc.mono hb3.size)
  have hf4 := hf3.block (hc.block _ hf3.lt)
  have hg4 := hg3.block (hc.block _ hg3.lt)
  clear hc hf3 hg3 hb3 x5 y5
  have x6 := hf4.cell.2.2.2.2.2.2
  have y6 := hg4.cell.2.2.2.2.2.2
  go_wp2_with fail
  refine (sameNumbers_any a6 c6 vals b6 d6 _ h6.2.1 (h6.later hb4).1 (k6.later hb4).1).mono ?_
  rintro e w4 ⟨rfl, hc⟩
  have hb5 := hb4.trans (hc.mono hb4.size)
  clear hc hf4 hg4 hb4 x6 y6
  go_wp2
  go_ret
  exact ⟨rfl, hb5⟩

theorem zero_frame' (w : World) : FrameV w (.agg #[.int .i64 0, .int .i64 0, .int .i64 0, .slice none 0 0, .slice none 0 0, .slice none 0 0, .slice none 0 0]) zeroF :=
  ⟨none, 0, none, 0, none, 0, none, 0, rfl, ⟨Or.inl rfl, Nat.zero_le _, Nat.le_refl _, fun _ => ⟨rfl, rfl⟩⟩, ⟨Or.inl rfl, Nat.zero_le _, Nat.le_refl _, fun _ => ⟨rfl, rfl⟩⟩, ⟨Or.inl rfl, Nat.zero_le _, Nat.le_refl _, fun _ => ⟨rfl, rfl⟩⟩, ⟨Or.inl rfl, Nat.zero_le _, Nat.le_refl _, fun _ => ⟨rfl, rfl⟩⟩⟩

set_option maxRecDepth 100000 in
set_option maxHeartbeats 400000 in
theorem no_any (w : World) : Calls Try.prog 86 #[] w fun e w' => e = .returned (.tuple #[.agg #[.int .i64 0, .int .i64 0, .int .i64 0, .slice none 0 0, .slice none 0 0, .slice none 0 0, .slice none 0 0], .int .i64 1]) ∧ Below w.heap.size w w' := by
  go_enter Try.func86, Try.ntmps86
  go_wp2
  refine bodyPost_ret (v := .tuple #[.agg #[.int .i64 0, .int .i64 0, .int .i64 0, .slice none 0 0, .slice none 0 0, .slice none 0 0, .slice none 0 0], .int .i64 1]) (by simp [results, Try.results86, go_sem]) rfl ⟨rfl, ?_⟩
  exact (Below.refl _ _).alloc (Nat.le_refl _) _

theorem str_at {m : List UInt8} {k : Nat} (h : k < (str m).size) : ((str m)[k]'h).toNat = bAt m k := by
  have h' : k < m.length := by rwa [str_size] at h
  unfold bAt
  have : (str m)[k]'h = m[k] := by show m.toArray[k]'(by simpa using h') = _; simp
  rw [this]
  simp [List.getD, h']
theorem bAt_drop (l : List UInt8) (p k : Nat) : bAt (l.drop p) k = bAt l (p + k) := by
  unfold bAt
  simp [List.getD]
theorem pow_256 : ∀ k : Nat, k < 6 → (256 : Int) ^ k ≤ 1099511627776 := by decide

set_option maxRecDepth 100000 in
set_option maxHeartbeats 400000 in
theorem fromSix_any (l : List UInt8) (p : Nat) (w : World) (hp : p + 6 ≤ l.length) :
    Calls Try.prog 87 #[.string (str (l.drop p))] w fun e w' => e = .returned (.int .i64 (pos l p).wide) ∧ w' = w := by
  have hsz := str_size (l.drop p)
  rw [List.length_drop] at hsz
  go_enter Try.func87, Try.ntmps87
  go_wp2
  go_loop [3, 5] (fun v i => ∃ (k : Nat) (n : Int), k ≤ 6 ∧ i = .int .i64 k ∧ v = .int .i64 n ∧ 0 ≤ n ∧ n < 256 ^ k ∧ Hid (Rd.num 6 0 (pos l p) = Rd.num (6 - k) n (pos l (p + k)))) (fun _ i => 6 - (intOf i).toNat)
  case atStart => exact ⟨0, 0, by omega, rfl, rfl, by omega, by omega, rfl⟩
  case round =>
    obtain ⟨k, n, hk, rfl, rfl, hn0, hn1, H1⟩ := hrel
    by_cases hlt : k < 6
    · have hp2 := pow_256 k hlt
      have hki : (k : Int) < (l.length : Int) - (p : Int) := by omega
      have b1 := bAt_lt l (p + k)
      go_wp2
      go_round
      case rel =>
        rw [str_at, bAt_drop]
        have e1 : wrap64 (256 * n + wrap64 (bAt l (p + k) : Int)) = n * 256 + (bAt l (p + k) : Int) := by unfold wrap64; omega
        rw [e1]
        refine ⟨k + 1, _, by omega, by go_num, rfl, by omega, by rw [Int.pow_succ]; omega, ?_⟩
        obtain ⟨j, hj⟩ : ∃ j, 6 - k = j + 1 := ⟨5 - k, by omega⟩
        have hj' : 6 - (k + 1) = j := by omega
        unfold Hid at *
        rw [hj', H1, hj]
        show Rd.num j (n * 256 + (pos l (p + k)).one) (pos l (p + k)).next = _
        rw [pos_one (by omega), pos_next (by omega)]
        rfl
      case measure => simp [intOf]; omega
    · have ek : k = 6 := by omega
      subst ek
      have E : Hid (Rd.num 6 0 (pos l p) = n) := H1.out
      go_wp2
      go_ret
      refine ⟨ret_int ?_, rfl⟩
      unfold Rd.wide
      rw [E.out]

end Go.Proofs.Ytgdkjjmnoikhdab
