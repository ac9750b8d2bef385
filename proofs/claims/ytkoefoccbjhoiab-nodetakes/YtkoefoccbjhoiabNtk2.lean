/-
  Cells and rows of memory: small facts that all walks use.
  The contracts of the small functions of package txn (Shard, Of, nearest, Do): what each returns at every number, the old memory as it was.
  The contracts of package txn's functions on lists of operations (meets, Conflict, Touches).
  The contracts of goodOp and GoodOps, and of the document's own IsOps.
  The contracts of Rising and of the statements' own 'has', and what holds of the union.
  Plain mathematics of our own: a frame as bytes, and the reader that takes one off the front of bytes.
  The contracts of package wire's reader: small and wide, behind a pointer.
  How a slice of ints that came in is read: its elements, and where they lie.
  How a slice of operations, or of ints, that came in is read: its elements' numbers, and where they lie.
  The state of the reading of a frame: where the reader, the frame under way and its lists lie.
-/
import Derived.Test.YtkoefoccbjhoiabNtk1
import Derived.Deep.RegionHeld3
import Derived.Deep.Cut
import Derived.Deep.CutRange
import Derived.Lib.Strings
import Derived.Laws.BitsLemmas
import Derived.ProofKit
import Derived.OpenShut
import Derived.ShutString
import Derived.ChangeOld
import Derived.Below
import Derived.Deep.Slices
import Derived.Deep.AppendLies
namespace Go.Proofs.Ytkoefoccbjhoiab
open Go.RowKit

theorem bools_len (n : Nat) (S : Nat → Bool) : (bools n S).toList.length = n := by simp [bools]
theorem bools_one (n : Nat) (S : Nat → Bool) : ∀ v ∈ (bools n S).toList, v.oneCell' = true := by
  intro v hv
  simp [bools] at hv
  obtain ⟨i, _, rfl⟩ := hv
  rfl
/-- In a region that only reads: a load of many cells. -/
theorem wpQuiet_load_mid {P : Program} {ops : Array Oper} {w0 : World} {Q : Act → Prop} {a : Act} {o : Oper} {rest : List Oper} (hw : Region.wanted o (yielded ops a.tmps) = true) (ty : TypeId) (x : Operand) (ho : o.op = .load ty x)
    (b off : Nat) (hx : a.eval x = .pointer (some ⟨b, off, none⟩)) (cs : List Value) (d : TypeDesc) (hc : w0.rangeAt b off cs) (hu : P.underlying ty = some d) (hd : d.isRow = true) (hi : (P.info? ty).map (·.size) = some cs.length)
    (h : wpQuiet P ops (fun w' => ∃ n, w' = w0.drewN n) Q rest (a.put o.dst (.agg cs.toArray))) : wpQuiet P ops (fun w' => ∃ n, w' = w0.drewN n) Q (o :: rest) a := by
  unfold wpQuiet
  rw [if_pos hw]
  refine ⟨.agg cs.toArray, ?_, h⟩
  rintro w' ⟨n, rfl⟩
  unfold Oper.quietAt execOp
  simp only [ho, hx, Instr.loadAt, Instr.sureAddr, Sem.run_bind, Sem.run_pure, Result.andThen_ok, run_loadVar_mid (w0.drewN n) b off ty cs d hc hu hd hi]
  exact ⟨rfl, rfl⟩
theorem size_push (w : World) (o : Obj) : (w.alloc o).heap.size = w.heap.size + 1 := by show (w.heap.push o).size = _; simp
theorem grown_alloc {w w1 : World} {row : Option Nat} (h : w.grownBy w1 row) (o : Obj) : w.grownBy (w1.alloc o) row :=
  ⟨h.os, h.tape, h.output, by have := h.size; rw [size_push]; omega, fun k hk hr => by rw [Below.heap_alloc _ _ _ (by have := h.size; omega)]; exact h.block k hk hr⟩
theorem grown_put_same {w w1 : World} {c : Nat} (h : w.grownBy w1 (some c)) (o : Nat) (u : Value) : w.grownBy (w1.setCell ⟨c, o, none⟩ u) (some c) :=
  ⟨h.os, h.tape, h.output, by have := h.size; simpa [World.setCell] using this, fun k hk hr => by rw [Below.heap_setCell _ _ _ _ (fun e => hr (by rw [e]))]; exact h.block k hk hr⟩
theorem grown_put_new {w w1 : World} {row : Option Nat} (h : w.grownBy w1 row) {b : Nat} (hb : w.heap.size ≤ b) (o : Nat) (u : Value) : w.grownBy (w1.setCell ⟨b, o, none⟩ u) row :=
  ⟨h.os, h.tape, h.output, by have := h.size; simpa [World.setCell] using this, fun k hk hr => by rw [Below.heap_setCell _ _ _ _ (show k ≠ b by omega)]; exact h.block k hk hr⟩
theorem bools_all (n : Nat) (S : Nat → Bool) : (bools n S).all (·.oneCell') = true := by
  have := all_oneCell_toArray (bools_one n S)
  simpa using this
theorem two_rows (w : World) (A B : Obj) : ((w.alloc A).alloc B).heap[w.heap.size]? = some A ∧ ((w.alloc A).alloc B).heap[w.heap.size + 1]? = some B :=
  ⟨heap_alloc2_old w A B, heap_alloc2_new w A B⟩
theorem setRow_below {B : Nat} {a w : World} (h : Below B a w) {g : Nat} (hg : B ≤ g) (cs : Array Value) : Below B a (w.setRow g cs) :=
  ⟨h.os, h.tape, h.output, by rw [size_setRow]; exact h.size, fun k hk => by
    rw [← h.block k hk]
    simp [World.setRow, Array.getElem?_modify]
    intro e; omega⟩
theorem heap_setRow {w : World} {g : Nat} {old cs : Array Value} {t : TypeId} {fr : Nat × Nat} (h : w.heap[g]? = some (.cells old t fr)) : (w.setRow g cs).heap[g]? = some (.cells cs t fr) := by
  simp [World.setRow, Array.getElem?_modify, h]
/-- 'wpAnyH_take', the slot that is written named. -/
theorem wpAnyH_takeD {P : Program} {md : Region.Mode} {ops : Array Oper} {Q : Exit → Act → World → Prop} {S : World → Prop} {i : Nat} {oi : Oper} {d : Option Tmp} {v : Value} {fuel : Nat} {listed : Array Bool} {a : Act} {w : World} (hi : ops[i]? = some oi) (hd : oi.dst = d)
    (hs : Region.noSelect ops = true) (hf : Region.free md ops listed i = true) (hr : (Region.ready md ops listed).contains i = true)
    (hQ : ∀ c a w, Q (.panic c) (a.put oi.dst v) w → Q (.panic c) a w) (hy : YieldsIf P ops S oi v a) (hS : S w)
    (h : wpAnyH P md ops Q S fuel (listed.setIfInBounds i true) (a.put d v) w) : wpAnyH P md ops Q S (fuel + 1) listed a w :=
  wpAnyH_take hi hs hf hr hQ hy hS (by rw [hd]; exact h)

end Go.Proofs.Ytkoefoccbjhoiab

namespace Go.Proofs.Ytkoefoccbjhoiab
open Go.RowKit

theorem tmod2 (k : Int) : (k.tmod 2 == 0) = (k % 2 == 0) := by
  have e := Int.tmod_eq_emod (a := k) (b := 2)
  have : k.tmod 2 = 0 ↔ k % 2 = 0 := by rw [e]; split <;> omega
  rw [Bool.eq_iff_iff]; simpa using this

set_option maxRecDepth 100000 in
set_option maxHeartbeats 400000 in
theorem shard_any (k : Int) (w : World) :
    Calls Try.prog 104 #[.int .i64 k] w fun e w' => e = .returned (.int .i64 (k % 2)) ∧ w' = w := by
  have e := tmod2 k
  by_cases h : k % 2 = 0
  · have h1 : (k.tmod 2 == 0) = true := by rw [e]; simpa using h
    clear e
    go_enter Try.func104, Try.ntmps104
    go_wp2
    go_ret
    exact ⟨ret_int (by omega), rfl⟩
  · have h1 : (k.tmod 2 == 0) = false := by rw [e]; simpa using h
    clear e
    go_enter Try.func104, Try.ntmps104
    go_wp2
    go_ret
    exact ⟨ret_int (by omega), rfl⟩

def ofL (k : Int) : Int := if k < 3 then 0 else 1

set_option maxRecDepth 100000 in
set_option maxHeartbeats 400000 in
theorem of_any (k : Int) (w : World) :
    Calls Try.prog 58 #[.int .i64 k] w fun e w' => e = .returned (.int .i64 (ofL k)) ∧ w' = w := by
  by_cases h : k < 3
  · have E : Hid (ofL k = 0) := by unfold ofL Hid; rw [if_pos h]
    go_enter Try.func58, Try.ntmps58
    go_wp2
    go_ret
    exact ⟨ret_int E.out.symm, rfl⟩
  · have E : Hid (ofL k = 1) := by unfold ofL Hid; rw [if_neg h]
    go_enter Try.func58, Try.ntmps58
    go_wp2
    go_ret
    exact ⟨ret_int E.out.symm, rfl⟩

def near (n : Int) : Int := if n < -1099511627776 then -1099511627776 else if 1099511627776 < n then 1099511627776 else n
theorem near_lo (n : Int) : -1099511627776 ≤ near n := by
  unfold near; split
  · omega
  · split <;> omega
theorem near_hi (n : Int) : near n ≤ 1099511627776 := by
  unfold near; split
  · omega
  · split <;> omega

set_option maxRecDepth 100000 in
set_option maxHeartbeats 400000 in
theorem nearest_any (n : Int) (w : World) :
    Calls Try.prog 139 #[.int .i64 n] w fun e w' => e = .returned (.int .i64 (near n)) ∧ w' = w := by
  by_cases h1 : n < -1099511627776
  · have e : near n = -1099511627776 := by unfold near; rw [if_pos h1]
    have E : Hid (near n = -1099511627776) := e
    clear e
    go_enter Try.func139, Try.ntmps139
    go_wp2
    go_ret
    exact ⟨ret_int E.out.symm, rfl⟩
  · by_cases h2 : 1099511627776 < n
    · have E : Hid (near n = 1099511627776) := by unfold near Hid; rw [if_neg h1, if_pos h2]
      go_enter Try.func139, Try.ntmps139
      go_wp2
      go_ret
      exact ⟨ret_int E.out.symm, rfl⟩
    · have E : Hid (near n = n) := by unfold near Hid; rw [if_neg h1, if_neg h2]
      go_enter Try.func139, Try.ntmps139
      go_wp2
      go_ret
      exact ⟨ret_int E.out.symm, rfl⟩

def doL (v kind n : Int) : Int := if kind = 2 then near n else if kind = 3 then near (near v + near n) else near v

set_option maxRecDepth 100000 in
set_option maxHeartbeats 400000 in
theorem do_any (v kind key n : Int) (w : World) :
    Calls Try.prog 142 #[.int .i64 v, .agg #[.int .i64 kind, .int .i64 key, .int .i64 n]] w fun e w' => e = .returned (.int .i64 (doL v kind n)) ∧ Below w.heap.size w w' := by
  by_cases h2 : kind = 2
  · have E : Hid (doL v kind n = near n) := by unfold doL Hid; rw [if_pos h2]
    have h2' : (kind == 2) = true := by simpa using h2
    clear h2
    go_enter Try.func142, Try.ntmps142
    go_wp2_with (go_at_call 139; refine (nearest_any _ _).mono ?_; rintro e w' ⟨rfl, rfl⟩)
    go_ret
    exact ⟨ret_int E.out.symm, (Below.refl _ _).alloc (Nat.le_refl _) _⟩
  · by_cases h3 : kind = 3
    · have E : Hid (doL v kind n = near (near v + near n)) := by unfold doL Hid; rw [if_neg h2, if_pos h3]
      have h2' : (kind == 2) = false := by simpa using h2
      have h3' : (kind == 3) = true := by simpa using h3
      have l1 := near_lo v
      have l2 := near_hi v
      have l3 := near_lo n
      have l4 := near_hi n
      clear h2 h3
      go_enter Try.func142, Try.ntmps142
      go_wp2
      go_quiet ((go_at_call 139; exact Calls.quiet_of_same (nearest_any _ _)))
      go_wp2
      go_ret
      exact ⟨ret_int E.out.symm, below_drewN ((Below.refl _ _).alloc (Nat.le_refl _) _) _⟩
    · have E : Hid (doL v kind n = near v) := by unfold doL Hid; rw [if_neg h2, if_neg h3]
      have h2' : (kind == 2) = false := by simpa using h2
      have h3' : (kind == 3) = false := by simpa using h3
      clear h2 h3
      go_enter Try.func142, Try.ntmps142
      go_wp2_with (go_at_call 139; refine (nearest_any _ _).mono ?_; rintro e w' ⟨rfl, rfl⟩)
      go_ret
      exact ⟨ret_int E.out.symm, (Below.refl _ _).alloc (Nat.le_refl _) _⟩

end Go.Proofs.Ytkoefoccbjhoiab

namespace Go.Proofs.Ytkoefoccbjhoiab
open Go.RowKit

/-- an operation: kind, key, N -/
abbrev OpL := Int × Int × Int

/-- A slice of operations that lies in memory: nothing, or its cells, three an element. -/
def OpsAt (w : World) (a : Option Addr) (zs : List OpL) : Prop :=
  zs = [] ∨ ∃ b off, a = some ⟨b, off, none⟩ ∧ b < w.heap.size ∧ ∀ i, i < zs.length → w.cell? ⟨b, off + i * 3, none⟩ = some (.int .i64 (zs.getD i (0, 0, 0)).1) ∧
    w.cell? ⟨b, off + i * 3 + 1, none⟩ = some (.int .i64 (zs.getD i (0, 0, 0)).2.1) ∧ w.cell? ⟨b, off + i * 3 + 2, none⟩ = some (.int .i64 (zs.getD i (0, 0, 0)).2.2)

theorem OpsAt.later {w w' : World} {a : Option Addr} {zs : List OpL} (h : OpsAt w a zs) (hB : Below w.heap.size w w') : OpsAt w' a zs := by
  rcases h with h | ⟨b, off, ha, hb, hc⟩
  · exact Or.inl h
  · refine Or.inr ⟨b, off, ha, Nat.lt_of_lt_of_le hb hB.size, fun i hi => ?_⟩
    rw [hB.cell (p := ⟨b, off + i * 3, none⟩) hb, hB.cell (p := ⟨b, off + i * 3 + 1, none⟩) hb, hB.cell (p := ⟨b, off + i * 3 + 2, none⟩) hb]
    exact hc i hi

/-- the element at k, in a later world -/
theorem OpsAt.at {w wr : World} {B b off : Nat} {zs : List OpL} (hc : ∀ i, i < zs.length → w.cell? ⟨b, off + i * 3, none⟩ = some (.int .i64 (zs.getD i (0, 0, 0)).1) ∧
    w.cell? ⟨b, off + i * 3 + 1, none⟩ = some (.int .i64 (zs.getD i (0, 0, 0)).2.1) ∧ w.cell? ⟨b, off + i * 3 + 2, none⟩ = some (.int .i64 (zs.getD i (0, 0, 0)).2.2))
    (hb : b < B) (hB : Below B w wr) {k : Nat} (hk : k < zs.length) :
    ∃ q0 q1 q2 : Int, Hid (zs.getD k (0, 0, 0) = (q0, q1, q2)) ∧ wr.cell? ⟨b, off + k * 3, none⟩ = some (.int .i64 q0) ∧ wr.cell? ⟨b, off + k * 3 + 1, none⟩ = some (.int .i64 q1) ∧ wr.cell? ⟨b, off + k * 3 + 2, none⟩ = some (.int .i64 q2) := by
  refine ⟨_, _, _, rfl, ?_⟩
  rw [hB.cell (p := ⟨b, off + k * 3, none⟩) hb, hB.cell (p := ⟨b, off + k * 3 + 1, none⟩) hb, hB.cell (p := ⟨b, off + k * 3 + 2, none⟩) hb]
  exact hc k hk

def meetB (o p : OpL) : Bool := o.2.1 == p.2.1 && (o.1 != 1 || p.1 != 1)
def meetsL (o : OpL) (zs : List OpL) : Bool := zs.any (meetB o)

set_option maxRecDepth 100000 in
set_option maxHeartbeats 400000 in
theorem meets_any (o0 o1 o2 : Int) (a : Option Addr) (cap : Nat) (zs : List OpL) (w : World) (hl : zs.length ≤ maxLen) (hz : OpsAt w a zs) :
    Calls Try.prog 141 #[.agg #[.int .i64 o0, .int .i64 o1, .int .i64 o2], .slice a zs.length cap] w fun e w' => e = .returned (.bool (meetsL (o0, o1, o2) zs)) ∧ Below w.heap.size w w' := by
  unfold maxLen at hl
  rcases hz with rfl | ⟨b, off, rfl, hb, hc⟩
  · go_enter Try.func141, Try.ntmps141
    go_wp2
    refine wp_loop_rounds 1 ?_; rw [rounds_succ]
    go_wp2
    go_ret
    exact ⟨rfl, (Below.refl _ _).alloc (Nat.le_refl _) _⟩
  · go_enter Try.func141, Try.ntmps141
    go_wp2
    go_loopw [9] (fun i wr => ∃ k : Nat, k ≤ zs.length ∧ i = .int .i64 k ∧ (zs.take k).any (meetB (o0, o1, o2)) = false ∧ Below (w.heap.size + 1) (w.alloc (.cells #[.int .i64 o0, .int .i64 o1, .int .i64 o2] 108)) wr) (fun i _ => zs.length - (intOf i).toNat)
    case atStart => exact ⟨0, Nat.zero_le _, rfl, rfl, Below.refl _ _⟩
    case round =>
      obtain ⟨k, hk, rfl, hno, hB⟩ := hrel
      have hBw : Below w.heap.size w wr := ((Below.refl _ w).alloc (Nat.le_refl _) _).trans (hB.mono (by omega))
      have hsz := hBw.size
      have hsz1 : w.heap.size < wr.heap.size := by have := hB.size; simp at this; omega
      have c0 := hB.cell (p := ⟨w.heap.size, 0, none⟩) (by simp)
      have c1 := hB.cell (p := ⟨w.heap.size, 1, none⟩) (by simp)
      simp at c0 c1
      by_cases hlt : k < zs.length
      · obtain ⟨q0, q1, q2, Hq, e0, e1, e2⟩ := OpsAt.at hc hb hBw hlt
        have hm : Hid (meetB (o0, o1, o2) (q0, q1, q2) = (o1 == q1 && (o0 != 1 || q0 != 1))) := rfl
        clear hc
        cases t1 : o1 == q1
        · go_wp2
          go_roundw
          case rel => exact ⟨k + 1, by omega, by go_num, any_step hlt Hq.out hno (by rw [hm.out, t1]; rfl), hB.alloc (by omega) _⟩
          case measure => simp [intOf]; omega
        · cases t2 : o0 != 1
          · cases t3 : q0 != 1
            · go_wp2
              go_roundw
              case rel => exact ⟨k + 1, by omega, by go_num, any_step hlt Hq.out hno (by rw [hm.out, t1, t2, t3]; rfl), hB.alloc (by omega) _⟩
              case measure => simp [intOf]; omega
            · go_wp2
              go_ret
              exact ⟨ret_bool (any_hit hlt Hq.out (by rw [hm.out, t1, t2, t3]; rfl)).symm, hBw.alloc hsz _⟩
          · go_wp2
            go_ret
            exact ⟨ret_bool (any_hit hlt Hq.out (by rw [hm.out, t1, t2]; rfl)).symm, hBw.alloc hsz _⟩
      · go_wp2
        go_ret
        exact ⟨ret_bool (any_end hlt hno).symm, hBw⟩

def touchB (s : Int) (o : OpL) : Bool := o.2.1 % 2 == s
def touchesL (zs : List OpL) (s : Int) : Bool := zs.any (touchB s)

set_option maxRecDepth 100000 in
set_option maxHeartbeats 400000 in
theorem touches_any (a : Option Addr) (cap : Nat) (zs : List OpL) (s : Int) (w : World) (hl : zs.length ≤ maxLen) (hz : OpsAt w a zs) :
    Calls Try.prog 57 #[.slice a zs.length cap, .int .i64 s] w fun e w' => e = .returned (.bool (touchesL zs s)) ∧ Below w.heap.size w w' := by
  unfold maxLen at hl
  rcases hz with rfl | ⟨b, off, rfl, hb, hc⟩
  · go_enter Try.func57, Try.ntmps57
    go_wp2
    refine wp_loop_rounds 1 ?_; rw [rounds_succ]
    go_wp2
    go_ret
    exact ⟨rfl, Below.refl _ _⟩
  · go_enter Try.func57, Try.ntmps57
    go_wp2
    go_loopw [9] (fun i wr => ∃ k : Nat, k ≤ zs.length ∧ i = .int .i64 k ∧ (zs.take k).any (touchB s) = false ∧ Below w.heap.size w wr) (fun i _ => zs.length - (intOf i).toNat)
    case atStart => exact ⟨0, Nat.zero_le _, rfl, rfl, Below.refl _ _⟩
    case round =>
      obtain ⟨k, hk, rfl, hno, hBw⟩ := hrel
      have hsz := hBw.size
      by_cases hlt : k < zs.length
      · obtain ⟨q0, q1, q2, Hq, e0, e1, e2⟩ := OpsAt.at hc hb hBw hlt
        have hm : Hid (touchB s (q0, q1, q2) = (q1 % 2 == s)) := rfl
        clear hc
        cases t1 : q1 % 2 == s
        · go_wp2_with (go_at_call 104; refine (shard_any _ _).mono ?_; rintro e w' ⟨rfl, rfl⟩)
          go_roundw
          case rel => exact ⟨k + 1, by omega, by go_num, any_step hlt Hq.out hno (by rw [hm.out, t1]), hBw.alloc hsz _⟩
          case measure => simp [intOf]; omega
        · go_wp2_with (go_at_call 104; refine (shard_any _ _).mono ?_; rintro e w' ⟨rfl, rfl⟩)
          go_ret
          exact ⟨ret_bool (any_hit hlt Hq.out (by rw [hm.out, t1])).symm, hBw.alloc hsz _⟩
      · go_wp2
        go_ret
        exact ⟨ret_bool (any_end hlt hno).symm, hBw⟩

def conflictB (b : List OpL) (s : Int) (o : OpL) : Bool := o.2.1 % 2 == s && meetsL o b
def conflictL (a b : List OpL) (s : Int) : Bool := a.any (conflictB b s)

set_option maxRecDepth 100000 in
set_option maxHeartbeats 400000 in
theorem conflict_any (a : Option Addr) (cap : Nat) (zs : List OpL) (a' : Option Addr) (cap' : Nat) (ys : List OpL) (s : Int) (w : World) (hl : zs.length ≤ maxLen) (hz : OpsAt w a zs) (hl' : ys.length ≤ maxLen) (hy : OpsAt w a' ys) :
    Calls Try.prog 132 #[.slice a zs.length cap, .slice a' ys.length cap', .int .i64 s] w fun e w' => e = .returned (.bool (conflictL zs ys s)) ∧ Below w.heap.size w w' := by
  have hl2 := hl
  unfold maxLen at hl
  rcases hz with rfl | ⟨b, off, rfl, hb, hc⟩
  · go_enter Try.func132, Try.ntmps132
    go_wp2
    refine wp_loop_rounds 1 ?_; rw [rounds_succ]
    go_wp2
    go_ret
    exact ⟨rfl, Below.refl _ _⟩
  · go_enter Try.func132, Try.ntmps132
    go_wp2
    go_loopw [11] (fun i wr => ∃ k : Nat, k ≤ zs.length ∧ i = .int .i64 k ∧ (zs.take k).any (conflictB ys s) = false ∧ Below w.heap.size w wr) (fun i _ => zs.length - (intOf i).toNat)
    case atStart => exact ⟨0, Nat.zero_le _, rfl, rfl, Below.refl _ _⟩
    case round =>
      obtain ⟨k, hk, rfl, hno, hBw⟩ := hrel
      have hsz := hBw.size
      by_cases hlt : k < zs.length
      · obtain ⟨q0, q1, q2, Hq, e0, e1, e2⟩ := OpsAt.at hc hb hBw hlt
        have hm : Hid (conflictB ys s (q0, q1, q2) = (q1 % 2 == s && meetsL (q0, q1, q2) ys)) := rfl
        have hy' : ∀ o, OpsAt (wr.alloc o) a' ys := fun o => hy.later (hBw.alloc hsz o)
        clear hc
        cases t1 : q1 % 2 == s
        · go_wp2_with (go_at_call 104; refine (shard_any _ _).mono ?_; rintro e w' ⟨rfl, rfl⟩)
          go_roundw
          case rel => exact ⟨k + 1, by omega, by go_num, any_step hlt Hq.out hno (by rw [hm.out, t1]; rfl), hBw.alloc hsz _⟩
          case measure => simp [intOf]; omega
        · go_wp2_with (go_at_call 104; refine (shard_any _ _).mono ?_; rintro e w' ⟨rfl, rfl⟩)
          refine (meets_any q0 q1 q2 a' cap' ys _ hl' (hy' _)).mono ?_
          rintro e w1 ⟨rfl, hb1⟩
          have hb2 : Below w.heap.size w w1 := (hBw.alloc hsz _).trans (hb1.mono (by simp; omega))
          clear hb1
          cases t2 : meetsL (q0, q1, q2) ys
          · go_wp2
            go_roundw
            case rel => exact ⟨k + 1, by omega, by go_num, any_step hlt Hq.out hno (by rw [hm.out, t1, t2]; rfl), hb2⟩
            case measure => simp [intOf]; omega
          · go_wp2
            go_ret
            exact ⟨ret_bool (any_hit hlt Hq.out (by rw [hm.out, t1, t2]; rfl)).symm, hb2⟩
      · go_wp2
        go_ret
        exact ⟨ret_bool (any_end hlt hno).symm, hBw⟩

end Go.Proofs.Ytkoefoccbjhoiab

namespace Go.Proofs.Ytkoefoccbjhoiab
open Go.RowKit

def goodB (o : OpL) : Bool := decide (0 ≤ o.2.1 ∧ o.2.1 < 8 ∧ (o.1 = 1 ∧ o.2.2 = 0 ∨ (o.1 = 2 ∨ o.1 = 3) ∧ -1099511627776 ≤ o.2.2 ∧ o.2.2 ≤ 1099511627776))

theorem near_eq (n : Int) : (n == near n) = decide (-1099511627776 ≤ n ∧ n ≤ 1099511627776) := by
  rw [Bool.eq_iff_iff]
  simp only [beq_iff_eq, decide_eq_true_eq]
  unfold near
  split
  · omega
  · split <;> omega

set_option maxRecDepth 100000 in
set_option maxHeartbeats 400000 in
theorem goodOp_any (o0 o1 o2 : Int) (w : World) :
    Calls Try.prog 124 #[.agg #[.int .i64 o0, .int .i64 o1, .int .i64 o2]] w fun e w' => e = .returned (.bool (goodB (o0, o1, o2))) ∧ Below w.heap.size w w' := by
  by_cases h1 : o1 < 0
  · have E : Hid (goodB (o0, o1, o2) = false) := by unfold goodB Hid; simp; omega
    go_enter Try.func124, Try.ntmps124
    go_wp2
    go_ret
    exact ⟨ret_bool E.out.symm, (Below.refl _ _).alloc (Nat.le_refl _) _⟩
  · by_cases h2 : 8 ≤ o1
    · have E : Hid (goodB (o0, o1, o2) = false) := by unfold goodB Hid; simp; omega
      go_enter Try.func124, Try.ntmps124
      go_wp2
      go_ret
      exact ⟨ret_bool E.out.symm, (Below.refl _ _).alloc (Nat.le_refl _) _⟩
    · cases t1 : o0 == 1
      · cases t2 : o0 == 2
        · cases t3 : o0 == 3
          · have E : Hid (goodB (o0, o1, o2) = false) := by simp at t1 t2 t3; unfold goodB Hid; simp; omega
            go_enter Try.func124, Try.ntmps124
            go_wp2
            go_ret
            exact ⟨ret_bool E.out.symm, (Below.refl _ _).alloc (Nat.le_refl _) _⟩
          · have E : Hid (goodB (o0, o1, o2) = (o2 == near o2)) := by simp at t3; rw [Hid, near_eq, Bool.eq_iff_iff]; unfold goodB; simp; omega
            go_enter Try.func124, Try.ntmps124
            go_wp2
            go_quiet ((go_at_call 139; exact Calls.quiet_of_same (nearest_any _ _)))
            go_wp2
            go_ret
            exact ⟨ret_bool E.out.symm, below_drewN ((Below.refl _ _).alloc (Nat.le_refl _) _) _⟩
        · have E : Hid (goodB (o0, o1, o2) = (o2 == near o2)) := by simp at t2; rw [Hid, near_eq, Bool.eq_iff_iff]; unfold goodB; simp; omega
          go_enter Try.func124, Try.ntmps124
          go_wp2
          go_quiet ((go_at_call 139; exact Calls.quiet_of_same (nearest_any _ _)))
          go_wp2
          go_ret
          exact ⟨ret_bool E.out.symm, below_drewN ((Below.refl _ _).alloc (Nat.le_refl _) _) _⟩
      · have E : Hid (goodB (o0, o1, o2) = (o2 == 0)) := by simp at t1; rw [Hid, Bool.eq_iff_iff]; unfold goodB; simp; omega
        go_enter Try.func124, Try.ntmps124
        go_wp2
        go_ret
        exact ⟨ret_bool E.out.symm, (Below.refl _ _).alloc (Nat.le_refl _) _⟩

def keyB (k : Int) (p : OpL) : Bool := p.2.1 == k
/-- the k-th is good, and none ahead of it has its key -/
def goodAt (zs : List OpL) (k : Nat) : Bool := goodB (zs.getD k (0, 0, 0)) && !(zs.take k).any (keyB (zs.getD k (0, 0, 0)).2.1)
def goodOpsL (zs : List OpL) : Bool := decide (1 ≤ zs.length ∧ zs.length ≤ 4) && (List.range zs.length).all (goodAt zs)

theorem range_step {p : Nat → Bool} {k : Nat} (h : (List.range k).all p = true) (hk : p k = true) : (List.range (k + 1)).all p = true := by
  rw [List.range_succ, List.all_append, h]
  simp [hk]
theorem range_miss {p : Nat → Bool} {k n : Nat} (hn : k < n) (hk : p k = false) : (List.range n).all p = false :=
  List.all_eq_false.2 ⟨k, List.mem_range.2 hn, by simp [hk]⟩

theorem good_len {zs : List OpL} (h : zs.length < 1 ∨ 4 < zs.length) : goodOpsL zs = false := by
  unfold goodOpsL
  rw [decide_eq_false (by omega), Bool.false_and]
theorem good_len_yes {zs : List OpL} (h : ¬ zs.length < 1) (h' : ¬ 4 < zs.length) : goodOpsL zs = (List.range zs.length).all (goodAt zs) := by
  unfold goodOpsL
  rw [decide_eq_true (by omega), Bool.true_and]

def seenOf (zs : List OpL) (k : Nat) (i : Nat) : Bool := (zs.take k).any (keyB (i : Int))
theorem seen_step {zs : List OpL} {k m : Nat} {q0 q2 : Int} (hk : k < zs.length) (hq : zs.getD k (0, 0, 0) = (q0, (m : Int), q2)) (i : Nat) : (if i = m then true else seenOf zs k i) = seenOf zs (k + 1) i := by
  have : zs[k] = (q0, (m : Int), q2) := by rw [← hq]; simp [List.getD, hk]
  unfold seenOf
  rw [List.take_succ_eq_append_getElem hk, List.any_append, this]
  by_cases e : i = m
  · subst e
    simp [keyB]
  · rw [if_neg e]
    have : keyB (i : Int) (q0, (m : Int), q2) = false := by simp [keyB]; omega
    simp [this]

theorem SetAt.later {n : Nat} {w w' : World} {c B : Nat} {S : Nat → Bool} (h : SetAt n w c S) (hB : Below B w w') (hc : c < B) : SetAt n w' c S := by
  obtain ⟨t, h⟩ := h
  exact ⟨t, by rw [hB.block c hc]; exact h⟩

theorem zero8 : bools 8 (fun _ => false) = #[.bool false, .bool false, .bool false, .bool false, .bool false, .bool false, .bool false, .bool false] := by rfl

theorem goodAt_no1 {zs : List OpL} {k : Nat} {q : OpL} (hq : zs.getD k (0, 0, 0) = q) (h : goodB q = false) : goodAt zs k = false := by
  unfold goodAt
  rw [hq, h, Bool.false_and]
theorem goodAt_no2 {zs : List OpL} {k m : Nat} {q0 q2 : Int} (hq : zs.getD k (0, 0, 0) = (q0, (m : Int), q2)) (h : seenOf zs k m = true) : goodAt zs k = false := by
  unfold goodAt
  rw [hq]
  unfold seenOf at h
  simp only [h, Bool.not_true, Bool.and_false]
theorem goodAt_yes {zs : List OpL} {k m : Nat} {q0 q2 : Int} (hq : zs.getD k (0, 0, 0) = (q0, (m : Int), q2)) (h1 : goodB (q0, (m : Int), q2) = true) (h : seenOf zs k m = false) : goodAt zs k = true := by
  unfold goodAt
  rw [hq]
  unfold seenOf at h
  simp only [h, h1, Bool.not_false, Bool.and_true]
theorem goodB_key {q0 q1 q2 : Int} (h : goodB (q0, q1, q2) = true) : 0 ≤ q1 ∧ q1 < 8 := by
  unfold goodB at h
  have := of_decide_eq_true h
  exact ⟨this.1, this.2.1⟩

set_option maxRecDepth 100000 in
set_option maxHeartbeats 1000000 in
theorem goodOps_any (a : Option Addr) (cap : Nat) (zs : List OpL) (w : World) (hl : zs.length ≤ maxLen) (hz : OpsAt w a zs) :
    Calls Try.prog 90 #[.slice a zs.length cap] w fun e w' => e = .returned (.bool (goodOpsL zs)) ∧ Below w.heap.size w w' := by
  unfold maxLen at hl
  by_cases h1 : zs.length < 1
  · have E : Hid (goodOpsL zs = false) := good_len (Or.inl h1)
    go_enter Try.func90, Try.ntmps90
    go_wp2
    go_ret
    exact ⟨ret_bool E.out.symm, Below.refl _ _⟩
  by_cases h2 : 4 < zs.length
  · have E : Hid (goodOpsL zs = false) := good_len (Or.inr h2)
    go_enter Try.func90, Try.ntmps90
    go_wp2
    go_ret
    exact ⟨ret_bool E.out.symm, Below.refl _ _⟩
  have E : Hid (goodOpsL zs = (List.range zs.length).all (goodAt zs)) := good_len_yes h1 h2
  rcases hz with rfl | ⟨b, off, rfl, hb, hc⟩
  · simp at h1
  go_enter Try.func90, Try.ntmps90
  go_wp2
  rw [← zero8]
  go_loopw [16] (fun i wr => ∃ k : Nat, k ≤ zs.length ∧ i = .int .i64 k ∧ Hid ((List.range k).all (goodAt zs) = true) ∧ SetAt 8 wr w.heap.size (seenOf zs k) ∧ Below w.heap.size w wr) (fun i _ => zs.length - (intOf i).toNat)
  case atStart => exact ⟨0, Nat.zero_le _, rfl, rfl, ⟨139, heap_new _ _⟩, (Below.refl _ _).alloc (Nat.le_refl _) _⟩
  case round =>
    obtain ⟨k, hk, rfl, hall, hS, hBw⟩ := hrel
    have hsz := hBw.size
    have hcl := hS.lt
    by_cases hlt : k < zs.length
    · obtain ⟨q0, q1, q2, Hq, e0, e1, e2⟩ := OpsAt.at hc hb hBw hlt
      clear hc
      go_wp2_with fail
      refine (goodOp_any q0 q1 q2 _).mono ?_
      rintro e w1 ⟨rfl, hb1⟩
      have f1 := hb1.cell (p := ⟨wr.heap.size, 1, none⟩) (by simp)
      simp at f1
      have hS1 : SetAt 8 w1 w.heap.size (seenOf zs k) := (hS.later ((Below.refl _ _).alloc (Nat.le_refl _) _) hcl).later hb1 (by simp; omega)
      have hb2 : Below w.heap.size w w1 := (hBw.alloc hsz _).trans (hb1.mono (by simp; omega))
      have hz1 : wr.heap.size < w1.heap.size := by have := hb1.size; simp at this; omega
      clear hb1
      cases tg : goodB (q0, q1, q2)
      · have N : Hid (goodOpsL zs = false) := by unfold Hid; rw [E.out]; exact range_miss hlt (goodAt_no1 Hq.out tg)
        go_wp2
        go_ret
        exact ⟨ret_bool N.out.symm, hb2⟩
      · obtain ⟨k0, k1⟩ := goodB_key tg
        obtain ⟨m, rfl⟩ := Int.eq_ofNat_of_zero_le k0
        have hm : m < 8 := by omega
        have g1 := hS1.cell hm
        have g2 := hS1.frozen m
        cases ts : seenOf zs k m
        · rw [ts] at g1
          have Y : Hid ((List.range (k + 1)).all (goodAt zs) = true) := range_step hall.out (goodAt_yes Hq.out tg ts)
          have HS : SetAt 8 (w1.setCell ⟨w.heap.size, m, none⟩ (.bool true)) w.heap.size (seenOf zs (k + 1)) := (hS1.put m true).congr (fun i _ => seen_step hlt Hq.out i)
          clear hS1 hS
          go_wp2
          go_roundw
          case rel => exact ⟨k + 1, by omega, by go_num, Y, HS, hb2.setCell (by simp) _⟩
          case measure => simp [intOf]; omega
        · rw [ts] at g1
          have N : Hid (goodOpsL zs = false) := by unfold Hid; rw [E.out]; exact range_miss hlt (goodAt_no2 Hq.out ts)
          go_wp2
          go_ret
          exact ⟨ret_bool N.out.symm, hb2⟩
    · have N : Hid (goodOpsL zs = true) := by
        unfold Hid
        have : k = zs.length := by omega
        rw [E.out, ← this]
        exact hall.out
      go_wp2
      go_ret
      exact ⟨ret_bool N.out.symm, hBw⟩

end Go.Proofs.Ytkoefoccbjhoiab

namespace Go.Proofs.Ytkoefoccbjhoiab
open Go.RowKit

def risingFrom : Int → List Int → Bool
  | _, [] => true
  | l, n :: r => !(decide (n ≤ l) || decide (32 ≤ n)) && risingFrom n r

theorem drop_at {zs : List Int} {k : Nat} {q : Int} (hk : k < zs.length) (hq : zs.getD k 0 = q) : zs.drop k = q :: zs.drop (k + 1) := by
  rw [List.drop_eq_getElem_cons hk]
  have : zs[k] = q := by rw [← hq]; simp [List.getD, hk]
  rw [this]

theorem rising_no {zs : List Int} {k : Nat} {q l m : Int} (hk : k < zs.length) (hq : zs.getD k 0 = q) (h : risingFrom m zs = risingFrom l (zs.drop k)) (hn : q ≤ l ∨ 32 ≤ q) : risingFrom m zs = false := by
  rw [h, drop_at hk hq, risingFrom]
  have : (decide (q ≤ l) || decide (32 ≤ q)) = true := by simpa using hn
  rw [this]
  rfl
theorem rising_yes {zs : List Int} {k : Nat} {q l m : Int} (hk : k < zs.length) (hq : zs.getD k 0 = q) (h : risingFrom m zs = risingFrom l (zs.drop k)) (h1 : ¬ q ≤ l) (h2 : ¬ 32 ≤ q) : risingFrom m zs = risingFrom q (zs.drop (k + 1)) := by
  rw [h, drop_at hk hq, risingFrom]
  simp [h1, h2]
theorem rising_end {zs : List Int} {k : Nat} {l m : Int} (hk : ¬ k < zs.length) (h : risingFrom m zs = risingFrom l (zs.drop k)) : risingFrom m zs = true := by
  rw [h, List.drop_of_length_le (by omega)]
  rfl

set_option maxRecDepth 100000 in
set_option maxHeartbeats 400000 in
theorem rising_any (a : Option Addr) (cap : Nat) (zs : List Int) (w : World) (hl : zs.length ≤ maxLen) (hz : IntsAt w.heap.size w a zs) :
    Calls Try.prog 97 #[.slice a zs.length cap] w fun e w' => e = .returned (.bool (risingFrom (-1) zs)) ∧ w' = w := by
  unfold maxLen at hl
  rcases hz with rfl | ⟨b, off, rfl, hb, hc⟩
  · go_enter Try.func97, Try.ntmps97
    go_wp2
    refine wp_loop_rounds 1 ?_; rw [rounds_succ]
    go_wp2
    go_ret
    exact ⟨rfl, rfl⟩
  · go_enter Try.func97, Try.ntmps97
    go_wp2
    go_loop [3, 8] (fun l i => ∃ (k : Nat) (q : Int), k ≤ zs.length ∧ i = .int .i64 k ∧ l = .int .i64 q ∧ Hid (risingFrom (-1) zs = risingFrom q (zs.drop k))) (fun _ i => zs.length - (intOf i).toNat)
    case atStart => exact ⟨0, -1, Nat.zero_le _, rfl, rfl, rfl⟩
    case round =>
      obtain ⟨k, l, hk, rfl, rfl, hno⟩ := hrel
      by_cases hlt : k < zs.length
      · obtain ⟨q, Hq, e0⟩ := IntsAt.at hc hb (Below.refl _ _) hlt
        clear hc
        by_cases t1 : q ≤ l
        · go_wp2
          go_ret
          exact ⟨ret_bool (rising_no hlt Hq.out hno.out (Or.inl t1)).symm, rfl⟩
        · by_cases t2 : 32 ≤ q
          · go_wp2
            go_ret
            exact ⟨ret_bool (rising_no hlt Hq.out hno.out (Or.inr t2)).symm, rfl⟩
          · go_wp2
            go_round
            case rel => exact ⟨k + 1, q, by omega, by go_num, rfl, rising_yes hlt Hq.out hno.out t1 t2⟩
            case measure => simp [intOf]; omega
      · go_wp2
        go_ret
        exact ⟨ret_bool (rising_end hlt hno.out).symm, rfl⟩

end Go.Proofs.Ytkoefoccbjhoiab

namespace Go.Proofs.Ytkoefoccbjhoiab
open Go.RowKit

structure FrameL where
  kind : Int
  node : Int
  id : Int
  ops : List OpL
  deps : List Int
  ats : List Int
  vals : List Int

def byt (n : Int) : UInt8 := UInt8.ofNat (n % 256).toNat
def sixAt (m : Int) : List UInt8 := [byt (m / 1099511627776), byt (m / 4294967296), byt (m / 16777216), byt (m / 65536), byt (m / 256), byt m]
def six (n : Int) : List UInt8 := sixAt (n + 140737488355328)
def encTold : List Int → List Int → List UInt8
  | a :: xs, v :: vs => byt a :: six v ++ encTold xs vs
  | _, _ => []
/-- a reader: what is left, and whether something was lacking -/
structure Rd where
  rest : List UInt8
  short : Bool

/- what was read, if nothing was lacking, stood there -/
/- what stands there is read -/
/- good frames -/
def toldFrom : Int → List Int → List Int → Bool
  | l, a :: xs, v :: vs => !(decide (a ≤ l) || decide (4 ≤ a)) && decide (-1099511627776 ≤ v ∧ v ≤ 1099511627776) && toldFrom a xs vs
  | _, _, _ => true
def goodOpsF (f : FrameL) : Bool := if f.kind = 1 ∨ f.kind = 3 then goodOpsL f.ops else decide (f.ops.length = 0)
def goodDepsF (f : FrameL) : Bool := if f.kind = 2 ∨ f.kind = 3 then risingFrom (-1) f.deps && !hasL f.deps f.id else decide (f.deps.length = 0)
def goodToldF (f : FrameL) : Bool := decide (f.kind = 5 ∨ f.ats.length = 0) && (decide (f.vals.length = f.ats.length) && toldFrom (-1) f.ats f.vals)
def goodL (f : FrameL) : Int :=
  if f.kind < 1 ∨ 5 < f.kind then 3 else if f.node < 0 ∨ 6 ≤ f.node ∨ f.id < 0 ∨ 32 ≤ f.id then 2
  else if goodOpsF f && (goodDepsF f && goodToldF f) then 0 else 1

theorem rising_in : ∀ (zs : List Int) (l : Int), risingFrom l zs = true → (∀ n ∈ zs, l < n ∧ n < 32) ∧ (zs = [] ∨ (zs.length : Int) ≤ 31 - l)
  | [], l, _ => ⟨by simp, Or.inl rfl⟩
  | n :: r, l, h => by
    rw [risingFrom] at h
    simp only [Bool.and_eq_true, Bool.not_eq_true', Bool.or_eq_false_iff, decide_eq_false_iff_not] at h
    obtain ⟨⟨h1, h2⟩, h3⟩ := h
    obtain ⟨i1, i2⟩ := rising_in r n h3
    refine ⟨fun m hm => ?_, Or.inr ?_⟩
    · rcases List.mem_cons.1 hm with rfl | hm
      · omega
      · have := i1 m hm
        omega
    · rcases i2 with rfl | i2
      · simp; omega
      · simp; omega

theorem told_in : ∀ (xs vs : List Int) (l : Int), vs.length = xs.length → toldFrom l xs vs = true → (∀ n ∈ xs, l < n ∧ n < 4) ∧ (∀ n ∈ vs, -1099511627776 ≤ n ∧ n ≤ 1099511627776) ∧ (xs = [] ∨ (xs.length : Int) ≤ 3 - l)
  | [], [], l, _, _ => ⟨by simp, by simp, Or.inl rfl⟩
  | [], _ :: _, _, h, _ => by simp at h
  | _ :: _, [], _, h, _ => by simp at h
  | a :: xs, v :: vs, l, hl, h => by
    rw [toldFrom] at h
    simp only [Bool.and_eq_true, Bool.not_eq_true', Bool.or_eq_false_iff, decide_eq_false_iff_not, decide_eq_true_eq] at h
    obtain ⟨⟨⟨h1, h2⟩, h3⟩, h4⟩ := h
    obtain ⟨i1, i2, i3⟩ := told_in xs vs a (by simpa using hl) h4
    refine ⟨fun m hm => ?_, fun m hm => ?_, Or.inr ?_⟩
    · rcases List.mem_cons.1 hm with rfl | hm
      · omega
      · have := i1 m hm
        omega
    · rcases List.mem_cons.1 hm with rfl | hm
      · omega
      · exact i2 m hm
    · rcases i3 with rfl | i3
      · simp; omega
      · simp; omega

theorem ops_in {zs : List OpL} (h : goodOpsL zs = true) : zs.length ≤ 4 ∧ ∀ o ∈ zs, goodB o = true := by
  unfold goodOpsL at h
  simp only [Bool.and_eq_true, decide_eq_true_eq] at h
  refine ⟨h.1.2, fun o ho => ?_⟩
  obtain ⟨i, hi, rfl⟩ := List.mem_iff_getElem.1 ho
  have := List.all_eq_true.1 h.2 i (List.mem_range.2 hi)
  unfold goodAt at this
  simp only [Bool.and_eq_true] at this
  have e : zs.getD i (0, 0, 0) = zs[i] := by simp [List.getD, hi]
  rw [e] at this
  exact this.1

theorem good_in {f : FrameL} (h : goodL f = 0) : (1 ≤ f.kind ∧ f.kind ≤ 5) ∧ (0 ≤ f.node ∧ f.node < 6) ∧ (0 ≤ f.id ∧ f.id < 32) ∧ (f.ops.length ≤ 4 ∧ ∀ o ∈ f.ops, goodB o = true) ∧
    (f.deps.length ≤ 32 ∧ ∀ n ∈ f.deps, 0 ≤ n ∧ n < 256) ∧ (f.ats.length ≤ 4 ∧ ∀ n ∈ f.ats, 0 ≤ n ∧ n < 256) ∧ f.vals.length = f.ats.length ∧ ∀ n ∈ f.vals, -140737488355328 ≤ n ∧ n < 140737488355328 := by
  unfold goodL at h
  by_cases h1 : f.kind < 1 ∨ 5 < f.kind
  · rw [if_pos h1] at h
    omega
  rw [if_neg h1] at h
  by_cases h2 : f.node < 0 ∨ 6 ≤ f.node ∨ f.id < 0 ∨ 32 ≤ f.id
  · rw [if_pos h2] at h
    omega
  rw [if_neg h2] at h
  by_cases h3 : (goodOpsF f && (goodDepsF f && goodToldF f)) = true
  · simp only [Bool.and_eq_true] at h3
    obtain ⟨g1, g2, g3⟩ := h3
    refine ⟨by omega, by omega, by omega, ?_, ?_, ?_⟩
    · unfold goodOpsF at g1
      split at g1
      · exact ops_in g1
      · have : f.ops = [] := by simpa using g1
        rw [this]
        simp
    · unfold goodDepsF at g2
      split at g2
      · simp only [Bool.and_eq_true] at g2
        obtain ⟨i1, i2⟩ := rising_in _ _ g2.1
        refine ⟨?_, fun n hn => by have := i1 n hn; omega⟩
        rcases i2 with i2 | i2
        · rw [i2]
          simp
        · omega
      · have : f.deps = [] := by simpa using g2
        rw [this]
        simp
    · unfold goodToldF at g3
      simp only [Bool.and_eq_true, decide_eq_true_eq] at g3
      obtain ⟨_, g4, g5⟩ := g3
      obtain ⟨i1, i2, i3⟩ := told_in _ _ _ g4 g5
      refine ⟨⟨?_, fun n hn => by have := i1 n hn; omega⟩, g4, fun n hn => by have := i2 n hn; omega⟩
      rcases i3 with i3 | i3
      · rw [i3]
        simp
      · omega
  · rw [if_neg h3] at h
    omega

/- Decode -/
def zeroF : FrameL := ⟨0, 0, 0, [], [], [], []⟩
end Go.Proofs.Ytkoefoccbjhoiab

namespace Go.Proofs.Ytkoefoccbjhoiab
open Go.RowKit

end Go.Proofs.Ytkoefoccbjhoiab

namespace Go.Proofs.Ytkoefoccbjhoiab
open Go.ChangeShapes Go.WideShapes Go.ChangeAt Go.RowKit Go.Deep

theorem own : ownKnob Try.prog.godebug = none := by kernel_rfl
theorem laidOut : laidOutB Try.prog = true := by kernel_rfl
theorem Try.cellsInt : Try.prog.cellsOf 3 = 1 := by kernel_rfl
theorem Try.bytesInt : Try.prog.bytesOf 3 = 8 := by kernel_rfl

def Fits (x : Int) : Prop := (Lit.int .i64 x).wf = true

theorem add_none {b off j : Nat} : (⟨b, off, none⟩ : Addr).add j = ⟨b, off + j, none⟩ := by
  unfold Addr.add
  split
  · subst_vars; simp
  · simp

theorem lt_of_cell {w : World} {a : Addr} {v : Value} (h : w.cell? a = some v) : a.block < w.heap.size := by
  by_cases hq : a.block < w.heap.size
  · exact hq
  · have hn : w.heap[a.block]? = none := Array.getElem?_eq_none (by omega)
    simp [World.cell?, hn] at h

section
variable {H : Type} {enc : TypeId × Value → H} {P : Program} {w : World} {base : Nat} {spare : Nat → Bool} {held : Bool}

/-- A slice of ints that came in. -/
theorem open_intsAt {t e : TypeId} {fuel : Nat} {a : Option Addr} {len cap : Nat} {x : DataW H × List MemPlace} (ht : P.underlying t = some (.slice e)) (he : P.underlying e = some (.int .i64)) (hc : P.cellsOf e = 1)
    (h : DataW.trod enc P w base spare held fuel t [.slice a len cap] = some x) :
    len ≤ maxLen ∧ ∃ zs : List Int, zs.length = len ∧ IntsAt w.heap.size w a zs ∧ (∀ n ∈ zs, Fits n) ∧ (a = none → len = 0 ∧ cap = 0) ∧ len ≤ cap := by
  rcases open_ints ht he hc h with ⟨hcs, _⟩ | ⟨x, l, c, zs, hcs, _, hl, hm, hz, _, hcell, hwz⟩
  · simp at hcs
    obtain ⟨rfl, rfl, rfl⟩ := hcs
    exact ⟨Nat.zero_le _, [], rfl, Or.inl rfl, by simp, fun _ => ⟨rfl, rfl⟩, Nat.le_refl _⟩
  · simp at hcs
    obtain ⟨rfl, rfl, rfl⟩ := hcs
    have hlen : len ≤ zs.length := by rw [hz]; split <;> omega
    refine ⟨by omega, zs.take len, by simp; omega, ?_, fun n hn => hwz n (List.mem_of_mem_take hn), fun h => by simp at h, hl⟩
    by_cases h0 : len = 0
    · left
      simp [h0]
    · right
      obtain ⟨b, off, spot⟩ := x
      have hc0 := hcell 0 (by omega)
      have hs : spot = none := by simpa [Addr.add] using World.cell?_spot hc0
      subst hs
      refine ⟨b, off, rfl, by simpa [Addr.add] using lt_of_cell hc0, fun i hi => ?_⟩
      have hi' : i < len := by simp at hi; omega
      have := hcell i (by omega)
      rw [add_none] at this
      rw [this]
      simp [List.getD, hi']

/-- What a slice that came in reads as: as many elements as its length. -/
theorem slice_datum {t e : TypeId} {fuel : Nat} {a : Option Addr} {len cap : Nat} {d : DataW H} {p : List MemPlace} (ht : P.underlying t = some (.slice e)) (h : DataW.trod enc P w base spare held fuel t [.slice a len cap] = some (d, p)) :
    len = 0 ∨ ∃ elems sp, d = .slice elems sp ∧ elems.length = len := by
  rcases open_slice ht h with ⟨hcs, _⟩ | ⟨x, l, c, m, n, D, Pl, hcs, hb, hl, hm, hmm, hx, _⟩
  · simp at hcs
    exact Or.inl hcs.2.1
  · simp at hcs
    obtain ⟨rfl, rfl, rfl⟩ := hcs
    simp only [Prod.mk.injEq] at hx
    exact Or.inr ⟨_, _, hx.1, by simp⟩

end

end Go.Proofs.Ytkoefoccbjhoiab

namespace Go.Proofs.Ytkoefoccbjhoiab
open Go.ChangeShapes Go.WideShapes Go.ChangeAt Go.RowKit Go.Deep

theorem Try.cellsOp : Try.prog.cellsOf 108 = 3 := by kernel_rfl

theorem Try.bytesOp : Try.prog.bytesOf 108 = 24 := by kernel_rfl

def FitsOp (o : OpL) : Prop := Fits o.1 ∧ Fits o.2.1 ∧ Fits o.2.2

section
variable {H : Type} {enc : TypeId × Value → H} {P : Program} {w : World} {base : Nat} {spare : Nat → Bool} {held : Bool}

/-- A slice of operations that came in. -/
theorem open_opsAt {t e f : TypeId} {fuel : Nat} {a : Option Addr} {len cap : Nat} {x : DataW H × List MemPlace} {f0 f1 f2 : Field} (ht : P.underlying t = some (.slice e)) (he : P.underlying e = some (.struct #[f0, f1, f2])) (hf : P.underlying f = some (.int .i64))
    (hc : P.cellsOf e = 3) (hcf : P.cellsOf f = 1) (y0 : f0.type = f) (y1 : f1.type = f) (y2 : f2.type = f) (o0 : f0.offset = 0) (o1 : f1.offset = 1) (o2 : f2.offset = 2)
    (h : DataW.trod enc P w base spare held fuel t [.slice a len cap] = some x) :
    len ≤ maxLen ∧ ∃ zs : List OpL, zs.length = len ∧ OpsAt w a zs ∧ (∀ o ∈ zs, FitsOp o) ∧ (a = none → len = 0 ∧ cap = 0) ∧ len ≤ cap := by
  rcases open_slice ht h with ⟨hcs, _⟩ | ⟨x, l, c, m, n, D, Pl, hcs, hb, hl, hm, hmm, _, hx⟩
  · simp at hcs
    obtain ⟨rfl, rfl, rfl⟩ := hcs
    exact ⟨Nat.zero_le _, [], rfl, Or.inl rfl, by simp, fun _ => ⟨rfl, rfl⟩, Nat.le_refl _⟩
  · simp at hcs
    obtain ⟨rfl, rfl, rfl⟩ := hcs
    have hlm : len ≤ m := by rw [hmm]; split <;> omega
    have each : ∀ i, i < len → ∃ q : OpL, w.cell? (x.add (i * 3)) = some (.int .i64 q.1) ∧ w.cell? (x.add (i * 3 + 1)) = some (.int .i64 q.2.1) ∧ w.cell? (x.add (i * 3 + 2)) = some (.int .i64 q.2.2) ∧ FitsOp q := by
      intro i hi
      obtain ⟨cs', h1, h2⟩ := hx i (by omega)
      rw [hc] at h1
      obtain ⟨_, hlen, hcell⟩ := World.cells?_some h1
      obtain ⟨xs, k, hk, hxy, _, hxl, hfs⟩ := DataW.trod_struct he h2
      match xs, hxl, cs', hlen with
      | [z0, z1, z2], _, [v0, v1, v2], _ =>
        have g0 := hfs 0 f0 rfl
        have g1 := hfs 1 f1 rfl
        have g2 := hfs 2 f2 rfl
        simp [y0, y1, y2, o0, o1, o2, hcf] at g0 g1 g2
        obtain ⟨n0, r0, _, q0⟩ := DataW.trod_int hf g0
        obtain ⟨n1, r1, _, q1⟩ := DataW.trod_int hf g1
        obtain ⟨n2, r2, _, q2⟩ := DataW.trod_int hf g2
        simp at r0 r1 r2
        subst r0 r1 r2
        have e0 := hcell 0 (by omega)
        have e1 := hcell 1 (by omega)
        have e2 := hcell 2 (by omega)
        rw [add_add] at e0 e1 e2
        exact ⟨(n0, n1, n2), by simpa using e0, by simpa using e1, by simpa using e2, q0, q1, q2⟩
    obtain ⟨Q, hQ⟩ := choose_lt each
    refine ⟨by omega, (List.range len).map Q, by simp, ?_, ?_, fun h => by simp at h, hl⟩
    · by_cases h0 : len = 0
      · left
        simp [h0]
      · right
        obtain ⟨b, off, spot⟩ := x
        have hc0 := (hQ 0 (by omega)).1
        have hs : spot = none := by simpa [Addr.add] using World.cell?_spot hc0
        subst hs
        refine ⟨b, off, rfl, by simpa [Addr.add] using lt_of_cell hc0, fun i hi => ?_⟩
        have hi' : i < len := by simpa using hi
        obtain ⟨t0, t1, t2, _⟩ := hQ i hi'
        rw [add_none] at t0 t1 t2
        have hg : ((List.range len).map Q).getD i (0, 0, 0) = Q i := by simp [List.getD, hi']
        rw [hg]
        exact ⟨t0, t1, t2⟩
    · intro o ho
      obtain ⟨i, hi, rfl⟩ := List.mem_map.1 ho
      exact (hQ i (List.mem_range.1 hi)).2.2.2

end

end Go.Proofs.Ytkoefoccbjhoiab

namespace Go.Proofs.Ytkoefoccbjhoiab
open Go.RowKit

theorem Try.infoOp : (Try.prog.info? 108).map (fun i => (i.zero, i.size, i.bytes)) = some (some (.agg #[.int .i64 0, .int .i64 0, .int .i64 0]), 3, 24) := by kernel_rfl

/-- A frame's seven cells at block b. -/
def FAt (w : World) (b : Nat) (a0 a1 a2 : Int) (v3 v4 v5 v6 : Value) : Prop := ∃ t, w.heap[b]? = some (.cells #[.int .i64 a0, .int .i64 a1, .int .i64 a2, v3, v4, v5, v6] t (0, 0))

section
variable {w w' : World} {b : Nat} {a0 a1 a2 : Int} {v3 v4 v5 v6 : Value}
theorem FAt.cell (h : FAt w b a0 a1 a2 v3 v4 v5 v6) :
    w.cell? ⟨b, 0, none⟩ = some (.int .i64 a0) ∧ w.cell? ⟨b, 1, none⟩ = some (.int .i64 a1) ∧ w.cell? ⟨b, 2, none⟩ = some (.int .i64 a2) ∧
    w.cell? ⟨b, 3, none⟩ = some v3 ∧ w.cell? ⟨b, 4, none⟩ = some v4 ∧ w.cell? ⟨b, 5, none⟩ = some v5 ∧ w.cell? ⟨b, 6, none⟩ = some v6 := by
  obtain ⟨t, h⟩ := h
  refine ⟨?_, ?_, ?_, ?_, ?_, ?_, ?_⟩ <;> (rw [cell_of_row w b _ _ t _ h]; rfl)
theorem FAt.frozen (h : FAt w b a0 a1 a2 v3 v4 v5 v6) (i : Nat) : w.frozen? ⟨b, i, none⟩ = false := by
  obtain ⟨t, h⟩ := h
  exact frozen_of_row w b i _ t h
theorem FAt.block (h : FAt w b a0 a1 a2 v3 v4 v5 v6) (e : w'.heap[b]? = w.heap[b]?) : FAt w' b a0 a1 a2 v3 v4 v5 v6 := by
  obtain ⟨t, h⟩ := h
  exact ⟨t, by rw [e]; exact h⟩
theorem FAt.lt (h : FAt w b a0 a1 a2 v3 v4 v5 v6) : b < w.heap.size := by
  obtain ⟨t, h⟩ := h
  exact (Array.getElem?_eq_some_iff.1 h).1
theorem FAt.put3 (h : FAt w b a0 a1 a2 v3 v4 v5 v6) (v : Value) : FAt (w.setCell ⟨b, 3, none⟩ v) b a0 a1 a2 v v4 v5 v6 := by
  obtain ⟨t, h⟩ := h
  exact ⟨t, by rw [heap_setCell_same w b 3 _ t _ h]; rfl⟩
theorem FAt.put4 (h : FAt w b a0 a1 a2 v3 v4 v5 v6) (v : Value) : FAt (w.setCell ⟨b, 4, none⟩ v) b a0 a1 a2 v3 v v5 v6 := by
  obtain ⟨t, h⟩ := h
  exact ⟨t, by rw [heap_setCell_same w b 4 _ t _ h]; rfl⟩
theorem FAt.put5 (h : FAt w b a0 a1 a2 v3 v4 v5 v6) (v : Value) : FAt (w.setCell ⟨b, 5, none⟩ v) b a0 a1 a2 v3 v4 v v6 := by
  obtain ⟨t, h⟩ := h
  exact ⟨t, by rw [heap_setCell_same w b 5 _ t _ h]; rfl⟩
theorem FAt.put6 (h : FAt w b a0 a1 a2 v3 v4 v5 v6) (v : Value) : FAt (w.setCell ⟨b, 6, none⟩ v) b a0 a1 a2 v3 v4 v5 v := by
  obtain ⟨t, h⟩ := h
  exact ⟨t, by rw [heap_setCell_same w b 6 _ t _ h]; rfl⟩
end

section
variable {w wr w1 : World} {c B2 B3 : Nat} {a0 a1 a2 : Int} {rk rj : Rd} {v3 v4 v5 v6 : Value}
end

def opCells (o : OpL) : List Value := [.int .i64 o.1, .int .i64 o.2.1, .int .i64 o.2.2]
def opsCells (zs : List OpL) : List Value := zs.flatMap opCells
theorem alloc_size (w : World) (o : Obj) : (w.alloc o).heap.size = w.heap.size + 1 := by simp
theorem one_op (o : OpL) : ∀ u ∈ opCells o, u.oneCell' = true := by simp [opCells, Value.oneCell']
theorem own_put {x : World} {b c o : Nat} {e : TypeId} {size : Nat} {v u : Value} {n : Nat} {xs : List Value} (h : x.ownsRow b e size v n xs) (hc : c < b) : (x.setCell ⟨c, o, none⟩ u).ownsRow b e size v n xs :=
  ownsRow_setCell_below h hc u
def SlOps (w : World) (a : Option Addr) (cap : Nat) (zs : List OpL) : Prop := OpsAt w a zs ∧ zs.length ≤ maxLen ∧ zs.length ≤ cap ∧ (a = none → zs.length = 0 ∧ cap = 0)
/-- A value that is a frame. -/
def FrameV (w : World) (v : Value) (f : FrameL) : Prop := ∃ a3 c3 a4 c4 a5 c5 a6 c6,
  v = .agg #[.int .i64 f.kind, .int .i64 f.node, .int .i64 f.id, .slice a3 f.ops.length c3, .slice a4 f.deps.length c4, .slice a5 f.ats.length c5, .slice a6 f.vals.length c6] ∧
  SlOps w a3 c3 f.ops ∧ SlInts w a4 c4 f.deps ∧ SlInts w a5 c5 f.ats ∧ SlInts w a6 c6 f.vals
theorem SlOps.later {w w' : World} {a : Option Addr} {cap : Nat} {zs : List OpL} (h : SlOps w a cap zs) (hb : Below w.heap.size w w') : SlOps w' a cap zs :=
  ⟨h.1.later hb, h.2⟩
theorem FrameV.later {w w' : World} {v : Value} {f : FrameL} (h : FrameV w v f) (hb : Below w.heap.size w w') : FrameV w' v f := by
  obtain ⟨a3, c3, a4, c4, a5, c5, a6, c6, e, h3, h4, h5, h6⟩ := h
  exact ⟨a3, c3, a4, c4, a5, c5, a6, c6, e, h3.later hb, h4.later hb, h5.later hb, h6.later hb⟩

theorem opsCells_len (zs : List OpL) : (opsCells zs).length = zs.length * 3 := by
  induction zs with
  | nil => rfl
  | cons o zs ih => simp [opsCells, opCells] at *; omega
theorem opsCells_get : ∀ (zs : List OpL) (i : Nat), i < zs.length → (opsCells zs)[i * 3]? = some (.int .i64 (zs.getD i (0, 0, 0)).1) ∧ (opsCells zs)[i * 3 + 1]? = some (.int .i64 (zs.getD i (0, 0, 0)).2.1) ∧ (opsCells zs)[i * 3 + 2]? = some (.int .i64 (zs.getD i (0, 0, 0)).2.2)
  | [], i, h => by simp at h
  | o :: zs, 0, _ => by simp [opsCells, opCells]
  | o :: zs, i + 1, h => by
    have ih := opsCells_get zs i (by simpa using h)
    have e : opsCells (o :: zs) = .int .i64 o.1 :: .int .i64 o.2.1 :: .int .i64 o.2.2 :: opsCells zs := by simp [opsCells, opCells]
    have n0 : (i + 1) * 3 = i * 3 + 1 + 1 + 1 := by omega
    have n1 : (i + 1) * 3 + 1 = (i * 3 + 1) + 1 + 1 + 1 := by omega
    have n2 : (i + 1) * 3 + 2 = (i * 3 + 2) + 1 + 1 + 1 := by omega
    rw [e, n1, n2, n0]
    simpa using ih
theorem SlOps.of_owns {w : World} {b : Nat} {e : TypeId} {a : Option Addr} {cap : Nat} {zs : List OpL} (h : w.ownsRow b e 3 (.slice a zs.length cap) zs.length (opsCells zs)) : SlOps w a cap zs := by
  obtain ⟨a2, c2, h1, h2, h3⟩ := own_form h
  simp at h1
  obtain ⟨rfl, rfl⟩ := h1
  rcases h.2 with ⟨_, h0⟩ | ⟨g, c, cur, hs, hg, hh, h5, h6, h7, h8⟩
  · exact ⟨Or.inl (List.eq_nil_of_length_eq_zero h0), by rw [h0]; exact Nat.zero_le _, h2, h3⟩
  · simp at hs
    obtain ⟨rfl, rfl⟩ := hs
    refine ⟨Or.inr ⟨g, 0, rfl, (Array.getElem?_eq_some_iff.1 hh).1, fun i hi => ?_⟩, by omega, h2, h3⟩
    have key : ∀ j, j < zs.length * 3 → w.cell? ⟨g, 0 + j, none⟩ = (opsCells zs)[j]? := fun j hj => by
      rw [cell_of_row w g (0 + j) cur e _ hh, ← h8, List.getElem?_take_of_lt hj, Nat.zero_add]
      simp
    have := opsCells_get zs i hi
    rw [← key _ (by omega), ← key _ (by omega), ← key _ (by omega)] at this
    simpa [Nat.add_assoc] using this

def put7 (w : World) (b : Nat) (x0 x1 x2 x3 x4 x5 x6 : Value) : World :=
  ((((((w.setCell ⟨b, 0, none⟩ x0).setCell ⟨b, 1, none⟩ x1).setCell ⟨b, 2, none⟩ x2).setCell ⟨b, 3, none⟩ x3).setCell ⟨b, 4, none⟩ x4).setCell ⟨b, 5, none⟩ x5).setCell ⟨b, 6, none⟩ x6
theorem put7_own {w : World} {b : Nat} {x0 x1 x2 x3 x4 x5 x6 : Value} {base : Nat} {e : TypeId} {size : Nat} {v : Value} {n : Nat} {xs : List Value} (h : w.ownsRow base e size v n xs) (hb : b < base) : (put7 w b x0 x1 x2 x3 x4 x5 x6).ownsRow base e size v n xs :=
  own_put (own_put (own_put (own_put (own_put (own_put (own_put h hb) hb) hb) hb) hb) hb) hb
/-- No slice of the value lies below block b. -/
def FarV (b : Nat) (v : Value) : Prop := ∀ (cs : Array Value), v = .agg cs → ∀ (i : Nat) (x : Addr) (n c : Nat), cs[i]? = some (Value.slice (some x) n c) → b ≤ x.block
theorem far_of {w : World} {base b : Nat} {e : TypeId} {size n m : Nat} {a : Option Addr} {cap : Nat} {xs : List Value} (h : w.ownsRow base e size (.slice a n cap) m xs) (hb : b ≤ base) {x : Addr} (hx : a = some x) : b ≤ x.block := by
  subst hx
  have := (h.lt x.block rfl).1
  omega

end Go.Proofs.Ytkoefoccbjhoiab
