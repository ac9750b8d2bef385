/-
  Cells and rows of memory: small facts that all walks use.
  The contracts of the small functions of package txn (Shard, Of, nearest, Do): what each returns at every number, the old memory as it was.
  The contracts of package txn's functions on lists of operations (meets, Conflict, Touches).
  The contracts of goodOp and GoodOps, and of the document's own IsOps.
  The contracts of Rising and of the statements' own 'has', and what holds of the union.
  Plain mathematics of our own: a frame as bytes, and the reader that takes one off the front of bytes.
  The contracts of package wire's reader: small and wide, behind a pointer.
  How a slice of ints that came in is read: its elements, and where they lie.
  How a slice of operations, or of ints, that came in is read: its elements' numbers, and where they lie.
  The state of the reading of a frame: where the reader, the frame under way and its lists lie.
  Values that are lists of ints, or of operations, and where they lie.
  The contracts of the small functions of package graph.
  The contracts of package graph's include and ahead, and of slices.Index over ints.
-/
import Derived.Test.YtkoefoccbjhoiacGreatNil1
import Derived.Deep.RegionHeld3
import Derived.Deep.Cut
import Derived.Deep.CutRange
import Derived.Lib.Strings
import Derived.Laws.BitsLemmas
import Derived.ProofKit
import Derived.OpenShut
import Derived.ShutString
import Derived.ChangeOld
import Derived.Below
import Derived.Deep.Slices
import Derived.Deep.AppendLies
namespace Go.Proofs.YtkoefoccbjhoiacGreat
open Go.RowKit

theorem bools_len (n : Nat) (S : Nat → Bool) : (bools n S).toList.length = n := by simp [bools]
theorem bools_one (n : Nat) (S : Nat → Bool) : ∀ v ∈ (bools n S).toList, v.oneCell' = true := by
  intro v hv
  simp [bools] at hv
  obtain ⟨i, _, rfl⟩ := hv
  rfl
/-- In a region that only reads: a load of many cells. -/
theorem wpQuiet_load_mid {P : Program} {ops : Array Oper} {w0 : World} {Q : Act → Prop} {a : Act} {o : Oper} {rest : List Oper} (hw : Region.wanted o (yielded ops a.tmps) = true) (ty : TypeId) (x : Operand) (ho : o.op = .load ty x)
    (b off : Nat) (hx : a.eval x = .pointer (some ⟨b, off, none⟩)) (cs : List Value) (d : TypeDesc) (hc : w0.rangeAt b off cs) (hu : P.underlying ty = some d) (hd : d.isRow = true) (hi : (P.info? ty).map (·.size) = some cs.length)
    (h : wpQuiet P ops (fun w' => ∃ n, w' = w0.drewN n) Q rest (a.put o.dst (.agg cs.toArray))) : wpQuiet P ops (fun w' => ∃ n, w' = w0.drewN n) Q (o :: rest) a := by
  unfold wpQuiet
  rw [if_pos hw]
  refine ⟨.agg cs.toArray, ?_, h⟩
  rintro w' ⟨n, rfl⟩
  unfold Oper.quietAt execOp
  simp only [ho, hx, Instr.loadAt, Instr.sureAddr, Sem.run_bind, Sem.run_pure, Result.andThen_ok, run_loadVar_mid (w0.drewN n) b off ty cs d hc hu hd hi]
  exact ⟨rfl, rfl⟩
theorem size_push (w : World) (o : Obj) : (w.alloc o).heap.size = w.heap.size + 1 := by show (w.heap.push o).size = _; simp
theorem grown_alloc {w w1 : World} {row : Option Nat} (h : w.grownBy w1 row) (o : Obj) : w.grownBy (w1.alloc o) row :=
  ⟨h.os, h.tape, h.output, by have := h.size; rw [size_push]; omega, fun k hk hr => by rw [Below.heap_alloc _ _ _ (by have := h.size; omega)]; exact h.block k hk hr⟩
theorem grown_put_same {w w1 : World} {c : Nat} (h : w.grownBy w1 (some c)) (o : Nat) (u : Value) : w.grownBy (w1.setCell ⟨c, o, none⟩ u) (some c) :=
  ⟨h.os, h.tape, h.output, by have := h.size; simpa [World.setCell] using this, fun k hk hr => by rw [Below.heap_setCell _ _ _ _ (fun e => hr (by rw [e]))]; exact h.block k hk hr⟩
theorem bools_all (n : Nat) (S : Nat → Bool) : (bools n S).all (·.oneCell') = true := by
  have := all_oneCell_toArray (bools_one n S)
  simpa using this
theorem two_rows (w : World) (A B : Obj) : ((w.alloc A).alloc B).heap[w.heap.size]? = some A ∧ ((w.alloc A).alloc B).heap[w.heap.size + 1]? = some B :=
  ⟨heap_alloc2_old w A B, heap_alloc2_new w A B⟩
theorem setRow_below {B : Nat} {a w : World} (h : Below B a w) {g : Nat} (hg : B ≤ g) (cs : Array Value) : Below B a (w.setRow g cs) :=
  ⟨h.os, h.tape, h.output, by rw [size_setRow]; exact h.size, fun k hk => by
    rw [← h.block k hk]
    simp [World.setRow, Array.getElem?_modify]
    intro e; omega⟩
theorem heap_setRow {w : World} {g : Nat} {old cs : Array Value} {t : TypeId} {fr : Nat × Nat} (h : w.heap[g]? = some (.cells old t fr)) : (w.setRow g cs).heap[g]? = some (.cells cs t fr) := by
  simp [World.setRow, Array.getElem?_modify, h]
/-- 'wpAnyH_take', the slot that is written named. -/
theorem wpAnyH_takeD {P : Program} {md : Region.Mode} {ops : Array Oper} {Q : Exit → Act → World → Prop} {S : World → Prop} {i : Nat} {oi : Oper} {d : Option Tmp} {v : Value} {fuel : Nat} {listed : Array Bool} {a : Act} {w : World} (hi : ops[i]? = some oi) (hd : oi.dst = d)
    (hs : Region.noSelect ops = true) (hf : Region.free md ops listed i = true) (hr : (Region.ready md ops listed).contains i = true)
    (hQ : ∀ c a w, Q (.panic c) (a.put oi.dst v) w → Q (.panic c) a w) (hy : YieldsIf P ops S oi v a) (hS : S w)
    (h : wpAnyH P md ops Q S fuel (listed.setIfInBounds i true) (a.put d v) w) : wpAnyH P md ops Q S (fuel + 1) listed a w :=
  wpAnyH_take hi hs hf hr hQ hy hS (by rw [hd]; exact h)

end Go.Proofs.YtkoefoccbjhoiacGreat

namespace Go.Proofs.YtkoefoccbjhoiacGreat
open Go.RowKit

def ofL (k : Int) : Int := if k < 3 then 0 else 1

def near (n : Int) : Int := if n < -1099511627776 then -1099511627776 else if 1099511627776 < n then 1099511627776 else n
theorem near_lo (n : Int) : -1099511627776 ≤ near n := by
  unfold near; split
  · omega
  · split <;> omega
theorem near_hi (n : Int) : near n ≤ 1099511627776 := by
  unfold near; split
  · omega
  · split <;> omega

def doL (v kind n : Int) : Int := if kind = 2 then near n else if kind = 3 then near (near v + near n) else near v

end Go.Proofs.YtkoefoccbjhoiacGreat

namespace Go.Proofs.YtkoefoccbjhoiacGreat
open Go.RowKit

/-- an operation: kind, key, N -/
abbrev OpL := Int × Int × Int

/-- A slice of operations that lies in memory: nothing, or its cells, three an element. -/
def OpsAt (w : World) (a : Option Addr) (zs : List OpL) : Prop :=
  zs = [] ∨ ∃ b off, a = some ⟨b, off, none⟩ ∧ b < w.heap.size ∧ ∀ i, i < zs.length → w.cell? ⟨b, off + i * 3, none⟩ = some (.int .i64 (zs.getD i (0, 0, 0)).1) ∧
    w.cell? ⟨b, off + i * 3 + 1, none⟩ = some (.int .i64 (zs.getD i (0, 0, 0)).2.1) ∧ w.cell? ⟨b, off + i * 3 + 2, none⟩ = some (.int .i64 (zs.getD i (0, 0, 0)).2.2)

theorem OpsAt.later {w w' : World} {a : Option Addr} {zs : List OpL} (h : OpsAt w a zs) (hB : Below w.heap.size w w') : OpsAt w' a zs := by
  rcases h with h | ⟨b, off, ha, hb, hc⟩
  · exact Or.inl h
  · refine Or.inr ⟨b, off, ha, Nat.lt_of_lt_of_le hb hB.size, fun i hi => ?_⟩
    rw [hB.cell (p := ⟨b, off + i * 3, none⟩) hb, hB.cell (p := ⟨b, off + i * 3 + 1, none⟩) hb, hB.cell (p := ⟨b, off + i * 3 + 2, none⟩) hb]
    exact hc i hi

/-- the element at k, in a later world -/
theorem OpsAt.at {w wr : World} {B b off : Nat} {zs : List OpL} (hc : ∀ i, i < zs.length → w.cell? ⟨b, off + i * 3, none⟩ = some (.int .i64 (zs.getD i (0, 0, 0)).1) ∧
    w.cell? ⟨b, off + i * 3 + 1, none⟩ = some (.int .i64 (zs.getD i (0, 0, 0)).2.1) ∧ w.cell? ⟨b, off + i * 3 + 2, none⟩ = some (.int .i64 (zs.getD i (0, 0, 0)).2.2))
    (hb : b < B) (hB : Below B w wr) {k : Nat} (hk : k < zs.length) :
    ∃ q0 q1 q2 : Int, Hid (zs.getD k (0, 0, 0) = (q0, q1, q2)) ∧ wr.cell? ⟨b, off + k * 3, none⟩ = some (.int .i64 q0) ∧ wr.cell? ⟨b, off + k * 3 + 1, none⟩ = some (.int .i64 q1) ∧ wr.cell? ⟨b, off + k * 3 + 2, none⟩ = some (.int .i64 q2) := by
  refine ⟨_, _, _, rfl, ?_⟩
  rw [hB.cell (p := ⟨b, off + k * 3, none⟩) hb, hB.cell (p := ⟨b, off + k * 3 + 1, none⟩) hb, hB.cell (p := ⟨b, off + k * 3 + 2, none⟩) hb]
  exact hc k hk

def meetB (o p : OpL) : Bool := o.2.1 == p.2.1 && (o.1 != 1 || p.1 != 1)
def meetsL (o : OpL) (zs : List OpL) : Bool := zs.any (meetB o)

def touchB (s : Int) (o : OpL) : Bool := o.2.1 % 2 == s
def touchesL (zs : List OpL) (s : Int) : Bool := zs.any (touchB s)

def conflictB (b : List OpL) (s : Int) (o : OpL) : Bool := o.2.1 % 2 == s && meetsL o b
def conflictL (a b : List OpL) (s : Int) : Bool := a.any (conflictB b s)

end Go.Proofs.YtkoefoccbjhoiacGreat

namespace Go.Proofs.YtkoefoccbjhoiacGreat
open Go.RowKit

def goodB (o : OpL) : Bool := decide (0 ≤ o.2.1 ∧ o.2.1 < 8 ∧ (o.1 = 1 ∧ o.2.2 = 0 ∨ (o.1 = 2 ∨ o.1 = 3) ∧ -1099511627776 ≤ o.2.2 ∧ o.2.2 ≤ 1099511627776))

def keyB (k : Int) (p : OpL) : Bool := p.2.1 == k
/-- the k-th is good, and none ahead of it has its key -/
def goodAt (zs : List OpL) (k : Nat) : Bool := goodB (zs.getD k (0, 0, 0)) && !(zs.take k).any (keyB (zs.getD k (0, 0, 0)).2.1)
def goodOpsL (zs : List OpL) : Bool := decide (1 ≤ zs.length ∧ zs.length ≤ 4) && (List.range zs.length).all (goodAt zs)

theorem SetAt.later {n : Nat} {w w' : World} {c B : Nat} {S : Nat → Bool} (h : SetAt n w c S) (hB : Below B w w') (hc : c < B) : SetAt n w' c S := by
  obtain ⟨t, h⟩ := h
  exact ⟨t, by rw [hB.block c hc]; exact h⟩

end Go.Proofs.YtkoefoccbjhoiacGreat

namespace Go.Proofs.YtkoefoccbjhoiacGreat
open Go.RowKit

def risingFrom : Int → List Int → Bool
  | _, [] => true
  | l, n :: r => !(decide (n ≤ l) || decide (32 ≤ n)) && risingFrom n r

end Go.Proofs.YtkoefoccbjhoiacGreat

namespace Go.Proofs.YtkoefoccbjhoiacGreat
open Go.RowKit

structure FrameL where
  kind : Int
  node : Int
  id : Int
  ops : List OpL
  deps : List Int
  ats : List Int
  vals : List Int

def byt (n : Int) : UInt8 := UInt8.ofNat (n % 256).toNat
theorem byt_nat {n : Int} (h : 0 ≤ n) (h' : n < 256) : ((byt n).toNat : Int) = n := by
  unfold byt
  rw [UInt8.toNat_ofNat']
  omega
theorem byt_mod (n : Int) : byt (n % 256) = byt n := by unfold byt; rw [Int.emod_emod_of_dvd _ (by decide)]

def sixAt (m : Int) : List UInt8 := [byt (m / 1099511627776), byt (m / 4294967296), byt (m / 16777216), byt (m / 65536), byt (m / 256), byt m]
def six (n : Int) : List UInt8 := sixAt (n + 140737488355328)
theorem six_len (n : Int) : (six n).length = 6 := rfl

def encOps (zs : List OpL) : List UInt8 := zs.flatMap fun o => byt o.1 :: byt o.2.1 :: six o.2.2
def encNums (zs : List Int) : List UInt8 := zs.map byt
def encTold : List Int → List Int → List UInt8
  | a :: xs, v :: vs => byt a :: six v ++ encTold xs vs
  | _, _ => []
def encL (f : FrameL) : List UInt8 :=
  [byt f.kind, byt f.node, byt f.id, byt f.ops.length] ++ encOps f.ops ++ [byt f.deps.length] ++ encNums f.deps ++ [byt f.ats.length] ++ encTold f.ats f.vals

/-- a reader: what is left, and whether something was lacking -/
structure Rd where
  rest : List UInt8
  short : Bool

def Rd.one (r : Rd) : Int := match r.rest with | [] => 0 | c :: _ => (c.toNat : Int)
def Rd.next (r : Rd) : Rd := match r.rest with | [] => ⟨[], true⟩ | _ :: t => ⟨t, r.short⟩
def Rd.after : Nat → Rd → Rd
  | 0, r => r
  | k + 1, r => Rd.after k r.next
def Rd.num : Nat → Int → Rd → Int
  | 0, n, _ => n
  | k + 1, n, r => Rd.num k (n * 256 + r.one) r.next
def Rd.wide (r : Rd) : Int := Rd.num 6 0 r - 140737488355328
def Rd.next6 (r : Rd) : Rd := Rd.after 6 r

def Rd.ops : Nat → Rd → List OpL × Rd
  | 0, r => ([], r)
  | k + 1, r => ((r.one, r.next.one, r.next.next.wide) :: (Rd.ops k r.next.next.next6).1, (Rd.ops k r.next.next.next6).2)
def Rd.nums : Nat → Rd → List Int × Rd
  | 0, r => ([], r)
  | k + 1, r => (r.one :: (Rd.nums k r.next).1, (Rd.nums k r.next).2)
def Rd.told : Nat → Rd → List Int × List Int × Rd
  | 0, r => ([], [], r)
  | k + 1, r => (r.one :: (Rd.told k r.next.next6).1, r.next.wide :: (Rd.told k r.next.next6).2.1, (Rd.told k r.next.next6).2.2)

/-- the reader's road: behind the head, behind the operations, behind what stands ahead, behind what is told -/
def Rd.r1 (r : Rd) : Rd := r.next.next.next
def Rd.o1 (r : Rd) : List OpL × Rd := Rd.ops r.r1.one.toNat r.r1.next
def Rd.d1 (r : Rd) : List Int × Rd := Rd.nums r.o1.2.one.toNat r.o1.2.next
def Rd.t1 (r : Rd) : List Int × List Int × Rd := Rd.told r.d1.2.one.toNat r.d1.2.next
def Rd.frame (r : Rd) : FrameL := ⟨r.one, r.next.one, r.next.next.one, r.o1.1, r.d1.1, r.t1.1, r.t1.2.1⟩
def Rd.end_ (r : Rd) : Rd := r.t1.2.2

/- what was read, if nothing was lacking, stood there -/
/- what stands there is read -/
theorem Rd.next_put (c : UInt8) (t : List UInt8) : (⟨c :: t, false⟩ : Rd).next = ⟨t, false⟩ := rfl
theorem Rd.one_put {n : Int} (h : 0 ≤ n) (h' : n < 256) (t : List UInt8) : (⟨byt n :: t, false⟩ : Rd).one = n := by
  show ((byt n).toNat : Int) = n
  exact byt_nat h h'
theorem Rd.six_put {n : Int} (h : -140737488355328 ≤ n) (h' : n < 140737488355328) (t : List UInt8) : (⟨six n ++ t, false⟩ : Rd).wide = n ∧ (⟨six n ++ t, false⟩ : Rd).next6 = ⟨t, false⟩ := by
  refine ⟨?_, rfl⟩
  have one : ∀ (x : Int) (t : List UInt8), (⟨byt x :: t, false⟩ : Rd).one = x % 256 := fun x t => by rw [← byt_mod x]; exact Rd.one_put (by omega) (by omega) t
  simp only [Rd.wide, Rd.num, six, sixAt, List.cons_append, List.nil_append, Rd.next_put, one]
  omega

theorem encOps_cons (o : OpL) (zs : List OpL) : encOps (o :: zs) = byt o.1 :: byt o.2.1 :: six o.2.2 ++ encOps zs := by simp [encOps]
theorem Rd.ops_put : ∀ (zs : List OpL) (t : List UInt8), (∀ o ∈ zs, goodB o = true) → Rd.ops zs.length ⟨encOps zs ++ t, false⟩ = (zs, ⟨t, false⟩)
  | [], t, _ => rfl
  | (k, y, n) :: zs, t, h => by
    have h0 := h (k, y, n) (by simp)
    unfold goodB at h0
    simp only [decide_eq_true_eq] at h0
    have ih := Rd.ops_put zs t (fun p hp => h p (by simp [hp]))
    obtain ⟨s1, s2⟩ := Rd.six_put (n := n) (by omega) (by omega) (encOps zs ++ t)
    rw [encOps_cons]
    simp only [List.length_cons, Rd.ops, List.cons_append, List.append_assoc, Rd.next_put]
    rw [Rd.one_put (by omega) (by omega), Rd.one_put (by omega) (by omega), s1, s2, ih]

theorem Rd.nums_put : ∀ (zs : List Int) (t : List UInt8), (∀ n ∈ zs, 0 ≤ n ∧ n < 256) → Rd.nums zs.length ⟨encNums zs ++ t, false⟩ = (zs, ⟨t, false⟩)
  | [], t, _ => rfl
  | n :: zs, t, h => by
    have h0 := h n (by simp)
    have ih := Rd.nums_put zs t (fun p hp => h p (by simp [hp]))
    show Rd.nums (zs.length + 1) ⟨byt n :: (encNums zs ++ t), false⟩ = _
    simp only [Rd.nums, Rd.next_put]
    rw [Rd.one_put h0.1 h0.2, ih]

theorem Rd.told_put : ∀ (xs vs : List Int) (t : List UInt8), vs.length = xs.length → (∀ n ∈ xs, 0 ≤ n ∧ n < 256) → (∀ n ∈ vs, -140737488355328 ≤ n ∧ n < 140737488355328) → Rd.told xs.length ⟨encTold xs vs ++ t, false⟩ = (xs, vs, ⟨t, false⟩)
  | [], [], t, _, _, _ => rfl
  | [], _ :: _, _, h, _, _ => by simp at h
  | _ :: _, [], _, h, _, _ => by simp at h
  | a :: xs, v :: vs, t, h, ha, hv => by
    have h0 := ha a (by simp)
    have h1 := hv v (by simp)
    have ih := Rd.told_put xs vs t (by simpa using h) (fun p hp => ha p (by simp [hp])) (fun p hp => hv p (by simp [hp]))
    obtain ⟨s1, s2⟩ := Rd.six_put (n := v) h1.1 h1.2 (encTold xs vs ++ t)
    show Rd.told (xs.length + 1) ⟨byt a :: six v ++ encTold xs vs ++ t, false⟩ = _
    simp only [Rd.told, List.cons_append, List.append_assoc, Rd.next_put]
    rw [Rd.one_put h0.1 h0.2, s1, s2, ih]

/- good frames -/
def toldFrom : Int → List Int → List Int → Bool
  | l, a :: xs, v :: vs => !(decide (a ≤ l) || decide (4 ≤ a)) && decide (-1099511627776 ≤ v ∧ v ≤ 1099511627776) && toldFrom a xs vs
  | _, _, _ => true
def goodOpsF (f : FrameL) : Bool := if f.kind = 1 ∨ f.kind = 3 then goodOpsL f.ops else decide (f.ops.length = 0)
def goodDepsF (f : FrameL) : Bool := if f.kind = 2 ∨ f.kind = 3 then risingFrom (-1) f.deps && !hasL f.deps f.id else decide (f.deps.length = 0)
def goodToldF (f : FrameL) : Bool := decide (f.kind = 5 ∨ f.ats.length = 0) && (decide (f.vals.length = f.ats.length) && toldFrom (-1) f.ats f.vals)
def goodL (f : FrameL) : Int :=
  if f.kind < 1 ∨ 5 < f.kind then 3 else if f.node < 0 ∨ 6 ≤ f.node ∨ f.id < 0 ∨ 32 ≤ f.id then 2
  else if goodOpsF f && (goodDepsF f && goodToldF f) then 0 else 1

theorem rising_in : ∀ (zs : List Int) (l : Int), risingFrom l zs = true → (∀ n ∈ zs, l < n ∧ n < 32) ∧ (zs = [] ∨ (zs.length : Int) ≤ 31 - l)
  | [], l, _ => ⟨by simp, Or.inl rfl⟩
  | n :: r, l, h => by
    rw [risingFrom] at h
    simp only [Bool.and_eq_true, Bool.not_eq_true', Bool.or_eq_false_iff, decide_eq_false_iff_not] at h
    obtain ⟨⟨h1, h2⟩, h3⟩ := h
    obtain ⟨i1, i2⟩ := rising_in r n h3
    refine ⟨fun m hm => ?_, Or.inr ?_⟩
    · rcases List.mem_cons.1 hm with rfl | hm
      · omega
      · have := i1 m hm
        omega
    · rcases i2 with rfl | i2
      · simp; omega
      · simp; omega

theorem told_in : ∀ (xs vs : List Int) (l : Int), vs.length = xs.length → toldFrom l xs vs = true → (∀ n ∈ xs, l < n ∧ n < 4) ∧ (∀ n ∈ vs, -1099511627776 ≤ n ∧ n ≤ 1099511627776) ∧ (xs = [] ∨ (xs.length : Int) ≤ 3 - l)
  | [], [], l, _, _ => ⟨by simp, by simp, Or.inl rfl⟩
  | [], _ :: _, _, h, _ => by simp at h
  | _ :: _, [], _, h, _ => by simp at h
  | a :: xs, v :: vs, l, hl, h => by
    rw [toldFrom] at h
    simp only [Bool.and_eq_true, Bool.not_eq_true', Bool.or_eq_false_iff, decide_eq_false_iff_not, decide_eq_true_eq] at h
    obtain ⟨⟨⟨h1, h2⟩, h3⟩, h4⟩ := h
    obtain ⟨i1, i2, i3⟩ := told_in xs vs a (by simpa using hl) h4
    refine ⟨fun m hm => ?_, fun m hm => ?_, Or.inr ?_⟩
    · rcases List.mem_cons.1 hm with rfl | hm
      · omega
      · have := i1 m hm
        omega
    · rcases List.mem_cons.1 hm with rfl | hm
      · omega
      · exact i2 m hm
    · rcases i3 with rfl | i3
      · simp; omega
      · simp; omega

theorem ops_in {zs : List OpL} (h : goodOpsL zs = true) : zs.length ≤ 4 ∧ ∀ o ∈ zs, goodB o = true := by
  unfold goodOpsL at h
  simp only [Bool.and_eq_true, decide_eq_true_eq] at h
  refine ⟨h.1.2, fun o ho => ?_⟩
  obtain ⟨i, hi, rfl⟩ := List.mem_iff_getElem.1 ho
  have := List.all_eq_true.1 h.2 i (List.mem_range.2 hi)
  unfold goodAt at this
  simp only [Bool.and_eq_true] at this
  have e : zs.getD i (0, 0, 0) = zs[i] := by simp [List.getD, hi]
  rw [e] at this
  exact this.1

theorem good_in {f : FrameL} (h : goodL f = 0) : (1 ≤ f.kind ∧ f.kind ≤ 5) ∧ (0 ≤ f.node ∧ f.node < 6) ∧ (0 ≤ f.id ∧ f.id < 32) ∧ (f.ops.length ≤ 4 ∧ ∀ o ∈ f.ops, goodB o = true) ∧
    (f.deps.length ≤ 32 ∧ ∀ n ∈ f.deps, 0 ≤ n ∧ n < 256) ∧ (f.ats.length ≤ 4 ∧ ∀ n ∈ f.ats, 0 ≤ n ∧ n < 256) ∧ f.vals.length = f.ats.length ∧ ∀ n ∈ f.vals, -140737488355328 ≤ n ∧ n < 140737488355328 := by
  unfold goodL at h
  by_cases h1 : f.kind < 1 ∨ 5 < f.kind
  · rw [if_pos h1] at h
    omega
  rw [if_neg h1] at h
  by_cases h2 : f.node < 0 ∨ 6 ≤ f.node ∨ f.id < 0 ∨ 32 ≤ f.id
  · rw [if_pos h2] at h
    omega
  rw [if_neg h2] at h
  by_cases h3 : (goodOpsF f && (goodDepsF f && goodToldF f)) = true
  · simp only [Bool.and_eq_true] at h3
    obtain ⟨g1, g2, g3⟩ := h3
    refine ⟨by omega, by omega, by omega, ?_, ?_, ?_⟩
    · unfold goodOpsF at g1
      split at g1
      · exact ops_in g1
      · have : f.ops = [] := by simpa using g1
        rw [this]
        simp
    · unfold goodDepsF at g2
      split at g2
      · simp only [Bool.and_eq_true] at g2
        obtain ⟨i1, i2⟩ := rising_in _ _ g2.1
        refine ⟨?_, fun n hn => by have := i1 n hn; omega⟩
        rcases i2 with i2 | i2
        · rw [i2]
          simp
        · omega
      · have : f.deps = [] := by simpa using g2
        rw [this]
        simp
    · unfold goodToldF at g3
      simp only [Bool.and_eq_true, decide_eq_true_eq] at g3
      obtain ⟨_, g4, g5⟩ := g3
      obtain ⟨i1, i2, i3⟩ := told_in _ _ _ g4 g5
      refine ⟨⟨?_, fun n hn => by have := i1 n hn; omega⟩, g4, fun n hn => by have := i2 n hn; omega⟩
      rcases i3 with i3 | i3
      · rw [i3]
        simp
      · omega
  · rw [if_neg h3] at h
    omega

theorem frame_put {f : FrameL} (h : goodL f = 0) (t : List UInt8) : (⟨encL f ++ t, false⟩ : Rd).frame = f ∧ (⟨encL f ++ t, false⟩ : Rd).end_ = ⟨t, false⟩ := by
  obtain ⟨hk, hn, hi, ⟨ho1, ho2⟩, ⟨hd1, hd2⟩, ⟨ha1, ha2⟩, hv1, hv2⟩ := good_in h
  obtain ⟨kind, node, id, ops, deps, ats, vals⟩ := f
  simp only at *
  have e : encL ⟨kind, node, id, ops, deps, ats, vals⟩ ++ t = byt kind :: byt node :: byt id :: byt ops.length :: (encOps ops ++ (byt deps.length :: (encNums deps ++ (byt ats.length :: (encTold ats vals ++ t))))) := by simp [encL]
  rw [e]
  generalize hr : (⟨byt kind :: byt node :: byt id :: byt ops.length :: (encOps ops ++ (byt deps.length :: (encNums deps ++ (byt ats.length :: (encTold ats vals ++ t))))), false⟩ : Rd) = r
  have q1 : r.r1 = ⟨byt ops.length :: (encOps ops ++ (byt deps.length :: (encNums deps ++ (byt ats.length :: (encTold ats vals ++ t))))), false⟩ := by rw [← hr]; rfl
  have q2 : r.o1 = (ops, ⟨byt deps.length :: (encNums deps ++ (byt ats.length :: (encTold ats vals ++ t))), false⟩) := by
    unfold Rd.o1
    rw [q1, Rd.one_put (by omega) (by omega), Rd.next_put, Int.toNat_natCast, Rd.ops_put _ _ ho2]
  have q3 : r.d1 = (deps, ⟨byt ats.length :: (encTold ats vals ++ t), false⟩) := by
    unfold Rd.d1
    rw [q2, Rd.one_put (by omega) (by omega), Rd.next_put, Int.toNat_natCast, Rd.nums_put _ _ hd2]
  have q4 : r.t1 = (ats, vals, ⟨t, false⟩) := by
    unfold Rd.t1
    rw [q3, Rd.one_put (by omega) (by omega), Rd.next_put, Int.toNat_natCast, Rd.told_put _ _ _ hv1 ha2 hv2]
  refine ⟨?_, by unfold Rd.end_; rw [q4]⟩
  unfold Rd.frame
  rw [q2, q3, q4, ← hr]
  simp only [Rd.next_put]
  rw [Rd.one_put (by omega) (by omega), Rd.one_put (by omega) (by omega), Rd.one_put (by omega) (by omega)]

/- Decode -/
def okL (s : List UInt8) : Bool := !((⟨s, false⟩ : Rd).end_.short || !(⟨s, false⟩ : Rd).end_.rest.isEmpty) && (goodL (⟨s, false⟩ : Rd).frame == 0)
def zeroF : FrameL := ⟨0, 0, 0, [], [], [], []⟩
def decL (s : List UInt8) : FrameL := if okL s = true then (⟨s, false⟩ : Rd).frame else zeroF
def decE (s : List UInt8) : Int := if okL s = true then 0 else 1

theorem ok_put {f : FrameL} (h : goodL f = 0) : okL (encL f) = true ∧ decL (encL f) = f := by
  obtain ⟨e1, e2⟩ := frame_put h []
  rw [List.append_nil] at e1 e2
  have ho : okL (encL f) = true := by unfold okL; rw [e1, e2, h]; rfl
  exact ⟨ho, by unfold decL; rw [if_pos ho, e1]⟩
theorem encOps_len (zs : List OpL) : (encOps zs).length = 8 * zs.length := by
  induction zs with
  | nil => rfl
  | cons o zs ih => rw [encOps_cons, List.length_append, ih]; simp [six_len]; omega
theorem encTold_len : ∀ (xs vs : List Int), vs.length = xs.length → (encTold xs vs).length = 7 * xs.length
  | [], [], _ => rfl
  | [], _ :: _, h => by simp at h
  | _ :: _, [], h => by simp at h
  | a :: xs, v :: vs, h => by
    have := encTold_len xs vs (by simpa using h)
    simp [encTold, six_len, this]
    omega
theorem enc_len {f : FrameL} (h : goodL f = 0) : (encL f).length ≤ 98 ∧ 6 ≤ (encL f).length := by
  obtain ⟨hk, hn, hi, ⟨ho1, ho2⟩, ⟨hd1, hd2⟩, ⟨ha1, ha2⟩, hv1, hv2⟩ := good_in h
  unfold encL
  have e1 := encOps_len f.ops
  have e2 := encTold_len f.ats f.vals hv1
  simp [encNums, e1, e2]
  omega

end Go.Proofs.YtkoefoccbjhoiacGreat

namespace Go.Proofs.YtkoefoccbjhoiacGreat
open Go.RowKit

/-- All but block c is as it was. -/
structure Beside (c : Nat) (w w' : World) : Prop where
  os : w'.os = w.os
  tape : w'.tape = w.tape
  output : w'.output = w.output
  size : w'.heap.size = w.heap.size
  block : ∀ k, k ≠ c → w'.heap[k]? = w.heap[k]?

theorem Beside.refl (c : Nat) (w : World) : Beside c w w := ⟨rfl, rfl, rfl, rfl, fun _ _ => rfl⟩
theorem Beside.trans {c : Nat} {a b d : World} (h : Beside c a b) (k : Beside c b d) : Beside c a d :=
  ⟨k.os.trans h.os, k.tape.trans h.tape, k.output.trans h.output, k.size.trans h.size, fun i hi => (k.block i hi).trans (h.block i hi)⟩
theorem Beside.setCell {c : Nat} {a w : World} (h : Beside c a w) (o : Nat) (u : Value) : Beside c a (w.setCell ⟨c, o, none⟩ u) :=
  h.trans ⟨rfl, rfl, rfl, by simp [World.setCell], fun k hk => Below.heap_setCell _ _ _ _ hk⟩
theorem Beside.drew {c : Nat} {a w : World} (h : Beside c a w) : Beside c a w.drew := ⟨h.os, h.tape, h.output, h.size, h.block⟩
theorem Beside.below {c B : Nat} {w w' : World} (h : Beside c w w') (hB : B ≤ c) : Below B w w' := ⟨h.os, h.tape, h.output, by rw [h.size]; exact Nat.le_refl _, fun k hk => h.block k (by omega)⟩
theorem Beside.cell {c : Nat} {w w' : World} (h : Beside c w w') {p : Addr} (hp : p.block ≠ c) : w'.cell? p = w.cell? p := World.cell?_of_block (w := w) (h.block p.block hp)
theorem Beside.frozen {c : Nat} {w w' : World} (h : Beside c w w') {p : Addr} (hp : p.block ≠ c) : w'.frozen? p = w.frozen? p := World.frozen?_of_block (w := w) (h.block p.block hp)
theorem Beside.grown {c : Nat} {w w' : World} (h : Beside c w w') : w.grownBy w' (some c) := ⟨h.os, h.tape, h.output, by rw [h.size]; exact Nat.le_refl _, fun k _ hk => h.block k (by intro e; exact hk (by rw [e]))⟩

def str (l : List UInt8) : ByteArray := ⟨l.toArray⟩
/-- A reader at block c. -/
def RdAt (w : World) (c : Nat) (r : Rd) : Prop := ∃ t, w.heap[c]? = some (.cells #[.string (str r.rest), .bool r.short] t (0, 0))
theorem RdAt.rest {w : World} {c : Nat} {r : Rd} (h : RdAt w c r) : w.cell? ⟨c, 0, none⟩ = some (.string (str r.rest)) := by
  obtain ⟨t, h⟩ := h
  rw [cell_of_row w c 0 _ t _ h]
  rfl
theorem RdAt.short {w : World} {c : Nat} {r : Rd} (h : RdAt w c r) : w.cell? ⟨c, 1, none⟩ = some (.bool r.short) := by
  obtain ⟨t, h⟩ := h
  rw [cell_of_row w c 1 _ t _ h]
  rfl
theorem RdAt.frozen {w : World} {c : Nat} {r : Rd} (h : RdAt w c r) (i : Nat) : w.frozen? ⟨c, i, none⟩ = false := by
  obtain ⟨t, h⟩ := h
  exact frozen_of_row w c i _ t h
end Go.Proofs.YtkoefoccbjhoiacGreat

namespace Go.Proofs.YtkoefoccbjhoiacGreat
open Go.ChangeShapes Go.WideShapes Go.ChangeAt Go.RowKit Go.Deep

theorem own : ownKnob Tryz.prog.godebug = none := by kernel_rfl
theorem laidOut : laidOutB Tryz.prog = true := by kernel_rfl
theorem Tryz.cellsInt : Tryz.prog.cellsOf 3 = 1 := by kernel_rfl
def Fits (x : Int) : Prop := (Lit.int .i64 x).wf = true

theorem add_none {b off j : Nat} : (⟨b, off, none⟩ : Addr).add j = ⟨b, off + j, none⟩ := by
  unfold Addr.add
  split
  · subst_vars; simp
  · simp

theorem lt_of_cell {w : World} {a : Addr} {v : Value} (h : w.cell? a = some v) : a.block < w.heap.size := by
  by_cases hq : a.block < w.heap.size
  · exact hq
  · have hn : w.heap[a.block]? = none := Array.getElem?_eq_none (by omega)
    simp [World.cell?, hn] at h

section
variable {H : Type} {enc : TypeId × Value → H} {P : Program} {w : World} {base : Nat} {spare : Nat → Bool} {held : Bool}

end

end Go.Proofs.YtkoefoccbjhoiacGreat

namespace Go.Proofs.YtkoefoccbjhoiacGreat
open Go.ChangeShapes Go.WideShapes Go.ChangeAt Go.RowKit Go.Deep

theorem Tryz.cellsOp : Tryz.prog.cellsOf 69 = 3 := by kernel_rfl

def FitsOp (o : OpL) : Prop := Fits o.1 ∧ Fits o.2.1 ∧ Fits o.2.2

section
variable {H : Type} {enc : TypeId × Value → H} {P : Program} {w : World} {base : Nat} {spare : Nat → Bool} {held : Bool}

/-- A slice of operations that came in. -/
theorem open_opsAt {t e f : TypeId} {fuel : Nat} {a : Option Addr} {len cap : Nat} {x : DataW H × List MemPlace} {f0 f1 f2 : Field} (ht : P.underlying t = some (.slice e)) (he : P.underlying e = some (.struct #[f0, f1, f2])) (hf : P.underlying f = some (.int .i64))
    (hc : P.cellsOf e = 3) (hcf : P.cellsOf f = 1) (y0 : f0.type = f) (y1 : f1.type = f) (y2 : f2.type = f) (o0 : f0.offset = 0) (o1 : f1.offset = 1) (o2 : f2.offset = 2)
    (h : DataW.trod enc P w base spare held fuel t [.slice a len cap] = some x) :
    len ≤ maxLen ∧ ∃ zs : List OpL, zs.length = len ∧ OpsAt w a zs ∧ (∀ o ∈ zs, FitsOp o) ∧ (a = none → len = 0 ∧ cap = 0) ∧ len ≤ cap := by
  rcases open_slice ht h with ⟨hcs, _⟩ | ⟨x, l, c, m, n, D, Pl, hcs, hb, hl, hm, hmm, _, hx⟩
  · simp at hcs
    obtain ⟨rfl, rfl, rfl⟩ := hcs
    exact ⟨Nat.zero_le _, [], rfl, Or.inl rfl, by simp, fun _ => ⟨rfl, rfl⟩, Nat.le_refl _⟩
  · simp at hcs
    obtain ⟨rfl, rfl, rfl⟩ := hcs
    have hlm : len ≤ m := by rw [hmm]; split <;> omega
    have each : ∀ i, i < len → ∃ q : OpL, w.cell? (x.add (i * 3)) = some (.int .i64 q.1) ∧ w.cell? (x.add (i * 3 + 1)) = some (.int .i64 q.2.1) ∧ w.cell? (x.add (i * 3 + 2)) = some (.int .i64 q.2.2) ∧ FitsOp q := by
      intro i hi
      obtain ⟨cs', h1, h2⟩ := hx i (by omega)
      rw [hc] at h1
      obtain ⟨_, hlen, hcell⟩ := World.cells?_some h1
      obtain ⟨xs, k, hk, hxy, _, hxl, hfs⟩ := DataW.trod_struct he h2
      match xs, hxl, cs', hlen with
      | [z0, z1, z2], _, [v0, v1, v2], _ =>
        have g0 := hfs 0 f0 rfl
        have g1 := hfs 1 f1 rfl
        have g2 := hfs 2 f2 rfl
        simp [y0, y1, y2, o0, o1, o2, hcf] at g0 g1 g2
        obtain ⟨n0, r0, _, q0⟩ := DataW.trod_int hf g0
        obtain ⟨n1, r1, _, q1⟩ := DataW.trod_int hf g1
        obtain ⟨n2, r2, _, q2⟩ := DataW.trod_int hf g2
        simp at r0 r1 r2
        subst r0 r1 r2
        have e0 := hcell 0 (by omega)
        have e1 := hcell 1 (by omega)
        have e2 := hcell 2 (by omega)
        rw [add_add] at e0 e1 e2
        exact ⟨(n0, n1, n2), by simpa using e0, by simpa using e1, by simpa using e2, q0, q1, q2⟩
    obtain ⟨Q, hQ⟩ := choose_lt each
    refine ⟨by omega, (List.range len).map Q, by simp, ?_, ?_, fun h => by simp at h, hl⟩
    · by_cases h0 : len = 0
      · left
        simp [h0]
      · right
        obtain ⟨b, off, spot⟩ := x
        have hc0 := (hQ 0 (by omega)).1
        have hs : spot = none := by simpa [Addr.add] using World.cell?_spot hc0
        subst hs
        refine ⟨b, off, rfl, by simpa [Addr.add] using lt_of_cell hc0, fun i hi => ?_⟩
        have hi' : i < len := by simpa using hi
        obtain ⟨t0, t1, t2, _⟩ := hQ i hi'
        rw [add_none] at t0 t1 t2
        have hg : ((List.range len).map Q).getD i (0, 0, 0) = Q i := by simp [List.getD, hi']
        rw [hg]
        exact ⟨t0, t1, t2⟩
    · intro o ho
      obtain ⟨i, hi, rfl⟩ := List.mem_map.1 ho
      exact (hQ i (List.mem_range.1 hi)).2.2.2

end

end Go.Proofs.YtkoefoccbjhoiacGreat

namespace Go.Proofs.YtkoefoccbjhoiacGreat
open Go.RowKit

/-- A frame's seven cells at block b. -/
def FAt (w : World) (b : Nat) (a0 a1 a2 : Int) (v3 v4 v5 v6 : Value) : Prop := ∃ t, w.heap[b]? = some (.cells #[.int .i64 a0, .int .i64 a1, .int .i64 a2, v3, v4, v5, v6] t (0, 0))

section
variable {w w' : World} {b : Nat} {a0 a1 a2 : Int} {v3 v4 v5 v6 : Value}
theorem FAt.cell (h : FAt w b a0 a1 a2 v3 v4 v5 v6) :
    w.cell? ⟨b, 0, none⟩ = some (.int .i64 a0) ∧ w.cell? ⟨b, 1, none⟩ = some (.int .i64 a1) ∧ w.cell? ⟨b, 2, none⟩ = some (.int .i64 a2) ∧
    w.cell? ⟨b, 3, none⟩ = some v3 ∧ w.cell? ⟨b, 4, none⟩ = some v4 ∧ w.cell? ⟨b, 5, none⟩ = some v5 ∧ w.cell? ⟨b, 6, none⟩ = some v6 := by
  obtain ⟨t, h⟩ := h
  refine ⟨?_, ?_, ?_, ?_, ?_, ?_, ?_⟩ <;> (rw [cell_of_row w b _ _ t _ h]; rfl)
theorem FAt.frozen (h : FAt w b a0 a1 a2 v3 v4 v5 v6) (i : Nat) : w.frozen? ⟨b, i, none⟩ = false := by
  obtain ⟨t, h⟩ := h
  exact frozen_of_row w b i _ t h
theorem FAt.block (h : FAt w b a0 a1 a2 v3 v4 v5 v6) (e : w'.heap[b]? = w.heap[b]?) : FAt w' b a0 a1 a2 v3 v4 v5 v6 := by
  obtain ⟨t, h⟩ := h
  exact ⟨t, by rw [e]; exact h⟩
theorem FAt.lt (h : FAt w b a0 a1 a2 v3 v4 v5 v6) : b < w.heap.size := by
  obtain ⟨t, h⟩ := h
  exact (Array.getElem?_eq_some_iff.1 h).1
end

theorem RdAt.block {w w' : World} {c : Nat} {r : Rd} (h : RdAt w c r) (e : w'.heap[c]? = w.heap[c]?) : RdAt w' c r := by
  obtain ⟨t, h⟩ := h
  exact ⟨t, by rw [e]; exact h⟩
theorem RdAt.lt {w : World} {c : Nat} {r : Rd} (h : RdAt w c r) : c < w.heap.size := by
  obtain ⟨t, h⟩ := h
  exact (Array.getElem?_eq_some_iff.1 h).1
theorem RdAt.alloc {w : World} {c : Nat} {r : Rd} (h : RdAt w c r) (o : Obj) : RdAt (w.alloc o) c r := h.block (Below.heap_alloc _ _ _ h.lt)

theorem grown_far {w w1 w2 : World} {c : Nat} {row : Option Nat} (h : w.grownBy w1 (some c)) (k : w1.grownBy w2 row) (hr : ∀ g, row = some g → w.heap.size ≤ g) : w.grownBy w2 (some c) :=
  ⟨k.os.trans h.os, k.tape.trans h.tape, k.output.trans h.output, Nat.le_trans h.size k.size, fun i hi hn => (k.block i (Nat.lt_of_lt_of_le hi h.size) (fun e => by have := hr i e.symm; omega)).trans (h.block i hi hn)⟩
/-- The state of the reading: the reader at c, the frame under way at B3, the result's cells at B2; else nothing old has turned. -/
structure Fr (w : World) (c B2 B3 : Nat) (a0 a1 a2 : Int) (wr : World) (rk : Rd) (v3 v4 v5 v6 : Value) : Prop where
  rd : RdAt wr c rk
  f : FAt wr B3 a0 a1 a2 v3 v4 v5 v6
  z : FAt wr B2 0 0 0 (.slice none 0 0) (.slice none 0 0) (.slice none 0 0) (.slice none 0 0)
  g : w.grownBy wr (some c)
  l1 : c < w.heap.size
  l2 : w.heap.size ≤ B2
  l3 : B2 < B3

section
variable {w wr w1 : World} {c B2 B3 : Nat} {a0 a1 a2 : Int} {rk rj : Rd} {v3 v4 v5 v6 : Value}
theorem Fr.grown (h : Fr w c B2 B3 a0 a1 a2 wr rk v3 v4 v5 v6) {row : Option Nat} (hg : wr.grownBy w1 row) (hr : ∀ g, row = some g → B3 < g) : Fr w c B2 B3 a0 a1 a2 w1 rk v3 v4 v5 v6 :=
  have h1 := h.l1
  have h2 := h.l2
  have h3 := h.l3
  have n : ∀ k, k ≤ B3 → some k ≠ row := fun k hk e => by have := hr k e.symm; omega
  ⟨h.rd.block (hg.block _ h.rd.lt (n _ (by omega))), h.f.block (hg.block _ h.f.lt (n _ (by omega))), h.z.block (hg.block _ h.z.lt (n _ (by omega))), grown_far h.g hg (fun g e => by have := hr g e; omega), h1, h2, h3⟩
theorem Fr.alloc (h : Fr w c B2 B3 a0 a1 a2 wr rk v3 v4 v5 v6) (o : Obj) : Fr w c B2 B3 a0 a1 a2 (wr.alloc o) rk v3 v4 v5 v6 :=
  h.grown (World.grownBy_alloc wr o none) (by simp)
theorem Fr.drew (h : Fr w c B2 B3 a0 a1 a2 wr rk v3 v4 v5 v6) : Fr w c B2 B3 a0 a1 a2 wr.drew rk v3 v4 v5 v6 :=
  ⟨h.rd, h.f, h.z, ⟨h.g.os, h.g.tape, h.g.output, h.g.size, h.g.block⟩, h.l1, h.l2, h.l3⟩
end

def opCells (o : OpL) : List Value := [.int .i64 o.1, .int .i64 o.2.1, .int .i64 o.2.2]
def opsCells (zs : List OpL) : List Value := zs.flatMap opCells
theorem Fr.after {w x4 x5 : World} {c B2 B3 : Nat} {a0 a1 a2 : Int} {rk : Rd} {v3 v4 v5 v6 v : Value} {o : Obj} {e : TypeId} {size n : Nat} {xs : List Value} (F : Fr w c B2 B3 a0 a1 a2 x4 rk v3 v4 v5 v6)
    (hown : x4.ownsRow (B3 + 1) e size v n xs) (hg : (x4.alloc o).grownBy x5 v.ownBlock) : Fr w c B2 B3 a0 a1 a2 x5 rk v3 v4 v5 v6 :=
  (F.alloc o).grown hg (fun g h => by have := (hown.lt g h).1; omega)

theorem own_put {x : World} {b c o : Nat} {e : TypeId} {size : Nat} {v u : Value} {n : Nat} {xs : List Value} (h : x.ownsRow b e size v n xs) (hc : c < b) : (x.setCell ⟨c, o, none⟩ u).ownsRow b e size v n xs :=
  ownsRow_setCell_below h hc u
def SlOps (w : World) (a : Option Addr) (cap : Nat) (zs : List OpL) : Prop := OpsAt w a zs ∧ zs.length ≤ maxLen ∧ zs.length ≤ cap ∧ (a = none → zs.length = 0 ∧ cap = 0)
/-- A value that is a frame. -/
def FrameV (w : World) (v : Value) (f : FrameL) : Prop := ∃ a3 c3 a4 c4 a5 c5 a6 c6,
  v = .agg #[.int .i64 f.kind, .int .i64 f.node, .int .i64 f.id, .slice a3 f.ops.length c3, .slice a4 f.deps.length c4, .slice a5 f.ats.length c5, .slice a6 f.vals.length c6] ∧
  SlOps w a3 c3 f.ops ∧ SlInts w a4 c4 f.deps ∧ SlInts w a5 c5 f.ats ∧ SlInts w a6 c6 f.vals
theorem SlOps.later {w w' : World} {a : Option Addr} {cap : Nat} {zs : List OpL} (h : SlOps w a cap zs) (hb : Below w.heap.size w w') : SlOps w' a cap zs :=
  ⟨h.1.later hb, h.2⟩
theorem FrameV.later {w w' : World} {v : Value} {f : FrameL} (h : FrameV w v f) (hb : Below w.heap.size w w') : FrameV w' v f := by
  obtain ⟨a3, c3, a4, c4, a5, c5, a6, c6, e, h3, h4, h5, h6⟩ := h
  exact ⟨a3, c3, a4, c4, a5, c5, a6, c6, e, h3.later hb, h4.later hb, h5.later hb, h6.later hb⟩

theorem opsCells_len (zs : List OpL) : (opsCells zs).length = zs.length * 3 := by
  induction zs with
  | nil => rfl
  | cons o zs ih => simp [opsCells, opCells] at *; omega
theorem opsCells_get : ∀ (zs : List OpL) (i : Nat), i < zs.length → (opsCells zs)[i * 3]? = some (.int .i64 (zs.getD i (0, 0, 0)).1) ∧ (opsCells zs)[i * 3 + 1]? = some (.int .i64 (zs.getD i (0, 0, 0)).2.1) ∧ (opsCells zs)[i * 3 + 2]? = some (.int .i64 (zs.getD i (0, 0, 0)).2.2)
  | [], i, h => by simp at h
  | o :: zs, 0, _ => by simp [opsCells, opCells]
  | o :: zs, i + 1, h => by
    have ih := opsCells_get zs i (by simpa using h)
    have e : opsCells (o :: zs) = .int .i64 o.1 :: .int .i64 o.2.1 :: .int .i64 o.2.2 :: opsCells zs := by simp [opsCells, opCells]
    have n0 : (i + 1) * 3 = i * 3 + 1 + 1 + 1 := by omega
    have n1 : (i + 1) * 3 + 1 = (i * 3 + 1) + 1 + 1 + 1 := by omega
    have n2 : (i + 1) * 3 + 2 = (i * 3 + 2) + 1 + 1 + 1 := by omega
    rw [e, n1, n2, n0]
    simpa using ih
theorem SlOps.of_owns {w : World} {b : Nat} {e : TypeId} {a : Option Addr} {cap : Nat} {zs : List OpL} (h : w.ownsRow b e 3 (.slice a zs.length cap) zs.length (opsCells zs)) : SlOps w a cap zs := by
  obtain ⟨a2, c2, h1, h2, h3⟩ := own_form h
  simp at h1
  obtain ⟨rfl, rfl⟩ := h1
  rcases h.2 with ⟨_, h0⟩ | ⟨g, c, cur, hs, hg, hh, h5, h6, h7, h8⟩
  · exact ⟨Or.inl (List.eq_nil_of_length_eq_zero h0), by rw [h0]; exact Nat.zero_le _, h2, h3⟩
  · simp at hs
    obtain ⟨rfl, rfl⟩ := hs
    refine ⟨Or.inr ⟨g, 0, rfl, (Array.getElem?_eq_some_iff.1 hh).1, fun i hi => ?_⟩, by omega, h2, h3⟩
    have key : ∀ j, j < zs.length * 3 → w.cell? ⟨g, 0 + j, none⟩ = (opsCells zs)[j]? := fun j hj => by
      rw [cell_of_row w g (0 + j) cur e _ hh, ← h8, List.getElem?_take_of_lt hj, Nat.zero_add]
      simp
    have := opsCells_get zs i hi
    rw [← key _ (by omega), ← key _ (by omega), ← key _ (by omega)] at this
    simpa [Nat.add_assoc] using this

end Go.Proofs.YtkoefoccbjhoiacGreat

namespace Go.Proofs.YtkoefoccbjhoiacGreat
open Go.RowKit

/-- A list of ints in a block of which 'ok' holds: nothing, or its cells. -/
def IntsIn (ok : Nat → Prop) (w : World) (a : Option Addr) (zs : List Int) : Prop :=
  zs = [] ∨ ∃ b off, a = some ⟨b, off, none⟩ ∧ ok b ∧ ∀ i, i < zs.length → w.cell? ⟨b, off + i, none⟩ = some (.int .i64 (zs.getD i 0))
def OpsIn (ok : Nat → Prop) (w : World) (a : Option Addr) (zs : List OpL) : Prop :=
  zs = [] ∨ ∃ b off, a = some ⟨b, off, none⟩ ∧ ok b ∧ ∀ i, i < zs.length → w.cell? ⟨b, off + i * 3, none⟩ = some (.int .i64 (zs.getD i (0, 0, 0)).1) ∧
    w.cell? ⟨b, off + i * 3 + 1, none⟩ = some (.int .i64 (zs.getD i (0, 0, 0)).2.1) ∧ w.cell? ⟨b, off + i * 3 + 2, none⟩ = some (.int .i64 (zs.getD i (0, 0, 0)).2.2)

/-- Blocks of which 'ok' holds are as they were. -/
def SameOn (ok : Nat → Prop) (w w' : World) : Prop := ∀ k, k < w.heap.size → ok k → w'.heap[k]? = w.heap[k]?
theorem SameOn.cell {ok : Nat → Prop} {w w' : World} (h : SameOn ok w w') {p : Addr} {v : Value} (hc : w.cell? p = some v) (hk : ok p.block) : w'.cell? p = some v :=
  (World.cell?_of_block (h p.block (World.block_lt_of_cell? w p hc) hk)).trans hc
theorem SameOn.of_size {ok : Nat → Prop} {w w' : World} (h : Below w.heap.size w w') : SameOn ok w w' := fun k h1 _ => h.block k h1
theorem SameOn.trans {ok : Nat → Prop} {w w1 w2 : World} (h : SameOn ok w w1) (hs : w.heap.size ≤ w1.heap.size) (k : SameOn ok w1 w2) : SameOn ok w w2 := fun i h1 h2 => (k i (by omega) h2).trans (h i h1 h2)

theorem IntsIn.later {ok : Nat → Prop} {w w' : World} {a : Option Addr} {zs : List Int} (h : IntsIn ok w a zs) (hB : SameOn ok w w') : IntsIn ok w' a zs := by
  rcases h with h | ⟨b, off, ha, hb, hc⟩
  · exact Or.inl h
  · exact Or.inr ⟨b, off, ha, hb, fun i hi => hB.cell (hc i hi) hb⟩
theorem IntsIn.mono {ok ok' : Nat → Prop} {w : World} {a : Option Addr} {zs : List Int} (h : IntsIn ok w a zs) (hk : ∀ k, k < w.heap.size → ok k → ok' k) : IntsIn ok' w a zs := by
  rcases h with h | ⟨b, off, ha, hb, hc⟩
  · exact Or.inl h
  · cases zs with
    | nil => exact Or.inl rfl
    | cons z r =>
      have := World.block_lt_of_cell? w _ (hc 0 (by simp))
      exact Or.inr ⟨b, off, ha, hk b this hb, hc⟩
theorem IntsIn.at {ok : Nat → Prop} {w : World} {a : Option Addr} {zs : List Int} (h : IntsIn ok w a zs) : IntsAt w.heap.size w a zs := by
  rcases h with h | ⟨b, off, ha, hb, hc⟩
  · exact Or.inl h
  · cases zs with
    | nil => exact Or.inl rfl
    | cons z r => exact Or.inr ⟨b, off, ha, World.block_lt_of_cell? w _ (hc 0 (by simp)), hc⟩
theorem OpsIn.later {ok : Nat → Prop} {w w' : World} {a : Option Addr} {zs : List OpL} (h : OpsIn ok w a zs) (hB : SameOn ok w w') : OpsIn ok w' a zs := by
  rcases h with h | ⟨b, off, ha, hb, hc⟩
  · exact Or.inl h
  · exact Or.inr ⟨b, off, ha, hb, fun i hi => ⟨hB.cell (hc i hi).1 hb, hB.cell (hc i hi).2.1 hb, hB.cell (hc i hi).2.2 hb⟩⟩
theorem OpsIn.mono {ok ok' : Nat → Prop} {w : World} {a : Option Addr} {zs : List OpL} (h : OpsIn ok w a zs) (hk : ∀ k, k < w.heap.size → ok k → ok' k) : OpsIn ok' w a zs := by
  rcases h with h | ⟨b, off, ha, hb, hc⟩
  · exact Or.inl h
  · cases zs with
    | nil => exact Or.inl rfl
    | cons z r =>
      have := World.block_lt_of_cell? w _ (hc 0 (by simp)).1
      exact Or.inr ⟨b, off, ha, hk b this hb, hc⟩
theorem OpsIn.at {ok : Nat → Prop} {w : World} {a : Option Addr} {zs : List OpL} (h : OpsIn ok w a zs) : OpsAt w a zs := by
  rcases h with h | ⟨b, off, ha, hb, hc⟩
  · exact Or.inl h
  · cases zs with
    | nil => exact Or.inl rfl
    | cons z r => exact Or.inr ⟨b, off, ha, World.block_lt_of_cell? w _ (hc 0 (by simp)).1, hc⟩

/-- A value that is a list of ints; of operations. -/
def IsI (ok : Nat → Prop) (w : World) (v : Value) (zs : List Int) : Prop := ∃ a cap, v = .slice a zs.length cap ∧ IntsIn ok w a zs ∧ zs.length * 8 ≤ 140737488355328 ∧ zs.length ≤ cap ∧ (a = none → zs.length = 0 ∧ cap = 0)
def IsO (ok : Nat → Prop) (w : World) (v : Value) (zs : List OpL) : Prop := ∃ a cap, v = .slice a zs.length cap ∧ OpsIn ok w a zs ∧ zs.length * 24 ≤ 140737488355328 ∧ zs.length ≤ cap ∧ (a = none → zs.length = 0 ∧ cap = 0)
theorem IsI.later {ok : Nat → Prop} {w w' : World} {v : Value} {zs : List Int} (h : IsI ok w v zs) (hB : SameOn ok w w') : IsI ok w' v zs := by
  obtain ⟨a, cap, h1, h2, h3⟩ := h
  exact ⟨a, cap, h1, h2.later hB, h3⟩
theorem IsI.mono {ok ok' : Nat → Prop} {w : World} {v : Value} {zs : List Int} (h : IsI ok w v zs) (hk : ∀ k, k < w.heap.size → ok k → ok' k) : IsI ok' w v zs := by
  obtain ⟨a, cap, h1, h2, h3⟩ := h
  exact ⟨a, cap, h1, h2.mono hk, h3⟩
theorem IsI.sl {ok : Nat → Prop} {w : World} {v : Value} {zs : List Int} (h : IsI ok w v zs) : ∃ a cap, v = .slice a zs.length cap ∧ SlInts w a cap zs := by
  obtain ⟨a, cap, h1, h2, h3, h4, h5⟩ := h
  exact ⟨a, cap, h1, h2.at, by unfold maxLen; omega, h4, h5⟩
theorem IsI.nil (ok : Nat → Prop) (w : World) : IsI ok w (.slice none 0 0) [] := ⟨none, 0, rfl, Or.inl rfl, by decide, Nat.le_refl _, fun _ => ⟨rfl, rfl⟩⟩
theorem IsI.one {ok : Nat → Prop} {w : World} {v : Value} {zs : List Int} (h : IsI ok w v zs) : v.oneCell' = true := by
  obtain ⟨a, cap, rfl, _⟩ := h
  rfl
theorem IsO.later {ok : Nat → Prop} {w w' : World} {v : Value} {zs : List OpL} (h : IsO ok w v zs) (hB : SameOn ok w w') : IsO ok w' v zs := by
  obtain ⟨a, cap, h1, h2, h3⟩ := h
  exact ⟨a, cap, h1, h2.later hB, h3⟩
theorem IsO.mono {ok ok' : Nat → Prop} {w : World} {v : Value} {zs : List OpL} (h : IsO ok w v zs) (hk : ∀ k, k < w.heap.size → ok k → ok' k) : IsO ok' w v zs := by
  obtain ⟨a, cap, h1, h2, h3⟩ := h
  exact ⟨a, cap, h1, h2.mono hk, h3⟩
theorem IsO.sl {ok : Nat → Prop} {w : World} {v : Value} {zs : List OpL} (h : IsO ok w v zs) : ∃ a cap, v = .slice a zs.length cap ∧ SlOps w a cap zs := by
  obtain ⟨a, cap, h1, h2, h3, h4, h5⟩ := h
  exact ⟨a, cap, h1, h2.at, by unfold maxLen; omega, h4, h5⟩
theorem IsO.nil (ok : Nat → Prop) (w : World) : IsO ok w (.slice none 0 0) [] := ⟨none, 0, rfl, Or.inl rfl, by decide, Nat.le_refl _, fun _ => ⟨rfl, rfl⟩⟩
theorem IsO.one {ok : Nat → Prop} {w : World} {v : Value} {zs : List OpL} (h : IsO ok w v zs) : v.oneCell' = true := by
  obtain ⟨a, cap, rfl, _⟩ := h
  rfl
/-- What the call made for itself. -/
theorem IsI.of_owns {w : World} {base : Nat} {e : TypeId} {v : Value} {zs : List Int} (h : w.ownsRow base e 1 v zs.length (intCells zs)) (hl : zs.length * 8 ≤ 140737488355328) : IsI (fun b => base ≤ b ∧ v.ownBlock = some b) w v zs := by
  obtain ⟨a, cap, rfl, h1, h2⟩ := own_form h
  refine ⟨a, cap, rfl, ?_, hl, h1, h2⟩
  obtain ⟨a', cap', he, hi⟩ := IntsAt.of_owns h
  simp at he
  obtain ⟨rfl, rfl⟩ := he
  rcases hi with hi | ⟨b, off, rfl, hb, hc⟩
  · exact Or.inl hi
  · exact Or.inr ⟨b, off, rfl, ⟨(World.ownsRow.lt h b rfl).1, rfl⟩, hc⟩
theorem IsO.of_owns {w : World} {base : Nat} {e : TypeId} {v : Value} {zs : List OpL} (h : w.ownsRow base e 3 v zs.length (opsCells zs)) (hl : zs.length * 24 ≤ 140737488355328) : IsO (fun b => base ≤ b ∧ v.ownBlock = some b) w v zs := by
  obtain ⟨a, cap, rfl, h1, h2⟩ := own_form h
  refine ⟨a, cap, rfl, ?_, hl, h1, h2⟩
  obtain ⟨hi, _⟩ := SlOps.of_owns h
  rcases hi with hi | ⟨b, off, rfl, hb, hc⟩
  · exact Or.inl hi
  · exact Or.inr ⟨b, off, rfl, ⟨(World.ownsRow.lt h b rfl).1, rfl⟩, hc⟩

theorem rowF_all {N : Nat} {f : Nat → Value} (h : ∀ i, i < N → (f i).oneCell' = true) : (rowF N f).all (·.oneCell') = true := by
  refine Array.all_eq_true_iff_forall_mem.2 (fun v hv => ?_)
  simp [rowF] at hv
  obtain ⟨i, hi, rfl⟩ := hv
  exact h i hi

end Go.Proofs.YtkoefoccbjhoiacGreat

namespace Go.Proofs.YtkoefoccbjhoiacGreat
open Go.RowKit

def txnB' (n : Int) : Bool := decide (0 ≤ n ∧ n < 32)

set_option maxRecDepth 100000 in
set_option maxHeartbeats 400000 in
theorem g_isTxn (n : Int) (w : World) :
    Calls Tryz.prog 59 #[.int .i64 n] w fun e w' => e = .returned (.bool (txnB' n)) ∧ w' = w := by
  by_cases h1 : 0 ≤ n
  · by_cases h2 : n < 32
    · have E : Hid (txnB' n = true) := by unfold txnB' Hid; simp; omega
      have d1 : decide (0 ≤ n) = true := by simpa using h1
      have d2 : decide (n < 32) = true := by simpa using h2
      go_enter Tryz.func59, Tryz.ntmps59
      go_wp2
      go_ret
      exact ⟨ret_bool E.out.symm, rfl⟩
    · have E : Hid (txnB' n = false) := by unfold txnB' Hid; simp; omega
      have d1 : decide (0 ≤ n) = true := by simpa using h1
      have d2 : decide (n < 32) = false := by simpa using h2
      go_enter Tryz.func59, Tryz.ntmps59
      go_wp2
      go_ret
      exact ⟨ret_bool E.out.symm, rfl⟩
  · have E : Hid (txnB' n = false) := by unfold txnB' Hid; simp; omega
    have d1 : decide (0 ≤ n) = false := by simpa using h1
    go_enter Tryz.func59, Tryz.ntmps59
    go_wp2
    go_ret
    exact ⟨ret_bool E.out.symm, rfl⟩

theorem Tryz.setGuard : Tryz.prog.eqGuardType Tryz.prog.depth 62 = false := by kernel_rfl

theorem StAt.drewN {w : World} {c : Nat} {gv : Nat → Value} {s : St} {sv : Value} (h : StAt w c gv s sv) (k : Nat) : StAt (w.drewN k) c gv s sv := h
theorem StAt.drew {w : World} {c : Nat} {gv : Nat → Value} {s : St} {sv : Value} (h : StAt w c gv s sv) : StAt w.drew c gv s sv := h

theorem Tryz.sizeSet (S : Nat → Bool) : (Tryz.prog.info? 62).map (·.size) = some (bools 32 S).toList.length := by rw [bools_len]; exact Tryz.infoSet


set_option maxRecDepth 100000 in
set_option maxHeartbeats 400000 in
theorem together_any (c : Nat) (gv : Nat → Value) (s : St) (sv : Value) (n m : Nat) (hn : n < 32) (hm : m < 32) (w : World) (hs : StAt w c gv s sv) :
    Calls Tryz.prog 104 #[.pointer (some ⟨c, 0, none⟩), .int .i64 n, .int .i64 m] w fun e w' => e = .returned (.bool (sameB 32 (s.reach n) (s.reach m))) ∧ ∃ k, w' = w.drewN k := by
  have r1 := hs.row hn
  have r2 := hs.row hm
  have hg := Tryz.setGuard
  have he := fun w => run_equalIn_bools 9998 Tryz.underlying62 Tryz.underlying4 Tryz.infoBool (s.reach n) (s.reach m) w
  have n1 : (0 : Int) ≤ (n : Int) ∧ (n : Int) < 32 := by omega
  have m1 : (0 : Int) ≤ (m : Int) ∧ (m : Int) < 32 := by omega
  go_enter Tryz.func104, Tryz.ntmps104
  go_wp2
  refine wp_region_quiet_lit (by kernel_rfl) (by kernel_rfl) ?_
  repeat (quiet_step (fail))
  refine wpQuiet_load_mid (by rfl) _ _ rfl _ _ rfl (bools 32 (s.reach n)).toList _ r1 Tryz.underlying62 rfl (Tryz.sizeSet _) ?_
  simp only [Act.put, List.setIfInBounds_toArray, List.set_cons_zero, List.set_cons_succ, Array.toArray_toList]
  repeat (quiet_step (fail))
  refine wpQuiet_load_mid (by rfl) _ _ rfl _ _ rfl (bools 32 (s.reach m)).toList _ r2 Tryz.underlying62 rfl (Tryz.sizeSet _) ?_
  simp only [Act.put, List.setIfInBounds_toArray, List.set_cons_zero, List.set_cons_succ, Array.toArray_toList]
  repeat (quiet_step (fail))
  refine wpQuiet_nil ?_
  rintro _ ⟨nq, rfl⟩
  go_wp2
  go_ret
  exact ⟨rfl, _, rfl⟩

end Go.Proofs.YtkoefoccbjhoiacGreat

namespace Go.Proofs.YtkoefoccbjhoiacGreat
open Go.RowKit

theorem grown_drew {w w1 : World} {row : Option Nat} (h : w.grownBy w1 row) : w.grownBy w1.drew row := ⟨h.os, h.tape, h.output, h.size, h.block⟩
theorem grown_below {w w1 : World} {c : Nat} (h : w.grownBy w1 (some c)) (hc : c < w.heap.size) : Below c w w1 :=
  (Below.refl _ _).grown h (by omega) (by intro k hk; cases hk; exact Nat.le_refl _)
theorem below_grown {w w1 : World} (h : Below w.heap.size w w1) (row : Option Nat) : w.grownBy w1 row := ⟨h.os, h.tape, h.output, h.size, fun k hk _ => h.block k hk⟩
theorem StAt.later {w w1 : World} {c B : Nat} {gv : Nat → Value} {s : St} {sv : Value} (h : StAt w c gv s sv) (hb : Below B w w1) (hc : c < B) : StAt w1 c gv s sv := BlkAt.later h hb hc
theorem StAt.lt {w : World} {c : Nat} {gv : Nat → Value} {s : St} {sv : Value} (h : StAt w c gv s sv) : c < w.heap.size := BlkAt.lt h
theorem StAt.alloc {w : World} {c : Nat} {gv : Nat → Value} {s : St} {sv : Value} (h : StAt w c gv s sv) (o : Obj) : StAt (w.alloc o) c gv s sv :=
  h.later (B := w.heap.size) ((Below.refl _ _).alloc (Nat.le_refl _) _) h.lt

def inclTo (s : St) (n : Nat) (T : Nat → Bool) (k : Nat) : St := { s with reach := upd s.reach n (fun j => s.reach n j || (decide (j < k) && T j)) }
theorem inclTo_zero (s : St) (n : Nat) (T : Nat → Bool) : inclTo s n T 0 = s := by
  unfold inclTo
  have : upd s.reach n (fun j => s.reach n j || (decide (j < 0) && T j)) = s.reach := by
    funext i j
    unfold upd
    split
    · rename_i e; subst e; simp
    · rfl
  rw [this]
theorem inclTo_hit (s : St) (n : Nat) (T : Nat → Bool) (k : Nat) (h : T k = true) : ({ inclTo s n T k with reach := upd (inclTo s n T k).reach n (upd ((inclTo s n T k).reach n) k true) } : St) = inclTo s n T (k + 1) := by
  unfold inclTo
  simp only [upd_same]
  congr 1
  funext i j
  unfold upd
  by_cases e : i = n
  · simp only [e, if_true]
    by_cases e2 : j = k
    · subst e2; simp [h]
    · have : decide (j < k + 1) = decide (j < k) := by rw [Bool.eq_iff_iff]; simp; omega
      simp [e2, this]
  · simp [e]
theorem inclTo_miss (s : St) (n : Nat) (T : Nat → Bool) (k : Nat) (h : T k = false) : inclTo s n T (k + 1) = inclTo s n T k := by
  unfold inclTo
  congr 2
  funext j
  by_cases e2 : j = k
  · subst e2; simp [h]
  · have : decide (j < k + 1) = decide (j < k) := by rw [Bool.eq_iff_iff]; simp; omega
    rw [this]
theorem StAt.same {w : World} {c : Nat} {gv : Nat → Value} {s s' : St} {sv : Value} (h : StAt w c gv s sv) (h1 : s.met = s'.met) (h2 : ∀ i, i < 32 → s.turn i = s'.turn i) (h3 : ∀ i, i < 32 → s.back i = s'.back i) (h4 : ∀ i, i < 32 → s.opn i = s'.opn i)
    (h5 : ∀ i j, i < 32 → j < 32 → s.reach i j = s'.reach i j) : StAt w c gv s' sv := by
  refine BlkAt.congr h fun i hi => ?_
  unfold sCell
  repeat' split
  · rfl
  · rw [h1]
  · rw [h2 _ (by omega)]
  · rw [h3 _ (by omega)]
  · rfl
  · rw [h4 _ (by omega)]
  · rw [h5 _ _ (by omega) (by omega)]

set_option maxRecDepth 100000 in
set_option maxHeartbeats 400000 in
theorem incl_any (c : Nat) (gv : Nat → Value) (s : St) (sv : Value) (n : Nat) (hn : n < 32) (T : Nat → Bool) (w : World) (hs : StAt w c gv s sv) :
    Calls Tryz.prog 102 #[.pointer (some ⟨c, 162 + n * 32, none⟩), .agg (bools 32 T)] w fun e w' => e = .returned (.tuple #[]) ∧ StAt w' c gv { s with reach := upd s.reach n (fun j => s.reach n j || T j) } sv ∧ w.grownBy w' (some c) := by
  have hlt := hs.lt
  go_enter Tryz.func102, Tryz.ntmps102
  go_wp2_with (refine wpList_load_row rfl 62 _ rfl w.heap.size rfl 62 (bools 32 T) (0, 0) _ (heap_new _ _) Tryz.underlying62 rfl (by rw [bools_size]; exact Tryz.infoSet) ?_)
  have hg0 : w.grownBy (w.alloc (.cells (bools 32 T) 62)) (some c) := grown_alloc (World.grownBy.refl _ _) _
  have hs0 := hs.alloc (.cells (bools 32 T) 62)
  rw [← inclTo_zero s n T] at hs0
  clear hs
  go_loopw [7] (fun i wr => ∃ k : Nat, k ≤ 32 ∧ i = .int .i64 k ∧ StAt wr c gv (inclTo s n T k) sv ∧ w.grownBy wr (some c)) (fun i _ => 32 - (intOf i).toNat)
  case atStart => exact ⟨0, Nat.zero_le _, rfl, hs0, hg0⟩
  case round =>
    obtain ⟨k, hk, rfl, hS, hG⟩ := hrel
    clear hs0 hg0
    by_cases hlt : k < 32
    · have hix := fun wx => run_index_bools Tryz.underlying62 Tryz.underlying4 Tryz.infoBool T hlt wx
      cases tk : T k
      · rw [tk] at hix
        have HM : Hid (inclTo s n T (k + 1) = inclTo s n T k) := inclTo_miss s n T k tk
        go_wp2
        go_roundw
        case rel => exact ⟨k + 1, by omega, by go_num, by rw [HM.out]; exact hS, hG⟩
        case measure => simp [intOf]; omega
      · rw [tk] at hix
        have c0 : wr.cell? ⟨c, 162 + n * 32 + k, none⟩ = some (.bool ((inclTo s n T k).reach n k)) := by rw [BlkAt.cell hS (by omega), sCell_reach _ _ _ hlt]
        have f0 : wr.frozen? ⟨c, 162 + n * 32 + k, none⟩ = false := BlkAt.frozen hS _
        have HS : Hid (StAt wr c gv (inclTo s n T k) sv) := hS
        have HM : Hid (_ = inclTo s n T (k + 1)) := inclTo_hit s n T k tk
        clear hS
        go_wp2
        go_roundw
        case rel => exact ⟨k + 1, by omega, by go_num, by rw [← HM.out]; exact HS.out.putReach hlt true, grown_put_same hG _ _⟩
        case measure => simp [intOf]; omega
    · go_wp2
      go_end0
      obtain rfl : k = 32 := by omega
      refine ⟨rfl, hS.same rfl (fun _ _ => rfl) (fun _ _ => rfl) (fun _ _ => rfl) (fun i j _ hj => ?_), hG⟩
      unfold inclTo upd
      by_cases e : i = n
      · simp [e, hj]
      · simp [e]

set_option maxRecDepth 100000 in
set_option maxHeartbeats 400000 in
theorem index_any (a : Option Addr) (cap : Nat) (zs : List Int) (n : Int) (i : Nat) (w : World) (hl : zs.length ≤ maxLen) (hz : IntsAt w.heap.size w a zs) (hi : i < zs.length) (hn : zs.getD i 0 = n) (hb : ∀ j, j < i → zs.getD j 0 ≠ n) :
    Calls Tryz.prog 126 #[.slice a zs.length cap, .int .i64 n] w fun e w' => e = .returned (.int .i64 i) ∧ w' = w := by
  unfold maxLen at hl
  rcases hz with rfl | ⟨b, off, rfl, _, hc⟩
  · simp at hi
  · have h64 : (zs.length : Int) ≤ 9223372036854775807 := by omega
    go_enter Tryz.func126, Tryz.ntmps126
    go_wp2
    go_loop [8] (fun v => ∃ k : Nat, k ≤ i ∧ v = .int .i64 k) (fun v => zs.length - (intOf v).toNat)
    case atStart => exact ⟨0, Nat.zero_le _, rfl⟩
    case round =>
      obtain ⟨k, hk, rfl⟩ := hrel
      have hlt : k < zs.length := by omega
      obtain ⟨q, Hq⟩ : ∃ q : Int, Hid (zs.getD k 0 = q) := ⟨_, rfl⟩
      have e0 : w.cell? ⟨b, off + k, none⟩ = some (.int .i64 q) := by rw [← Hq.out]; exact hc k hlt
      clear hc
      by_cases e : k = i
      · subst e
        have hq : (n == q) = true := by rw [← Hq.out, hn]; simp
        go_wp2
        go_ret
        exact ⟨rfl, rfl⟩
      · have hq : (n == q) = false := by
          have := hb k (by omega)
          rw [Hq.out] at this
          exact beq_eq_false_iff_ne.2 (fun h => this h.symm)
        go_wp2
        go_round
        case rel => exact ⟨k + 1, by omega, by go_num⟩
        case measure => simp [intOf]; omega

end Go.Proofs.YtkoefoccbjhoiacGreat
