/-
  Values that are lists of ints, or of operations, and where they lie.
  Two rows of numbers are alike.
  Plain mathematics of who has a transaction: a case, what is sent again, what an answer makes of it, what it tells.
  A case as it lies in memory: 24 cells (two truths, the operations, six and six truths, what stands ahead, four truths, four numbers), and the lists that they name.
  Two rows of numbers, of truths, compared.
  Plain mathematics of a case, as its functions count: what is wanted of a node, how many told, whether all is had.
  The contracts of slices.Clone over ints and over operations.
  Frames in memory: where their lists lie; lists of frames that a call made.
  Loads of whole rows in a walk, guarded or not: to be used as 'with_reducible apply' (so that an operation of another kind is passed by at once).
-/
import Derived.Test.YtkoefoccbjhoiabPbg2
import Derived.Test.YtkoefoccbjhoiabPbg3
import Derived.Test.YtkoefoccbjhoiabPbg1
import Derived.OwnWalk
import Derived.ArgAppend
import Derived.Lib.SliceRun
set_option linter.unusedVariables false
set_option linter.unusedSimpArgs false
namespace Go.Proofs.Ytkoefoccbjhoiab
open Go.RowKit

/-- A list of ints in a block of which 'ok' holds: nothing, or its cells. -/
def IntsIn (ok : Nat → Prop) (w : World) (a : Option Addr) (zs : List Int) : Prop :=
  zs = [] ∨ ∃ b off, a = some ⟨b, off, none⟩ ∧ ok b ∧ ∀ i, i < zs.length → w.cell? ⟨b, off + i, none⟩ = some (.int .i64 (zs.getD i 0))
def OpsIn (ok : Nat → Prop) (w : World) (a : Option Addr) (zs : List OpL) : Prop :=
  zs = [] ∨ ∃ b off, a = some ⟨b, off, none⟩ ∧ ok b ∧ ∀ i, i < zs.length → w.cell? ⟨b, off + i * 3, none⟩ = some (.int .i64 (zs.getD i (0, 0, 0)).1) ∧
    w.cell? ⟨b, off + i * 3 + 1, none⟩ = some (.int .i64 (zs.getD i (0, 0, 0)).2.1) ∧ w.cell? ⟨b, off + i * 3 + 2, none⟩ = some (.int .i64 (zs.getD i (0, 0, 0)).2.2)

/-- Blocks of which 'ok' holds are as they were. -/
def SameOn (ok : Nat → Prop) (w w' : World) : Prop := ∀ k, k < w.heap.size → ok k → w'.heap[k]? = w.heap[k]?
theorem SameOn.cell {ok : Nat → Prop} {w w' : World} (h : SameOn ok w w') {p : Addr} {v : Value} (hc : w.cell? p = some v) (hk : ok p.block) : w'.cell? p = some v :=
  (World.cell?_of_block (h p.block (World.block_lt_of_cell? w p hc) hk)).trans hc
theorem SameOn.of_below {ok : Nat → Prop} {B : Nat} {w w' : World} (h : Below B w w') (hk : ∀ k, k < w.heap.size → ok k → k < B) : SameOn ok w w' := fun k h1 h2 => h.block k (hk k h1 h2)
theorem SameOn.of_size {ok : Nat → Prop} {w w' : World} (h : Below w.heap.size w w') : SameOn ok w w' := fun k h1 _ => h.block k h1
theorem SameOn.trans {ok : Nat → Prop} {w w1 w2 : World} (h : SameOn ok w w1) (hs : w.heap.size ≤ w1.heap.size) (k : SameOn ok w1 w2) : SameOn ok w w2 := fun i h1 h2 => (k i (by omega) h2).trans (h i h1 h2)

theorem IntsIn.later {ok : Nat → Prop} {w w' : World} {a : Option Addr} {zs : List Int} (h : IntsIn ok w a zs) (hB : SameOn ok w w') : IntsIn ok w' a zs := by
  rcases h with h | ⟨b, off, ha, hb, hc⟩
  · exact Or.inl h
  · exact Or.inr ⟨b, off, ha, hb, fun i hi => hB.cell (hc i hi) hb⟩
theorem IntsIn.mono {ok ok' : Nat → Prop} {w : World} {a : Option Addr} {zs : List Int} (h : IntsIn ok w a zs) (hk : ∀ k, k < w.heap.size → ok k → ok' k) : IntsIn ok' w a zs := by
  rcases h with h | ⟨b, off, ha, hb, hc⟩
  · exact Or.inl h
  · cases zs with
    | nil => exact Or.inl rfl
    | cons z r =>
      have := World.block_lt_of_cell? w _ (hc 0 (by simp))
      exact Or.inr ⟨b, off, ha, hk b this hb, hc⟩
theorem IntsIn.at {ok : Nat → Prop} {w : World} {a : Option Addr} {zs : List Int} (h : IntsIn ok w a zs) : IntsAt w.heap.size w a zs := by
  rcases h with h | ⟨b, off, ha, hb, hc⟩
  · exact Or.inl h
  · cases zs with
    | nil => exact Or.inl rfl
    | cons z r => exact Or.inr ⟨b, off, ha, World.block_lt_of_cell? w _ (hc 0 (by simp)), hc⟩
theorem IntsIn.of_at {B : Nat} {w : World} {a : Option Addr} {zs : List Int} (h : IntsAt B w a zs) : IntsIn (· < B) w a zs := h
theorem OpsIn.later {ok : Nat → Prop} {w w' : World} {a : Option Addr} {zs : List OpL} (h : OpsIn ok w a zs) (hB : SameOn ok w w') : OpsIn ok w' a zs := by
  rcases h with h | ⟨b, off, ha, hb, hc⟩
  · exact Or.inl h
  · exact Or.inr ⟨b, off, ha, hb, fun i hi => ⟨hB.cell (hc i hi).1 hb, hB.cell (hc i hi).2.1 hb, hB.cell (hc i hi).2.2 hb⟩⟩
theorem OpsIn.mono {ok ok' : Nat → Prop} {w : World} {a : Option Addr} {zs : List OpL} (h : OpsIn ok w a zs) (hk : ∀ k, k < w.heap.size → ok k → ok' k) : OpsIn ok' w a zs := by
  rcases h with h | ⟨b, off, ha, hb, hc⟩
  · exact Or.inl h
  · cases zs with
    | nil => exact Or.inl rfl
    | cons z r =>
      have := World.block_lt_of_cell? w _ (hc 0 (by simp)).1
      exact Or.inr ⟨b, off, ha, hk b this hb, hc⟩
theorem OpsIn.at {ok : Nat → Prop} {w : World} {a : Option Addr} {zs : List OpL} (h : OpsIn ok w a zs) : OpsAt w a zs := by
  rcases h with h | ⟨b, off, ha, hb, hc⟩
  · exact Or.inl h
  · cases zs with
    | nil => exact Or.inl rfl
    | cons z r => exact Or.inr ⟨b, off, ha, World.block_lt_of_cell? w _ (hc 0 (by simp)).1, hc⟩

/-- A value that is a list of ints; of operations. -/
def IsI (ok : Nat → Prop) (w : World) (v : Value) (zs : List Int) : Prop := ∃ a cap, v = .slice a zs.length cap ∧ IntsIn ok w a zs ∧ zs.length * 8 ≤ 140737488355328 ∧ zs.length ≤ cap ∧ (a = none → zs.length = 0 ∧ cap = 0)
def IsO (ok : Nat → Prop) (w : World) (v : Value) (zs : List OpL) : Prop := ∃ a cap, v = .slice a zs.length cap ∧ OpsIn ok w a zs ∧ zs.length * 24 ≤ 140737488355328 ∧ zs.length ≤ cap ∧ (a = none → zs.length = 0 ∧ cap = 0)
theorem IsI.later {ok : Nat → Prop} {w w' : World} {v : Value} {zs : List Int} (h : IsI ok w v zs) (hB : SameOn ok w w') : IsI ok w' v zs := by
  obtain ⟨a, cap, h1, h2, h3⟩ := h
  exact ⟨a, cap, h1, h2.later hB, h3⟩
theorem IsI.mono {ok ok' : Nat → Prop} {w : World} {v : Value} {zs : List Int} (h : IsI ok w v zs) (hk : ∀ k, k < w.heap.size → ok k → ok' k) : IsI ok' w v zs := by
  obtain ⟨a, cap, h1, h2, h3⟩ := h
  exact ⟨a, cap, h1, h2.mono hk, h3⟩
theorem IsI.sl {ok : Nat → Prop} {w : World} {v : Value} {zs : List Int} (h : IsI ok w v zs) : ∃ a cap, v = .slice a zs.length cap ∧ SlInts w a cap zs := by
  obtain ⟨a, cap, h1, h2, h3, h4, h5⟩ := h
  exact ⟨a, cap, h1, h2.at, by unfold maxLen; omega, h4, h5⟩
theorem IsI.of_sl {w : World} {a : Option Addr} {cap : Nat} {zs : List Int} (h : SlInts w a cap zs) (hl : zs.length * 8 ≤ 140737488355328) : IsI (· < w.heap.size) w (.slice a zs.length cap) zs := ⟨a, cap, rfl, IntsIn.of_at h.1, hl, h.2.2.1, h.2.2.2⟩
theorem IsI.nil (ok : Nat → Prop) (w : World) : IsI ok w (.slice none 0 0) [] := ⟨none, 0, rfl, Or.inl rfl, by decide, Nat.le_refl _, fun _ => ⟨rfl, rfl⟩⟩
theorem IsI.one {ok : Nat → Prop} {w : World} {v : Value} {zs : List Int} (h : IsI ok w v zs) : v.oneCell' = true := by
  obtain ⟨a, cap, rfl, _⟩ := h
  rfl
theorem IsO.later {ok : Nat → Prop} {w w' : World} {v : Value} {zs : List OpL} (h : IsO ok w v zs) (hB : SameOn ok w w') : IsO ok w' v zs := by
  obtain ⟨a, cap, h1, h2, h3⟩ := h
  exact ⟨a, cap, h1, h2.later hB, h3⟩
theorem IsO.mono {ok ok' : Nat → Prop} {w : World} {v : Value} {zs : List OpL} (h : IsO ok w v zs) (hk : ∀ k, k < w.heap.size → ok k → ok' k) : IsO ok' w v zs := by
  obtain ⟨a, cap, h1, h2, h3⟩ := h
  exact ⟨a, cap, h1, h2.mono hk, h3⟩
theorem IsO.sl {ok : Nat → Prop} {w : World} {v : Value} {zs : List OpL} (h : IsO ok w v zs) : ∃ a cap, v = .slice a zs.length cap ∧ SlOps w a cap zs := by
  obtain ⟨a, cap, h1, h2, h3, h4, h5⟩ := h
  exact ⟨a, cap, h1, h2.at, by unfold maxLen; omega, h4, h5⟩
theorem IsO.of_sl {w : World} {a : Option Addr} {cap : Nat} {zs : List OpL} (h : SlOps w a cap zs) (hl : zs.length * 24 ≤ 140737488355328) : IsO (· < w.heap.size) w (.slice a zs.length cap) zs := ⟨a, cap, rfl, h.1, hl, h.2.2.1, h.2.2.2⟩
theorem IsO.nil (ok : Nat → Prop) (w : World) : IsO ok w (.slice none 0 0) [] := ⟨none, 0, rfl, Or.inl rfl, by decide, Nat.le_refl _, fun _ => ⟨rfl, rfl⟩⟩
theorem IsO.one {ok : Nat → Prop} {w : World} {v : Value} {zs : List OpL} (h : IsO ok w v zs) : v.oneCell' = true := by
  obtain ⟨a, cap, rfl, _⟩ := h
  rfl
/-- What the call made for itself. -/
theorem IsI.of_owns {w : World} {base : Nat} {e : TypeId} {v : Value} {zs : List Int} (h : w.ownsRow base e 1 v zs.length (intCells zs)) (hl : zs.length * 8 ≤ 140737488355328) : IsI (fun b => base ≤ b ∧ v.ownBlock = some b) w v zs := by
  obtain ⟨a, cap, rfl, h1, h2⟩ := own_form h
  refine ⟨a, cap, rfl, ?_, hl, h1, h2⟩
  obtain ⟨a', cap', he, hi⟩ := IntsAt.of_owns h
  simp at he
  obtain ⟨rfl, rfl⟩ := he
  rcases hi with hi | ⟨b, off, rfl, hb, hc⟩
  · exact Or.inl hi
  · exact Or.inr ⟨b, off, rfl, ⟨(World.ownsRow.lt h b rfl).1, rfl⟩, hc⟩
theorem IsO.of_owns {w : World} {base : Nat} {e : TypeId} {v : Value} {zs : List OpL} (h : w.ownsRow base e 3 v zs.length (opsCells zs)) (hl : zs.length * 24 ≤ 140737488355328) : IsO (fun b => base ≤ b ∧ v.ownBlock = some b) w v zs := by
  obtain ⟨a, cap, rfl, h1, h2⟩ := own_form h
  refine ⟨a, cap, rfl, ?_, hl, h1, h2⟩
  obtain ⟨hi, _⟩ := SlOps.of_owns h
  rcases hi with hi | ⟨b, off, rfl, hb, hc⟩
  · exact Or.inl hi
  · exact Or.inr ⟨b, off, rfl, ⟨(World.ownsRow.lt h b rfl).1, rfl⟩, hc⟩

theorem rowF_all {N : Nat} {f : Nat → Value} (h : ∀ i, i < N → (f i).oneCell' = true) : (rowF N f).all (·.oneCell') = true := by
  refine Array.all_eq_true_iff_forall_mem.2 (fun v hv => ?_)
  simp [rowF] at hv
  obtain ⟨i, hi, rfl⟩ := hv
  exact h i hi

end Go.Proofs.Ytkoefoccbjhoiab

namespace Go.Proofs.Ytkoefoccbjhoiab
open Go.RowKit

theorem run_part_ints {P : Program} {e : TypeId} (he : P.underlying e = some (.int .i64)) (hi : (P.info? e).map (·.size) = some 1) {n : Nat} (S : Nat → Int) {k : Nat} (hk : k < n) (w : World) :
    (part e (rowF n fun i => .int .i64 (S i)) k).run P w = .ok (.int .i64 (S k)) w := by
  cases hq : P.info? e with
  | none => simp [hq] at hi
  | some i =>
    have hs : i.size = 1 := by simpa [hq] using hi
    have hg := rowF_get (fun i => Value.int .i64 (S i)) hk
    simp [part, isAgg, run_underlying he, sizeOf, typeInfo, hq, hs, hg, go_sem]
    try omega
theorem run_equalIn_row {P : Program} {t e : TypeId} {n : Nat} (d : Nat) (ht : P.underlying t = some (.array n e)) (he : P.underlying e = some (.int .i64)) (hi : (P.info? e).map (·.size) = some 1) (S : Nat → Int) (w : World) :
    (Op.equalIn (d + 2) t (.agg (rowF n fun i => .int .i64 (S i))) (.agg (rowF n fun i => .int .i64 (S i)))).run P w = .ok true w := by
  have hsz : ∀ w, (sizeOf e).run P w = .ok 1 w := by
    intro w
    cases hq : P.info? e with
    | none => simp [hq] at hi
    | some i =>
      have hs : i.size = 1 := by simpa [hq] using hi
      simp [sizeOf, typeInfo, hq, hs]
  rw [Op.equalIn]
  simp only [Sem.run_bind, run_underlying ht, Result.andThen_ok, hsz, Std.Legacy.Range.forIn_eq_forIn_range', Std.Legacy.Range.size, Nat.sub_zero, Nat.add_sub_cancel, Nat.div_one]
  have hl : ∀ i ∈ List.range' 0 n 1, i < n := fun i hi => by simpa using (List.mem_range'_1.1 hi).2
  generalize List.range' 0 n 1 = l at hl ⊢
  induction l with
  | nil => simp
  | cons i l ih =>
    have hk : i < n := hl i (by simp)
    have px := run_part_ints he hi S hk w
    have pe : (Op.equalIn (d + 1) e (.int .i64 (S i)) (.int .i64 (S i))).run P w = .ok true w := by simp [Op.equalIn, run_underlying he]
    simp only [List.forIn_cons, Sem.run_bind, Nat.mul_one, px, pe, Result.andThen_ok]
    simp only [Bool.not_true, Bool.false_eq_true, if_false, Sem.run_pure, Result.andThen_ok]
    simpa only [Nat.mul_one] using ih fun j hj => hl j (by simp [hj])
theorem Try.infoInt1 : (Try.prog.info? 3).map (·.size) = some 1 := by kernel_rfl
theorem Try.infoVals : (Try.prog.info? 39).map (·.size) = some 8 := by kernel_rfl
theorem Try.valsGuard : Try.prog.eqGuardType Try.prog.depth 39 = false := by kernel_rfl

end Go.Proofs.Ytkoefoccbjhoiab

namespace Go.Proofs.Ytkoefoccbjhoiab
open Go.RowKit

structure CaseL where
  begun : Bool
  fixed : Bool
  ops : List OpL
  told : Nat → Bool
  known : Nat → Bool
  deps : List Int
  has : Nat → Bool
  vals : Nat → Int
def zeroC : CaseL := ⟨false, false, [], fun _ => false, fun _ => false, [], fun _ => false, fun _ => 0⟩
def noneB (n : Nat) (p : Nat → Bool) : Bool := (List.range n).all fun i => !p i
/-- P6.1. -/
def goodCB (c : CaseL) : Bool :=
  if c.begun then goodOpsL c.ops && risingFrom (-1) c.deps
  else !c.fixed && c.ops.isEmpty && noneB 6 c.told && noneB 6 c.known && c.deps.isEmpty && noneB 4 c.has && (List.range 4).all fun i => c.vals i == 0
def joinL (a b : List Int) : List Int := unionTo (fun i => a.contains (i : Int) || b.contains (i : Int)) 32
/-- P6.3: something of a shard is not known yet. -/
def CaseL.lacks (c : CaseL) (sh : Int) : Bool := (List.range c.ops.length).any fun i => touchB sh (c.ops.getD i (0, 0, 0)) && !c.has i
def CaseL.send (c : CaseL) (id : Int) (n : Nat) : List FrameL :=
  if c.fixed then (if !c.known n || c.lacks (ofL n) then [⟨3, n, id, c.ops, c.deps, [], []⟩] else [])
  else if touchesL c.ops (ofL n) && !c.told n then [⟨1, n, id, c.ops, [], [], []⟩] else []
/-- P6.3. -/
def againC (c : CaseL) (id : Int) : List FrameL :=
  if goodCB c = false ∨ c.begun = false ∨ id < 0 ∨ 32 ≤ id ∨ hasL c.deps id = true then [] else (List.range 6).flatMap (c.send id)
/-- P6.2. -/
def beginC (id : Int) (ops : List OpL) : CaseL × List FrameL × Int :=
  if id < 0 ∨ 32 ≤ id then (zeroC, [], 2) else if goodOpsL ops = false then (zeroC, [], 1)
  else ({ zeroC with begun := true, ops := ops }, againC { zeroC with begun := true, ops := ops } id, 0)
def toldOf (t : Nat → Bool) (sh : Nat) : Nat := ((List.range 3).filter fun k => t (sh * 3 + k)).length
/-- Most of each shard that is touched have told. -/
def mostB (ops : List OpL) (t : Nat → Bool) : Bool := (!touchesL ops 0 || decide (2 ≤ toldOf t 0)) && (!touchesL ops 1 || decide (2 ≤ toldOf t 1))
def CaseL.hear (c : CaseL) (f : FrameL) : CaseL :=
  { c with told := upd c.told f.node.toNat true, deps := joinL c.deps f.deps, fixed := mostB c.ops (upd c.told f.node.toNat true) }
/-- P6.6: one of what was told. -/
def CaseL.done1 (sh : Int) (c : CaseL) (p : Int × Int) : CaseL :=
  if p.1 < c.ops.length ∧ touchB sh (c.ops.getD p.1.toNat (0, 0, 0)) = true ∧ c.has p.1.toNat = false then { c with has := upd c.has p.1.toNat true, vals := upd c.vals p.1.toNat p.2 } else c
def CaseL.dones (c : CaseL) (sh : Int) (l : List (Int × Int)) : CaseL := l.foldl (CaseL.done1 sh) c
/-- P6.4 to P6.6. -/
def takeC (c : CaseL) (id : Int) (f : FrameL) : CaseL × List FrameL × Int :=
  if goodCB c = false ∨ c.begun = false ∨ f.id ≠ id ∨ hasL c.deps id = true then (c, [], 2)
  else if goodL f ≠ 0 then (c, [], goodL f)
  else if f.kind = 1 ∨ f.kind = 3 then (c, [], 3)
  else if f.kind = 2 then
    if c.fixed = true ∨ c.told f.node.toNat = true ∨ touchesL c.ops (ofL f.node) = false then (c, [], 0)
    else (c.hear f, if (c.hear f).fixed then againC (c.hear f) id else [], 0)
  else if c.fixed = false then (c, [], 0)
  else if f.kind = 4 then ({ c with known := upd c.known f.node.toNat true }, [], 0)
  else (c.dones (ofL f.node) (f.ats.zip f.vals), [], 0)
/-- P6.7. -/
def resultC (c : CaseL) : List Int × Bool :=
  if c.begun = false ∨ goodCB c = false ∨ c.lacks 0 = true ∨ c.lacks 1 = true then ([], false) else ((List.range c.ops.length).map c.vals, true)

/-! ### What a step keeps -/
/-- What is not of the values: the same. -/
structure SameC (c d : CaseL) : Prop where
  begun : d.begun = c.begun
  fixed : d.fixed = c.fixed
  ops : d.ops = c.ops
  told : d.told = c.told
  deps : d.deps = c.deps
theorem SameC.refl (c : CaseL) : SameC c c := ⟨rfl, rfl, rfl, rfl, rfl⟩
theorem SameC.trans {a b c : CaseL} (h : SameC a b) (k : SameC b c) : SameC a c := ⟨k.begun.trans h.begun, k.fixed.trans h.fixed, k.ops.trans h.ops, k.told.trans h.told, k.deps.trans h.deps⟩
/-- What is known of an operation stays so. -/
def KeepV (c d : CaseL) : Prop := ∀ i, c.has i = true → d.has i = true ∧ d.vals i = c.vals i
theorem KeepV.refl (c : CaseL) : KeepV c c := fun _ h => ⟨h, rfl⟩
theorem KeepV.trans {a b c : CaseL} (h : KeepV a b) (k : KeepV b c) : KeepV a c := fun i hi => ⟨(k i (h i hi).1).1, ((k i (h i hi).1).2).trans (h i hi).2⟩
theorem done1_keeps (sh : Int) (c : CaseL) (p : Int × Int) : SameC c (CaseL.done1 sh c p) ∧ KeepV c (CaseL.done1 sh c p) := by
  unfold CaseL.done1
  split
  · rename_i h
    refine ⟨⟨rfl, rfl, rfl, rfl, rfl⟩, fun i hi => ?_⟩
    have hne : i ≠ p.1.toNat := fun e => by rw [e, h.2.2] at hi; cases hi
    exact ⟨by show upd _ _ _ i = true; rw [upd_other _ _ hne]; exact hi, upd_other _ _ hne⟩
  · exact ⟨SameC.refl c, KeepV.refl c⟩
theorem dones_keeps (sh : Int) : ∀ (l : List (Int × Int)) (c : CaseL), SameC c (c.dones sh l) ∧ KeepV c (c.dones sh l)
  | [], c => ⟨SameC.refl c, KeepV.refl c⟩
  | p :: l, c => by
    have h1 := done1_keeps sh c p
    have h2 := dones_keeps sh l (CaseL.done1 sh c p)
    exact ⟨h1.1.trans h2.1, h1.2.trans h2.2⟩

/-- What one answer makes of a case that is begun: one of four things. -/
theorem takeC_cases (c : CaseL) (id : Int) (f : FrameL) :
    ((takeC c id f).2.2 ≠ 0 ∧ (takeC c id f).1 = c ∧ (takeC c id f).2.1 = []) ∨
    ((takeC c id f).2.2 = 0 ∧ goodL f = 0 ∧ f.kind = 2 ∧ c.fixed = false ∧ c.told f.node.toNat = false ∧ touchesL c.ops (ofL f.node) = true ∧ (takeC c id f).1 = c.hear f ∧ ((takeC c id f).2.1 ≠ [] → (c.hear f).fixed = true)) ∨
    ((takeC c id f).2.2 = 0 ∧ (takeC c id f).2.1 = [] ∧ (f.kind = 2 → c.fixed = true ∨ c.told f.node.toNat = true ∨ touchesL c.ops (ofL f.node) = false) ∧ SameC c (takeC c id f).1 ∧ KeepV c (takeC c id f).1 ∧ (c.fixed = false → (takeC c id f).1 = c)) := by
  unfold takeC
  split
  · left; exact ⟨(show (2 : Int) ≠ 0 by decide), rfl, rfl⟩
  · split
    · rename_i h; left; exact ⟨h, rfl, rfl⟩
    · rename_i hg
      have hg : goodL f = 0 := by
        by_cases e : goodL f = 0
        · exact e
        · exact absurd e hg
      split
      · left; exact ⟨(show (3 : Int) ≠ 0 by decide), rfl, rfl⟩
      · split
        · rename_i hk
          split
          · rename_i h
            right; right
            exact ⟨rfl, rfl, fun _ => h, SameC.refl c, KeepV.refl c, fun _ => rfl⟩
          · rename_i h
            right; left
            have h1 : c.fixed = false := by cases e : c.fixed; rfl; exact absurd (Or.inl e) h
            have h2 : c.told f.node.toNat = false := by cases e : c.told f.node.toNat; rfl; exact absurd (Or.inr (Or.inl e)) h
            have h3 : touchesL c.ops (ofL f.node) = true := by cases e : touchesL c.ops (ofL f.node); exact absurd (Or.inr (Or.inr e)) h; rfl
            refine ⟨rfl, hg, hk, h1, h2, h3, rfl, fun hn => ?_⟩
            cases e : (c.hear f).fixed
            · exact absurd (by show (if (c.hear f).fixed = true then _ else _) = _; rw [e]; rfl) hn
            · rfl
        · rename_i hk
          split
          · right; right
            exact ⟨rfl, rfl, fun e => absurd e hk, SameC.refl c, KeepV.refl c, fun _ => rfl⟩
          · rename_i hf
            split
            · right; right
              exact ⟨rfl, rfl, fun e => absurd e hk, ⟨rfl, rfl, rfl, rfl, rfl⟩, KeepV.refl c, fun e => absurd e hf⟩
            · right; right
              have h1 := dones_keeps (ofL f.node) (f.ats.zip f.vals) c
              exact ⟨rfl, rfl, fun e => absurd e hk, h1.1, h1.2, fun e => absurd e hf⟩

/-! ### What is fixed is what most of each shard told -/
structure FixInv (ops : List OpL) (c : CaseL) (t : Nat → Bool) (d : List Int) : Prop where
  begun : c.begun = true
  eops : c.ops = ops
  told : c.told = t
  deps : c.deps = d
  most : c.fixed = true → mostB ops t = true
theorem fix_begin {id : Int} {ops : List OpL} (h : (beginC id ops).2.2 = 0) : FixInv ops (beginC id ops).1 (fun _ => false) [] ∧ goodOpsL ops = true ∧ 0 ≤ id ∧ id < 32 := by
  unfold beginC at *
  split at h
  · exact absurd h (show (2 : Int) ≠ 0 by decide)
  · rename_i h1
    split at h
    · exact absurd h (show (1 : Int) ≠ 0 by decide)
    · rename_i h2
      rw [if_neg h1, if_neg h2]
      refine ⟨⟨rfl, rfl, rfl, rfl, fun e => (by cases e)⟩, ?_, ?_, ?_⟩
      · cases e : goodOpsL ops
        · exact absurd e h2
        · rfl
      · by_cases e : id < 0
        · exact absurd (Or.inl e) h1
        · omega
      · by_cases e : 32 ≤ id
        · exact absurd (Or.inr e) h1
        · omega
/-- One answer that is taken: what is heard is what the sentence gathers. -/
theorem fix_step {ops : List OpL} {c : CaseL} {t : Nat → Bool} {d : List Int} {id : Int} {f : FrameL} (h : FixInv ops c t d) (h0 : (takeC c id f).2.2 = 0) :
    FixInv ops (takeC c id f).1
      (if f.kind = 2 ∧ c.fixed = false ∧ t f.node.toNat = false ∧ touchesL ops (ofL f.node) = true then upd t f.node.toNat true else t)
      (if f.kind = 2 ∧ c.fixed = false ∧ t f.node.toNat = false ∧ touchesL ops (ofL f.node) = true then joinL d f.deps else d) ∧
    (c.fixed = true → (takeC c id f).1.fixed = true ∧ (takeC c id f).1.deps = c.deps) ∧
    ((takeC c id f).2.1 ≠ [] → c.fixed = false ∧ (takeC c id f).1.fixed = true) := by
  rcases takeC_cases c id f with ⟨h1, _⟩ | ⟨_, _, hk, hf, ht, hs, he, ho⟩ | ⟨_, ho, hn, hsame, _, hc⟩
  · exact absurd h0 h1
  · rw [he]
    have hcond : f.kind = 2 ∧ c.fixed = false ∧ t f.node.toNat = false ∧ touchesL ops (ofL f.node) = true := ⟨hk, hf, by rw [← h.told]; exact ht, by rw [← h.eops]; exact hs⟩
    rw [if_pos hcond, if_pos hcond]
    refine ⟨⟨h.begun, h.eops, ?_, ?_, ?_⟩, fun e => (by rw [hf] at e; cases e), fun e => ⟨hf, ho e⟩⟩
    · show upd c.told _ true = _; rw [h.told]
    · show joinL c.deps f.deps = _; rw [h.deps]
    · intro e
      have e : mostB c.ops (upd c.told f.node.toNat true) = true := e
      rw [h.eops, h.told] at e
      exact e
  · have hcond : ¬ (f.kind = 2 ∧ c.fixed = false ∧ t f.node.toNat = false ∧ touchesL ops (ofL f.node) = true) := by
      rintro ⟨hk, h1, h2, h3⟩
      rcases hn hk with e | e | e
      · rw [h1] at e; cases e
      · rw [h.told, h2] at e; cases e
      · rw [h.eops, h3] at e; cases e
    rw [if_neg hcond, if_neg hcond]
    refine ⟨⟨hsame.begun.trans h.begun, hsame.ops.trans h.eops, hsame.told.trans h.told, hsame.deps.trans h.deps, fun e => h.most (by rw [← hsame.fixed]; exact e)⟩, fun e => ⟨by rw [hsame.fixed]; exact e, hsame.deps⟩, fun e => absurd ho e⟩

/-! ### What it told stays so, and is known only when it is fixed -/
structure ResInv (ops : List OpL) (c : CaseL) : Prop where
  begun : c.begun = true
  eops : c.ops = ops
  good : goodCB c = true
  none : c.fixed = false → ∀ i, c.has i = false
theorem lacks_has {c : CaseL} (h0 : c.lacks 0 = false) (h1 : c.lacks 1 = false) {i : Nat} (hi : i < c.ops.length) : c.has i = true := by
  unfold CaseL.lacks at h0 h1
  rw [List.any_eq_false] at h0 h1
  have g0 := h0 i (List.mem_range.2 hi)
  have g1 := h1 i (List.mem_range.2 hi)
  cases e : c.has i
  · rw [e] at g0 g1
    simp [touchB] at g0 g1
    omega
  · rfl
theorem has_lacks {c : CaseL} (h : ∀ i, i < c.ops.length → c.has i = true) (sh : Int) : c.lacks sh = false := by
  unfold CaseL.lacks
  rw [List.any_eq_false]
  intro i hi
  rw [h i (List.mem_range.1 hi)]
  simp
theorem res_ok {ops : List OpL} {c : CaseL} (h : ResInv ops c) (hr : (resultC c).2 = true) : (∀ i, i < ops.length → c.has i = true) ∧ (resultC c).1 = (List.range ops.length).map c.vals := by
  unfold resultC at *
  split at hr
  · cases hr
  · rename_i hn
    rw [if_neg hn, h.eops]
    refine ⟨fun i hi => lacks_has ?_ ?_ (by rw [h.eops]; exact hi), rfl⟩
    · cases e : c.lacks 0
      · rfl
      · exact absurd (Or.inr (Or.inr (Or.inl e))) hn
    · cases e : c.lacks 1
      · rfl
      · exact absurd (Or.inr (Or.inr (Or.inr e))) hn
theorem res_has {ops : List OpL} {c : CaseL} (h : ResInv ops c) (hh : ∀ i, i < ops.length → c.has i = true) : (resultC c).2 = true := by
  unfold resultC
  rw [if_neg]
  rintro (e | e | e | e)
  · rw [h.begun] at e; cases e
  · rw [h.good] at e; cases e
  · rw [has_lacks (by rw [h.eops]; exact hh)] at e; cases e
  · rw [has_lacks (by rw [h.eops]; exact hh)] at e; cases e
theorem res_len {ops : List OpL} {c : CaseL} (h : ResInv ops c) (hr : (resultC c).2 = true) (hg : goodOpsL ops = true) : (resultC c).1.length = ops.length ∧ c.fixed = true := by
  obtain ⟨h1, h2⟩ := res_ok h hr
  refine ⟨by rw [h2]; simp, ?_⟩
  have hp : 0 < ops.length := by
    unfold goodOpsL at hg
    simp at hg
    omega
  cases e : c.fixed
  · have := h.none e 0
    rw [h1 0 hp] at this
    cases this
  · rfl
/-- What was told stays so. -/
theorem res_stays {ops : List OpL} {c d : CaseL} (h : ResInv ops c) (k : ResInv ops d) (hk : KeepV c d) (hr : (resultC c).2 = true) : (resultC d).2 = true ∧ (resultC d).1 = (resultC c).1 := by
  obtain ⟨h1, h2⟩ := res_ok h hr
  have hd := res_has k (fun i hi => (hk i (h1 i hi)).1)
  refine ⟨hd, ?_⟩
  rw [h2, (res_ok k hd).2]
  refine List.map_congr_left fun i hi => (hk i (h1 i (List.mem_range.1 hi))).2

theorem rises_of (xs : List Nat) : ∀ (l : Int), (∀ x ∈ xs, l < (x : Int) ∧ x < 32) → xs.Pairwise (· < ·) → risingFrom l (xs.map Int.ofNat) = true := by
  induction xs with
  | nil => intros; rfl
  | cons x r ih =>
    intro l h hp
    have hx := h x (by simp)
    obtain ⟨h1, h2⟩ := List.pairwise_cons.1 hp
    rw [List.map_cons, risingFrom, ih (Int.ofNat x) (fun y hy => ⟨by have := h1 y hy; simp; omega, (h y (by simp [hy])).2⟩) h2]
    have e1 : decide (Int.ofNat x ≤ l) = false := by simp; omega
    have e2 : decide (32 ≤ Int.ofNat x) = false := by simp; omega
    rw [e1, e2]
    rfl
theorem join_rises (a b : List Int) : risingFrom (-1) (joinL a b) = true := by
  refine rises_of _ _ (fun x hx => ?_) (List.Pairwise.filter _ List.pairwise_lt_range)
  have := List.mem_range.1 (List.mem_filter.1 hx).1
  omega
theorem res_begin {id : Int} {ops : List OpL} (h : (beginC id ops).2.2 = 0) : ResInv ops (beginC id ops).1 := by
  obtain ⟨hf, hg, _⟩ := fix_begin h
  have e : (beginC id ops).1 = { zeroC with begun := true, ops := ops } := by
    unfold beginC at *
    split at h
    · exact absurd h (show (2 : Int) ≠ 0 by decide)
    · rename_i h1
      split at h
      · exact absurd h (show (1 : Int) ≠ 0 by decide)
      · rename_i h2
        rw [if_neg h1, if_neg h2]
  rw [e]
  refine ⟨rfl, rfl, ?_, fun _ _ => rfl⟩
  unfold goodCB
  rw [if_pos rfl]
  show (goodOpsL ops && risingFrom (-1) []) = true
  rw [hg]
  rfl
theorem good_parts {c : CaseL} (hb : c.begun = true) : goodCB c = (goodOpsL c.ops && risingFrom (-1) c.deps) := by unfold goodCB; rw [if_pos hb]
/-- One answer, taken or not. -/
theorem res_step {ops : List OpL} {c : CaseL} {id : Int} {f : FrameL} (h : ResInv ops c) : ResInv ops (takeC c id f).1 ∧ KeepV c (takeC c id f).1 := by
  have hg := h.good
  rw [good_parts h.begun, Bool.and_eq_true] at hg
  rcases takeC_cases c id f with ⟨_, h1, _⟩ | ⟨_, _, _, hf, _, _, he, _⟩ | ⟨_, _, _, hs, hk, hc⟩
  · rw [h1]; exact ⟨h, KeepV.refl c⟩
  · rw [he]
    refine ⟨⟨h.begun, h.eops, ?_, fun _ i => h.none hf i⟩, fun i hi => ⟨hi, rfl⟩⟩
    rw [good_parts (c := c.hear f) h.begun, Bool.and_eq_true]
    exact ⟨hg.1, join_rises _ _⟩
  · refine ⟨⟨hs.begun.trans h.begun, hs.ops.trans h.eops, ?_, fun e i => ?_⟩, hk⟩
    · rw [good_parts (hs.begun.trans h.begun), hs.ops, hs.deps, Bool.and_eq_true]; exact hg
    · have e1 : c.fixed = false := by rw [← hs.fixed]; exact e
      rw [hc e1]; exact h.none e1 i

end Go.Proofs.Ytkoefoccbjhoiab

namespace Go.Proofs.Ytkoefoccbjhoiab
open Go.RowKit

structure CaseC (ok : Nat → Prop) (w : World) (nv : Nat → Value) (c : CaseL) : Prop where
  begun : nv 0 = .bool c.begun
  fixed : nv 1 = .bool c.fixed
  ops : IsO ok w (nv 2) c.ops
  told : ∀ i, i < 6 → nv (3 + i) = .bool (c.told i)
  known : ∀ i, i < 6 → nv (9 + i) = .bool (c.known i)
  deps : IsI ok w (nv 15) c.deps
  has : ∀ i, i < 4 → nv (16 + i) = .bool (c.has i)
  vals : ∀ i, i < 4 → nv (20 + i) = .int .i64 (c.vals i)
theorem CaseC.later {ok : Nat → Prop} {w w' : World} {nv : Nat → Value} {c : CaseL} (h : CaseC ok w nv c) (hB : SameOn ok w w') : CaseC ok w' nv c :=
  ⟨h.begun, h.fixed, h.ops.later hB, h.told, h.known, h.deps.later hB, h.has, h.vals⟩
theorem CaseC.mono {ok ok' : Nat → Prop} {w : World} {nv : Nat → Value} {c : CaseL} (h : CaseC ok w nv c) (hk : ∀ k, k < w.heap.size → ok k → ok' k) : CaseC ok' w nv c :=
  ⟨h.begun, h.fixed, h.ops.mono hk, h.told, h.known, h.deps.mono hk, h.has, h.vals⟩
theorem CaseC.below {w w' : World} {nv : Nat → Value} {c : CaseL} (h : CaseC (· < w.heap.size) w nv c) (hb : Below w.heap.size w w') : CaseC (· < w'.heap.size) w' nv c :=
  (h.later (SameOn.of_size hb)).mono (fun k _ (h : k < w.heap.size) => by have := hb.size; show k < _; omega)
theorem CaseC.any {ok : Nat → Prop} {w : World} {nv : Nat → Value} {c : CaseL} (h : CaseC ok w nv c) : CaseC (· < w.heap.size) w nv c := h.mono (fun _ h _ => h)
theorem CaseC.one {ok : Nat → Prop} {w : World} {nv : Nat → Value} {c : CaseL} (h : CaseC ok w nv c) : ∀ i, i < 24 → (nv i).oneCell' = true := by
  intro i hi
  by_cases h0 : i = 0
  · subst h0; rw [h.begun]; rfl
  by_cases h1 : i = 1
  · subst h1; rw [h.fixed]; rfl
  by_cases h2 : i = 2
  · subst h2; exact h.ops.one
  by_cases h3 : i < 9
  · have := h.told (i - 3) (by omega)
    rw [show 3 + (i - 3) = i by omega] at this
    rw [this]; rfl
  by_cases h4 : i < 15
  · have := h.known (i - 9) (by omega)
    rw [show 9 + (i - 9) = i by omega] at this
    rw [this]; rfl
  by_cases h5 : i = 15
  · subst h5; exact h.deps.one
  by_cases h6 : i < 20
  · have := h.has (i - 16) (by omega)
    rw [show 16 + (i - 16) = i by omega] at this
    rw [this]; rfl
  · have := h.vals (i - 20) (by omega)
    rw [show 20 + (i - 20) = i by omega] at this
    rw [this]; rfl
/-- The zero value. -/
def zcv (i : Nat) : Value := if i = 2 ∨ i = 15 then .slice none 0 0 else if 20 ≤ i then .int .i64 0 else .bool false
theorem zcv_case (ok : Nat → Prop) (w : World) : CaseC ok w zcv zeroC :=
  ⟨rfl, rfl, IsO.nil ok w, fun i hi => by
      unfold zcv; rw [if_neg (by omega), if_neg (by omega)]; rfl, fun i hi => by
      unfold zcv; rw [if_neg (by omega), if_neg (by omega)]; rfl, IsI.nil ok w, fun i hi => by
      unfold zcv; rw [if_neg (by omega), if_neg (by omega)]; rfl, fun i hi => by
      unfold zcv; rw [if_neg (by omega), if_pos (by omega)]; rfl⟩
theorem Try.infoCase : (Try.prog.info? 73).map (·.size) = some 24 := by kernel_rfl
theorem Try.zeroCase : (Try.prog.info? 73).map (·.zero) = some (some (.agg (rowF 24 zcv))) := by kernel_rfl

end Go.Proofs.Ytkoefoccbjhoiab

namespace Go.Proofs.Ytkoefoccbjhoiab
open Go.RowKit

def sameI (n : Nat) (S T : Nat → Int) : Bool := (List.range n).all fun i => S i == T i
theorem sameI_iff {n : Nat} {S T : Nat → Int} : sameI n S T = true ↔ ∀ i, i < n → S i = T i := by
  unfold sameI
  simp
theorem run_equalIn_rows {P : Program} {t e : TypeId} {n : Nat} (d : Nat) (ht : P.underlying t = some (.array n e)) (he : P.underlying e = some (.int .i64)) (hi : (P.info? e).map (·.size) = some 1) (S T : Nat → Int) (w : World) :
    (Op.equalIn (d + 2) t (.agg (rowF n fun i => .int .i64 (S i))) (.agg (rowF n fun i => .int .i64 (T i)))).run P w = .ok (sameI n S T) w := by
  have hsz : ∀ w, (sizeOf e).run P w = .ok 1 w := by
    intro w
    cases hq : P.info? e with
    | none => simp [hq] at hi
    | some i =>
      have hs : i.size = 1 := by simpa [hq] using hi
      simp [sizeOf, typeInfo, hq, hs]
  unfold sameI
  rw [List.range_eq_range', Op.equalIn]
  simp only [Sem.run_bind, run_underlying ht, Result.andThen_ok, hsz, Std.Legacy.Range.forIn_eq_forIn_range', Std.Legacy.Range.size, Nat.sub_zero, Nat.add_sub_cancel, Nat.div_one]
  have hl : ∀ i ∈ List.range' 0 n 1, i < n := fun i hi => by simpa using (List.mem_range'_1.1 hi).2
  generalize List.range' 0 n 1 = l at hl ⊢
  induction l with
  | nil => simp
  | cons i l ih =>
    have hk : i < n := hl i (by simp)
    have px := run_part_ints he hi S hk w
    have py := run_part_ints he hi T hk w
    have pe : (Op.equalIn (d + 1) e (.int .i64 (S i)) (.int .i64 (T i))).run P w = .ok (S i == T i) w := by simp [Op.equalIn, run_underlying he]
    simp only [List.forIn_cons, Sem.run_bind, Nat.mul_one, px, py, pe, Result.andThen_ok, List.all_cons]
    cases hb : (S i == T i)
    · simp
    · simp only [Bool.not_true, Bool.false_eq_true, if_false, Sem.run_pure, Result.andThen_ok, Bool.true_and]
      simpa only [Nat.mul_one] using ih fun j hj => hl j (by simp [hj])
theorem Try.infoSix : (Try.prog.info? 69).map (·.size) = some 6 := by kernel_rfl
theorem Try.infoFour : (Try.prog.info? 70).map (·.size) = some 4 := by kernel_rfl
theorem Try.infoFourI : (Try.prog.info? 71).map (·.size) = some 4 := by kernel_rfl
theorem Try.sixGuard : Try.prog.eqGuardType Try.prog.depth 69 = false := by kernel_rfl
theorem Try.fourGuard : Try.prog.eqGuardType Try.prog.depth 70 = false := by kernel_rfl
theorem Try.fourIGuard : Try.prog.eqGuardType Try.prog.depth 71 = false := by kernel_rfl

/-- The parts of a case that lie in its box. -/
theorem rowF_list (n : Nat) (f : Nat → Value) : (rowF n f).toList = (List.range n).map f := by simp [rowF]
theorem BlkAt.truths {w : World} {b o n N : Nat} {nv : Nat → Value} {S : Nat → Bool} (h : BlkAt N w b nv) (hn : o + n ≤ N) (hs : ∀ i, i < n → nv (o + i) = .bool (S i)) : w.rangeAt b o (bools n S).toList := by
  have := h.range (o := o) (n := n) hn
  rw [bools_row, rowF_list, ← List.map_congr_left (fun i hi => hs i (List.mem_range.1 hi))]
  exact this
theorem BlkAt.numbers {w : World} {b o n N : Nat} {nv : Nat → Value} {S : Nat → Int} (h : BlkAt N w b nv) (hn : o + n ≤ N) (hs : ∀ i, i < n → nv (o + i) = .int .i64 (S i)) : w.rangeAt b o (rowF n fun i => .int .i64 (S i)).toList := by
  have := h.range (o := o) (n := n) hn
  rw [rowF_list, ← List.map_congr_left (fun i hi => hs i (List.mem_range.1 hi))]
  exact this

end Go.Proofs.Ytkoefoccbjhoiab

namespace Go.Proofs.Ytkoefoccbjhoiab
open Go.RowKit

def CaseL.wants (c : CaseL) (n : Nat) : Bool := if c.fixed then !c.known n || c.lacks (ofL n) else touchesL c.ops (ofL n) && !c.told n
def CaseL.msg (c : CaseL) (id : Int) (n : Nat) : FrameL := if c.fixed then ⟨3, n, id, c.ops, c.deps, [], []⟩ else ⟨1, n, id, c.ops, [], [], []⟩
theorem send_wants (c : CaseL) (id : Int) (n : Nat) : c.send id n = if c.wants n then [c.msg id n] else [] := by
  unfold CaseL.send CaseL.wants CaseL.msg
  cases c.fixed <;> rfl
/-- What is sent to the first k nodes. -/
def CaseL.sends (c : CaseL) (id : Int) (k : Nat) : List FrameL := (List.range k).flatMap (c.send id)
theorem sends_zero (c : CaseL) (id : Int) : c.sends id 0 = [] := rfl
theorem sends_succ (c : CaseL) (id : Int) (k : Nat) : c.sends id (k + 1) = c.sends id k ++ if c.wants k then [c.msg id k] else [] := by
  unfold CaseL.sends
  rw [List.range_succ, List.flatMap_append]
  simp only [List.flatMap_cons, List.flatMap_nil, List.append_nil, send_wants]
theorem sends_len (c : CaseL) (id : Int) : ∀ k, (c.sends id k).length ≤ k
  | 0 => by simp [sends_zero]
  | k + 1 => by
    rw [sends_succ, List.length_append]
    have := sends_len c id k
    split
    · simp; omega
    · simp; omega
def isCaseOfB (c : CaseL) (id : Int) : Bool := goodCB c && c.begun && !hasL c.deps id
theorem again_yes {c : CaseL} {id : Int} (h : isCaseOfB c id = true) (h0 : 0 ≤ id) (h1 : id < 32) : againC c id = c.sends id 6 := by
  unfold isCaseOfB at h
  simp only [Bool.and_eq_true, Bool.not_eq_true'] at h
  unfold againC CaseL.sends
  rw [if_neg]
  rintro (e | e | e | e | e)
  · rw [h.1.1] at e; cases e
  · rw [h.1.2] at e; cases e
  · omega
  · omega
  · rw [h.2] at e; cases e
theorem again_no {c : CaseL} {id : Int} (h : isCaseOfB c id = false ∨ id < 0 ∨ 32 ≤ id) : againC c id = [] := by
  unfold againC
  rw [if_pos]
  rcases h with h | h | h
  · unfold isCaseOfB at h
    cases e : goodCB c
    · exact Or.inl rfl
    · cases e2 : c.begun
      · exact Or.inr (Or.inl rfl)
      · cases e3 : hasL c.deps id
        · rw [e, e2, e3] at h; cases h
        · exact Or.inr (Or.inr (Or.inr (Or.inr rfl)))
  · exact Or.inr (Or.inr (Or.inl h))
  · exact Or.inr (Or.inr (Or.inr (Or.inl h)))

/-- How many of a shard, among the first k nodes, have told. -/
def cntT (t : Nat → Bool) (sh : Int) : Nat → Nat
  | 0 => 0
  | k + 1 => cntT t sh k + if t k && (ofL k == sh) then 1 else 0
theorem cntT_le (t : Nat → Bool) (sh : Int) : ∀ k, cntT t sh k ≤ k
  | 0 => Nat.le_refl _
  | k + 1 => by
    have := cntT_le t sh k
    simp only [cntT]
    split <;> omega
theorem cntT_six0 (t : Nat → Bool) : cntT t 0 6 = toldOf t 0 := by
  simp only [cntT, toldOf, List.range_succ, List.range_zero, List.nil_append, List.filter_append, List.length_append, Nat.zero_mul, Nat.zero_add]
  simp only [show ofL ((0 : Nat) : Int) = 0 from rfl, show ofL ((1 : Nat) : Int) = 0 from rfl, show ofL ((2 : Nat) : Int) = 0 from rfl, show ofL ((3 : Nat) : Int) = 1 from rfl, show ofL ((4 : Nat) : Int) = 1 from rfl, show ofL ((5 : Nat) : Int) = 1 from rfl]
  cases e0 : t 0 <;> cases e1 : t 1 <;> cases e2 : t 2 <;> simp [e0, e1, e2]
theorem cntT_six1 (t : Nat → Bool) : cntT t 1 6 = toldOf t 1 := by
  simp only [cntT, toldOf, List.range_succ, List.range_zero, List.nil_append, List.filter_append, List.length_append, Nat.one_mul]
  simp only [show ofL ((0 : Nat) : Int) = 0 from rfl, show ofL ((1 : Nat) : Int) = 0 from rfl, show ofL ((2 : Nat) : Int) = 0 from rfl, show ofL ((3 : Nat) : Int) = 1 from rfl, show ofL ((4 : Nat) : Int) = 1 from rfl, show ofL ((5 : Nat) : Int) = 1 from rfl]
  cases e0 : t 3 <;> cases e1 : t 4 <;> cases e2 : t 5 <;> simp [e0, e1, e2]
theorem most_cnt (ops : List OpL) (t : Nat → Bool) : mostB ops t = (!(decide (cntT t 0 6 < 2) && touchesL ops 0) && !(decide (cntT t 1 6 < 2) && touchesL ops 1)) := by
  unfold mostB
  rw [cntT_six0, cntT_six1]
  have h : ∀ n : Nat, decide (2 ≤ n) = !decide (n < 2) := fun n => by
    by_cases e : n < 2
    · simp [e]
    · simp [e]; omega
  rw [h, h]
  cases touchesL ops 0 <;> cases touchesL ops 1 <;> simp

/-- All is had. -/
def CaseL.hasAll (c : CaseL) : Bool := (List.range c.ops.length).all c.has
theorem hasAll_iff {c : CaseL} : c.hasAll = true ↔ ∀ i, i < c.ops.length → c.has i = true := by
  unfold CaseL.hasAll
  simp
theorem result_yes {c : CaseL} (hb : c.begun = true) (hg : goodCB c = true) (h : c.hasAll = true) : resultC c = ((List.range c.ops.length).map c.vals, true) := by
  unfold resultC
  rw [if_neg]
  rintro (e | e | e | e)
  · rw [hb] at e; cases e
  · rw [hg] at e; cases e
  · rw [has_lacks (hasAll_iff.1 h)] at e; cases e
  · rw [has_lacks (hasAll_iff.1 h)] at e; cases e
theorem result_no {c : CaseL} (h : goodCB c = false ∨ c.begun = false ∨ c.hasAll = false) : resultC c = ([], false) := by
  unfold resultC
  rw [if_pos]
  rcases h with h | h | h
  · exact Or.inr (Or.inl h)
  · exact Or.inl h
  · cases e0 : c.lacks 0
    · cases e1 : c.lacks 1
      · rw [hasAll_iff.2 (fun i hi => lacks_has e0 e1 hi)] at h; cases h
      · exact Or.inr (Or.inr (Or.inr rfl))
    · exact Or.inr (Or.inr (Or.inl rfl))
/-- What a good case is like. -/
theorem good_case_len {c : CaseL} (hb : c.begun = true) (hg : goodCB c = true) : 0 < c.ops.length ∧ c.ops.length ≤ 4 := by
  rw [good_parts hb, Bool.and_eq_true] at hg
  have := hg.1
  unfold goodOpsL at this
  simp at this
  omega

end Go.Proofs.Ytkoefoccbjhoiab

namespace Go.Proofs.Ytkoefoccbjhoiab
open Go.RowKit

/-- A clone: a row of the call's own; of nothing no room. -/
def CloneI (w w' : World) (v : Value) (zs : List Int) : Prop := w'.ownsRow w.heap.size 3 1 v zs.length (intCells zs) ∧ (zs.length = 0 → ∃ a, v = .slice a 0 0) ∧ Below w.heap.size w w'
def CloneO (w w' : World) (v : Value) (zs : List OpL) : Prop := w'.ownsRow w.heap.size 108 3 v zs.length (opsCells zs) ∧ (zs.length = 0 → ∃ a, v = .slice a 0 0) ∧ Below w.heap.size w w'


theorem intCells_one (zs : List Int) : ∀ u ∈ intCells zs, u.oneCell' = true := by
  intro u hu
  obtain ⟨n, _, rfl⟩ := List.mem_map.1 hu
  rfl
theorem opsCells_one (zs : List OpL) : ∀ u ∈ opsCells zs, u.oneCell' = true := by
  intro u hu
  obtain ⟨o, _, h⟩ := List.mem_flatMap.1 hu
  simp [opCells] at h
  rcases h with rfl | rfl | rfl <;> rfl
/-- The cells of a list that lay there lie there still. -/
theorem IntsAt.news {w w1 : World} {ad : Addr} {zs : List Int} (h : IntsAt w.heap.size w (some ad) zs) (hb : Below w.heap.size w w1) : ∀ j u, (intCells zs)[j]? = some u → w1.cell? (ad.add j) = some u := by
  intro j u hu
  rcases h with rfl | ⟨b, off, hb', hlt, hc⟩
  · simp [intCells] at hu
  · obtain rfl : ad = ⟨b, off, none⟩ := by simpa using hb'
    have hj : j < zs.length := by
      obtain ⟨hj, _⟩ := List.getElem?_eq_some_iff.1 hu
      simpa [intCells] using hj
    rw [add_none, hb.cell (p := ⟨b, off + j, none⟩) hlt, hc j hj]
    simp [intCells, hj] at hu
    simp [List.getD, hj, hu]
theorem OpsAt.news {w w1 : World} {ad : Addr} {zs : List OpL} (h : OpsAt w (some ad) zs) (hb : Below w.heap.size w w1) : ∀ j u, (opsCells zs)[j]? = some u → w1.cell? (ad.add j) = some u := by
  intro j u hu
  rcases h with rfl | ⟨b, off, hb', hlt, hc⟩
  · simp [opsCells] at hu
  · obtain rfl : ad = ⟨b, off, none⟩ := by simpa using hb'
    have hj : j < zs.length * 3 := by
      obtain ⟨hj, _⟩ := List.getElem?_eq_some_iff.1 hu
      rw [opsCells_len] at hj
      exact hj
    obtain ⟨g0, g1, g2⟩ := opsCells_get zs (j / 3) (by omega)
    obtain ⟨c0, c1, c2⟩ := hc (j / 3) (by omega)
    rw [add_none, hb.cell (p := ⟨b, off + j, none⟩) hlt]
    have h3 : j = j / 3 * 3 ∨ j = j / 3 * 3 + 1 ∨ j = j / 3 * 3 + 2 := by omega
    rcases h3 with e | e | e
    · rw [e] at hu ⊢; rw [c0]; rw [g0] at hu; exact hu
    · rw [e] at hu ⊢; rw [← Nat.add_assoc, c1]; rw [g1] at hu; exact hu
    · rw [e] at hu ⊢; rw [← Nat.add_assoc, c2]; rw [g2] at hu; exact hu

set_option maxRecDepth 100000 in
set_option maxHeartbeats 400000 in
theorem cloneI_any (a : Option Addr) (cap : Nat) (zs : List Int) (w : World) (h : SlInts w a cap zs) (hl : zs.length * 8 ≤ 140737488355328) :
    Calls Try.prog 86 #[.slice a zs.length cap] w fun e w' => ∃ v, e = .returned v ∧ CloneI w w' v zs := by
  obtain ⟨i0, hi, hz0, hz1, hz2⟩ := info_parts Try.infoInt
  have he := fun w => Go.Lib.run_eql_slice_nil (P := Try.prog) w 23 3 a zs.length cap 0 0 Try.underlying23
  cases a with
  | none =>
    obtain ⟨h1, rfl⟩ := h.2.2.2 rfl
    obtain rfl := List.eq_nil_of_length_eq_zero h1
    simp only [Option.isNone_none, List.length_nil] at he
    go_enter Try.func86, Try.ntmps86
    go_wp2
    go_ret
    exact ⟨_, rfl, World.ownsRow_nil _ _ _ _, fun _ => ⟨_, rfl⟩, Below.refl _ _⟩
  | some ad =>
    simp only [Option.isNone_some] at he
    obtain ⟨hz, hm, hc, _⟩ := h
    have HB : Hid (Below w.heap.size w (w.alloc (.cells #[] 3))) := (Below.refl _ _).alloc (Nat.le_refl _) _
    have HZ : Hid (IntsAt w.heap.size w (some ad) zs) := hz
    clear hz
    by_cases h0 : zs.length = 0
    · obtain rfl := List.eq_nil_of_length_eq_zero h0
      simp only [List.length_nil] at he
      go_enter Try.func86, Try.ntmps86
      go_wp2_with (first
        | (at_builtin; refine wpList_append_fits_any _ rfl _ _ 23 rfl w.heap.size 3 i0 1 Try.underlying23 hi hz1 w.heap.size 0 0 [] rfl (World.ownsRow_made (e := 3) (size := 1) w #[] 0 (Nat.le_refl _) (by decide) rfl) (some ad) 0 cap [] rfl rfl (fun h => by cases h) (fun _ _ j u hj => by simp at hj) (by simp) (Nat.le_refl _) ?_; intro w2 hown hg)
        | go_in)
      go_wp2
      go_ret
      exact ⟨_, rfl, hown, fun _ => ⟨_, rfl⟩, HB.out.grown hg (by rw [size_push]; omega) (by intro k hk; cases hk; exact Nat.le_refl _)⟩
    · go_enter Try.func86, Try.ntmps86
      go_wp2_with (first
        | (at_builtin; refine wpList_append_own _ rfl _ _ 23 rfl w.heap.size 3 i0 (.int .i64 0) 1 8 Try.underlying23 hi hz0 hz1 hz2 rfl (by decide) _ _ _ rfl (World.ownsRow_made (e := 3) (size := 1) w #[] 0 (Nat.le_refl _) (by decide) rfl) ad zs.length cap (intCells zs) rfl ?c1 ?c2 ?c3 ?c4 ?c5 ?c6 ?_)
        | go_in)
      case c1 => simp [intCells]
      case c2 => exact HZ.out.news HB.out
      case c3 => exact intCells_one zs
      case c4 => unfold maxLen; omega
      case c5 => omega
      case c6 => rw [size_push]; omega
      · intro v' w2 hown hg _
        go_wp2
        go_ret
        refine ⟨_, rfl, ?_, fun h => absurd h h0, HB.out.grown hg (by rw [size_push]; omega) (by intro k hk; cases hk; exact Nat.le_refl _)⟩
        simpa using hown

set_option maxRecDepth 100000 in
set_option maxHeartbeats 400000 in
theorem cloneO_any (a : Option Addr) (cap : Nat) (zs : List OpL) (w : World) (h : SlOps w a cap zs) (hl : zs.length * 24 ≤ 140737488355328) :
    Calls Try.prog 91 #[.slice a zs.length cap] w fun e w' => ∃ v, e = .returned v ∧ CloneO w w' v zs := by
  obtain ⟨i0, hi, hz0, hz1, hz2⟩ := info_parts Try.infoOp
  have he := fun w => Go.Lib.run_eql_slice_nil (P := Try.prog) w 35 108 a zs.length cap 0 0 Try.underlying35
  cases a with
  | none =>
    obtain ⟨h1, rfl⟩ := h.2.2.2 rfl
    obtain rfl := List.eq_nil_of_length_eq_zero h1
    simp only [Option.isNone_none, List.length_nil] at he
    go_enter Try.func91, Try.ntmps91
    go_wp2
    go_ret
    exact ⟨_, rfl, World.ownsRow_nil _ _ _ _, fun _ => ⟨_, rfl⟩, Below.refl _ _⟩
  | some ad =>
    simp only [Option.isNone_some] at he
    obtain ⟨hz, hm, hc, _⟩ := h
    have HB : Hid (Below w.heap.size w (w.alloc (.cells #[] 108))) := (Below.refl _ _).alloc (Nat.le_refl _) _
    have HZ : Hid (OpsAt w (some ad) zs) := hz
    clear hz
    by_cases h0 : zs.length = 0
    · obtain rfl := List.eq_nil_of_length_eq_zero h0
      simp only [List.length_nil] at he
      go_enter Try.func91, Try.ntmps91
      go_wp2_with (first
        | (at_builtin; refine wpList_append_fits_any _ rfl _ _ 35 rfl w.heap.size 108 i0 3 Try.underlying35 hi hz1 w.heap.size 0 0 [] rfl (World.ownsRow_made (e := 108) (size := 3) w #[] 0 (Nat.le_refl _) (by decide) rfl) (some ad) 0 cap [] rfl rfl (fun h => by cases h) (fun _ _ j u hj => by simp at hj) (by simp) (Nat.le_refl _) ?_; intro w2 hown hg)
        | go_in)
      go_wp2
      go_ret
      exact ⟨_, rfl, hown, fun _ => ⟨_, rfl⟩, HB.out.grown hg (by rw [size_push]; omega) (by intro k hk; cases hk; exact Nat.le_refl _)⟩
    · go_enter Try.func91, Try.ntmps91
      go_wp2_with (first
        | (at_builtin; refine wpList_append_own _ rfl _ _ 35 rfl w.heap.size 108 i0 (.agg #[.int .i64 0, .int .i64 0, .int .i64 0]) 3 24 Try.underlying35 hi hz0 hz1 hz2 rfl (by decide) _ _ _ rfl (World.ownsRow_made (e := 108) (size := 3) w #[] 0 (Nat.le_refl _) (by decide) rfl) ad zs.length cap (opsCells zs) rfl ?c1 ?c2 ?c3 ?c4 ?c5 ?c6 ?_)
        | go_in)
      case c1 => exact opsCells_len zs
      case c2 => exact HZ.out.news HB.out
      case c3 => exact opsCells_one zs
      case c4 => unfold maxLen; omega
      case c5 => omega
      case c6 => rw [size_push]; omega
      · intro v' w2 hown hg _
        go_wp2
        go_ret
        refine ⟨_, rfl, ?_, fun h => absurd h h0, HB.out.grown hg (by rw [size_push]; omega) (by intro k hk; cases hk; exact Nat.le_refl _)⟩
        simpa using hown

end Go.Proofs.Ytkoefoccbjhoiab

namespace Go.Proofs.Ytkoefoccbjhoiab
open Go.RowKit

theorem setRow_other (w : World) {g k : Nat} (cs : Array Value) (h : k ≠ g) : (w.setRow g cs).heap[k]? = w.heap[k]? := by
  simp [World.setRow, Array.getElem?_modify]
  intro e; omega
theorem own_same {w w' : World} {b : Nat} {e : TypeId} {size : Nat} {v : Value} {n : Nat} {xs : List Value} (h : w.ownsRow b e size v n xs) (hs : ∀ k, v.ownBlock = some k → w'.heap[k]? = w.heap[k]?) : w'.ownsRow b e size v n xs :=
  ⟨h.1, h.2.imp id fun ⟨g, cap, cur, h1, h2, h3, h4⟩ => ⟨g, cap, cur, h1, h2, by rw [hs g (by rw [h1]; rfl)]; exact h3, h4⟩⟩

theorem rows3 (w : World) (A B C : Obj) : (((w.alloc A).alloc B).alloc C).heap[w.heap.size]? = some A ∧ (((w.alloc A).alloc B).alloc C).heap[w.heap.size + 1]? = some B ∧ (((w.alloc A).alloc B).alloc C).heap[w.heap.size + 2]? = some C := by
  have h1 : (w.alloc A).heap.size = w.heap.size + 1 := size_push _ _
  have h2 : ((w.alloc A).alloc B).heap.size = w.heap.size + 2 := by rw [size_push]; omega
  obtain ⟨r1, r2⟩ := two_rows w A B
  refine ⟨?_, ?_, ?_⟩
  · rw [Below.heap_alloc _ _ _ (by omega)]; exact r1
  · rw [Below.heap_alloc _ _ _ (by omega)]; exact r2
  · rw [show w.heap.size + 2 = ((w.alloc A).alloc B).heap.size by omega]; exact heap_new _ _
theorem Try.infoFrame7 : (Try.prog.info? 43).map (·.size) = some 7 := by kernel_rfl
theorem Try.infoFrameZ : (Try.prog.info? 43).map (fun i => (i.zero, i.size, i.bytes)) = some (some (.agg #[.int .i64 0, .int .i64 0, .int .i64 0, .slice none 0 0, .slice none 0 0, .slice none 0 0, .slice none 0 0]), 7, 120) := by kernel_rfl
theorem results_row2 {P : Program} {fn : Func} {p q r : Tmp} {ty : TypeId} (h : fn.results = #[.cell p ty, .tmp q, .tmp r]) (tmps : Array Value) (w : World) (g : Nat) (t : TypeId) (cs : Array Value) (fr : Nat × Nat) (d : TypeDesc)
    (hp : tmps.getD p undef = .pointer (some ⟨g, 0, none⟩)) (hg : w.heap[g]? = some (.cells cs t fr)) (hu : P.underlying ty = some d) (hd : (match d with | .struct _ | .array _ _ => true | _ => false) = true) (hi : (P.info? ty).map (·.size) = some cs.size)
    (x y : Value) (hx : tmps.getD q undef = x) (hy : tmps.getD r undef = y) : (results fn tmps).run P w = .ok (.tuple #[.agg cs, x, y]) w := by
  have hp' : tmps[p]?.getD undef = .pointer (some ⟨g, 0, none⟩) := by simpa using hp
  have hx' : tmps[q]?.getD undef = x := by simpa using hx
  have hy' : tmps[r]?.getD undef = y := by simpa using hy
  simp [results, h, hp', hx', hy', asAddr, run_loadVar_row w g t ty cs fr d hg hu hd hi]

/-- A frame whose lists lie below B. -/
def FrameB (B : Nat) (w : World) (v : Value) (f : FrameL) : Prop := ∃ a3 c3 a4 c4 a5 c5 a6 c6,
  v = .agg #[.int .i64 f.kind, .int .i64 f.node, .int .i64 f.id, .slice a3 f.ops.length c3, .slice a4 f.deps.length c4, .slice a5 f.ats.length c5, .slice a6 f.vals.length c6] ∧
  (SlOps w a3 c3 f.ops ∧ OpsIn (· < B) w a3 f.ops) ∧ (SlInts w a4 c4 f.deps ∧ IntsIn (· < B) w a4 f.deps) ∧ (SlInts w a5 c5 f.ats ∧ IntsIn (· < B) w a5 f.ats) ∧ (SlInts w a6 c6 f.vals ∧ IntsIn (· < B) w a6 f.vals)
theorem FrameV.b {w : World} {v : Value} {f : FrameL} (h : FrameV w v f) : FrameB w.heap.size w v f := by
  obtain ⟨a3, c3, a4, c4, a5, c5, a6, c6, e, h3, h4, h5, h6⟩ := h
  exact ⟨a3, c3, a4, c4, a5, c5, a6, c6, e, ⟨h3, h3.1⟩, ⟨h4, h4.1⟩, ⟨h5, h5.1⟩, ⟨h6, h6.1⟩⟩
theorem FrameB.v {B : Nat} {w : World} {v : Value} {f : FrameL} (h : FrameB B w v f) : FrameV w v f := by
  obtain ⟨a3, c3, a4, c4, a5, c5, a6, c6, e, h3, h4, h5, h6⟩ := h
  exact ⟨a3, c3, a4, c4, a5, c5, a6, c6, e, h3.1, h4.1, h5.1, h6.1⟩
theorem slI_later {B : Nat} {w w' : World} {a : Option Addr} {cap : Nat} {zs : List Int} (h : SlInts w a cap zs ∧ IntsIn (· < B) w a zs) (hb : Below B w w') : SlInts w' a cap zs ∧ IntsIn (· < B) w' a zs := by
  have h2 := h.2.later (w' := w') (fun k _ hk => hb.block k hk)
  exact ⟨⟨h2.at, h.1.2⟩, h2⟩
theorem slO_later {B : Nat} {w w' : World} {a : Option Addr} {cap : Nat} {zs : List OpL} (h : SlOps w a cap zs ∧ OpsIn (· < B) w a zs) (hb : Below B w w') : SlOps w' a cap zs ∧ OpsIn (· < B) w' a zs := by
  have h2 := h.2.later (w' := w') (fun k _ hk => hb.block k hk)
  exact ⟨⟨h2.at, h.1.2⟩, h2⟩
theorem FrameB.later {B : Nat} {w w' : World} {v : Value} {f : FrameL} (h : FrameB B w v f) (hb : Below B w w') : FrameB B w' v f := by
  obtain ⟨a3, c3, a4, c4, a5, c5, a6, c6, e, h3, h4, h5, h6⟩ := h
  exact ⟨a3, c3, a4, c4, a5, c5, a6, c6, e, slO_later h3 hb, slI_later h4 hb, slI_later h5 hb, slI_later h6 hb⟩
theorem FrameB.mono {B B' : Nat} {w : World} {v : Value} {f : FrameL} (h : FrameB B w v f) (hB : B ≤ B') : FrameB B' w v f := by
  obtain ⟨a3, c3, a4, c4, a5, c5, a6, c6, e, h3, h4, h5, h6⟩ := h
  have m : ∀ k, k < w.heap.size → k < B → k < B' := fun k _ (h : k < B) => by omega
  exact ⟨a3, c3, a4, c4, a5, c5, a6, c6, e, ⟨h3.1, h3.2.mono m⟩, ⟨h4.1, h4.2.mono m⟩, ⟨h5.1, h5.2.mono m⟩, ⟨h6.1, h6.2.mono m⟩⟩

/-- A frame whose lists lie from B on. -/
def FrameG (B : Nat) (w : World) (v : Value) (f : FrameL) : Prop := ∃ a3 c3 a4 c4 a5 c5 a6 c6,
  v = .agg #[.int .i64 f.kind, .int .i64 f.node, .int .i64 f.id, .slice a3 f.ops.length c3, .slice a4 f.deps.length c4, .slice a5 f.ats.length c5, .slice a6 f.vals.length c6] ∧
  (SlOps w a3 c3 f.ops ∧ OpsIn (B ≤ ·) w a3 f.ops) ∧ (SlInts w a4 c4 f.deps ∧ IntsIn (B ≤ ·) w a4 f.deps) ∧ (SlInts w a5 c5 f.ats ∧ IntsIn (B ≤ ·) w a5 f.ats) ∧ (SlInts w a6 c6 f.vals ∧ IntsIn (B ≤ ·) w a6 f.vals)
theorem FrameG.v {B : Nat} {w : World} {v : Value} {f : FrameL} (h : FrameG B w v f) : FrameV w v f := by
  obtain ⟨a3, c3, a4, c4, a5, c5, a6, c6, e, h3, h4, h5, h6⟩ := h
  exact ⟨a3, c3, a4, c4, a5, c5, a6, c6, e, h3.1, h4.1, h5.1, h6.1⟩
theorem slI_same {ok : Nat → Prop} {w w' : World} {a : Option Addr} {cap : Nat} {zs : List Int} (h : SlInts w a cap zs ∧ IntsIn ok w a zs) (hb : SameOn ok w w') : SlInts w' a cap zs ∧ IntsIn ok w' a zs := by
  have h2 := h.2.later hb
  exact ⟨⟨h2.at, h.1.2⟩, h2⟩
theorem slO_same {ok : Nat → Prop} {w w' : World} {a : Option Addr} {cap : Nat} {zs : List OpL} (h : SlOps w a cap zs ∧ OpsIn ok w a zs) (hb : SameOn ok w w') : SlOps w' a cap zs ∧ OpsIn ok w' a zs := by
  have h2 := h.2.later hb
  exact ⟨⟨h2.at, h.1.2⟩, h2⟩
theorem FrameG.same {B : Nat} {w w' : World} {v : Value} {f : FrameL} (h : FrameG B w v f) (hb : SameOn (B ≤ ·) w w') : FrameG B w' v f := by
  obtain ⟨a3, c3, a4, c4, a5, c5, a6, c6, e, h3, h4, h5, h6⟩ := h
  exact ⟨a3, c3, a4, c4, a5, c5, a6, c6, e, slO_same h3 hb, slI_same h4 hb, slI_same h5 hb, slI_same h6 hb⟩
theorem FrameG.mono {B B' : Nat} {w : World} {v : Value} {f : FrameL} (h : FrameG B w v f) (hB : B' ≤ B) : FrameG B' w v f := by
  obtain ⟨a3, c3, a4, c4, a5, c5, a6, c6, e, h3, h4, h5, h6⟩ := h
  have m : ∀ k, k < w.heap.size → B ≤ k → B' ≤ k := fun k _ (h : B ≤ k) => by omega
  exact ⟨a3, c3, a4, c4, a5, c5, a6, c6, e, ⟨h3.1, h3.2.mono m⟩, ⟨h4.1, h4.2.mono m⟩, ⟨h5.1, h5.2.mono m⟩, ⟨h6.1, h6.2.mono m⟩⟩
theorem slI_nil (ok : Nat → Prop) (w : World) : SlInts w none 0 [] ∧ IntsIn ok w none [] := ⟨⟨Or.inl rfl, Nat.zero_le _, Nat.le_refl _, fun _ => ⟨rfl, rfl⟩⟩, Or.inl rfl⟩
theorem slO_nil (ok : Nat → Prop) (w : World) : SlOps w none 0 [] ∧ OpsIn ok w none [] := ⟨⟨Or.inl rfl, Nat.zero_le _, Nat.le_refl _, fun _ => ⟨rfl, rfl⟩⟩, Or.inl rfl⟩
theorem slI_own {B b0 : Nat} {w : World} {a : Option Addr} {cap : Nat} {zs : List Int} (h : w.ownsRow b0 3 1 (.slice a zs.length cap) zs.length (intCells zs)) (hB : B ≤ b0) : SlInts w a cap zs ∧ IntsIn (B ≤ ·) w a zs := by
  have h1 := SlInts.of_owns h
  refine ⟨h1, ?_⟩
  rcases h1.1 with e | ⟨b, off, rfl, _, hc⟩
  · exact Or.inl e
  · exact Or.inr ⟨b, off, rfl, Nat.le_trans hB (World.ownsRow.lt h b rfl).1, hc⟩

/-- A list of frames that the call made. -/
def FramesV (B : Nat) (w : World) (v : Value) (fs : List FrameL) : Prop := ∃ css : List (List Value), css.length = fs.length ∧ w.ownsRow B 43 7 v fs.length css.flatten ∧
  (∀ i (h : i < fs.length), (css.getD i []).length = 7 ∧ FrameG B w (.agg (css.getD i []).toArray) fs[i])
theorem FramesV.same {B : Nat} {w w' : World} {v : Value} {fs : List FrameL} (h : FramesV B w v fs) (hb : SameOn (B ≤ ·) w w') : FramesV B w' v fs := by
  obtain ⟨css, h1, h2, h3⟩ := h
  exact ⟨css, h1, own_same h2 (fun k hk => hb k (World.ownsRow.lt h2 k hk).2 (World.ownsRow.lt h2 k hk).1), fun i hi => ⟨(h3 i hi).1, (h3 i hi).2.same hb⟩⟩
theorem FramesV.later {B : Nat} {w w' : World} {v : Value} {fs : List FrameL} (h : FramesV B w v fs) (hb : Below w.heap.size w w') : FramesV B w' v fs := h.same (SameOn.of_size hb)
theorem FramesV.mono {B B' : Nat} {w : World} {v : Value} {fs : List FrameL} (h : FramesV B w v fs) (hB : B' ≤ B) : FramesV B' w v fs := by
  obtain ⟨css, h1, h2, h3⟩ := h
  exact ⟨css, h1, own_mono h2 hB, fun i hi => ⟨(h3 i hi).1, (h3 i hi).2.mono hB⟩⟩
theorem FramesV.nil (B : Nat) (w : World) : FramesV B w (.slice none 0 0) [] := ⟨[], rfl, World.ownsRow_nil _ _ _ _, fun _ h => by simp at h⟩

/-- What a frame that is good is like. -/
theorem good_frame {f : FrameL} (h : goodL f = 0) : (0 ≤ f.id ∧ f.id < 32) ∧ (0 ≤ f.node ∧ f.node < 6) := by
  unfold goodL at h
  split at h
  · omega
  · split at h
    · omega
    · omega

end Go.Proofs.Ytkoefoccbjhoiab

namespace Go.Proofs.Ytkoefoccbjhoiab
open Go.RowKit

/-- A type of rows of n cells. -/
def RowT (P : Program) (ty : TypeId) (n : Nat) : Prop := ∃ d, P.underlying ty = some d ∧ d.isRow = true ∧ (P.info? ty).map (·.size) = some n
theorem wpl_mid {P : Program} {ops : Array Oper} {Q : Exit → Act → World → Prop} {rest : List Oper} {a : Act} {w : World} {dst : Option Tmp} {type : TypeId} {pos : String} {after : Array Edge} {guard : Option (Nat × Bool)} {x : Operand} {ty : TypeId} {b o : Nat} {cs : Array Value}
    (hc : w.rangeAt b o cs.toList) (hx : a.eval x = .pointer (some ⟨b, o, none⟩)) (hr : RowT P ty cs.toList.length)
    (hw : Region.wanted ⟨dst, .load ty x, type, pos, after, guard⟩ (yielded ops a.tmps) = true) (h : wpList P ops Q rest (a.put dst (.agg cs)) w) : wpList P ops Q (⟨dst, .load ty x, type, pos, after, guard⟩ :: rest) a w := by
  obtain ⟨d, hu, hd, hi⟩ := hr
  exact wpList_wanted hw fun K hK => wp_load_mid ty x rfl b o hx cs.toList d hc hu hd hi (hK _ _ (by simpa using h))
theorem wpl_row {P : Program} {ops : Array Oper} {Q : Exit → Act → World → Prop} {rest : List Oper} {a : Act} {w : World} {dst : Option Tmp} {type : TypeId} {pos : String} {after : Array Edge} {guard : Option (Nat × Bool)} {x : Operand} {ty t : TypeId} {g : Nat} {cs : Array Value} {fr : Nat × Nat}
    (hg : w.heap[g]? = some (.cells cs t fr)) (hx : a.eval x = .pointer (some ⟨g, 0, none⟩)) (hr : RowT P ty cs.size)
    (hw : Region.wanted ⟨dst, .load ty x, type, pos, after, guard⟩ (yielded ops a.tmps) = true) (h : wpList P ops Q rest (a.put dst (.agg cs)) w) : wpList P ops Q (⟨dst, .load ty x, type, pos, after, guard⟩ :: rest) a w := by
  obtain ⟨d, hu, hd, hi⟩ := hr
  refine wpList_wanted hw fun K hK => wp_load_row ty x rfl g hx t cs fr d hg hu ?_ hi (hK _ _ h)
  cases d <;> first | rfl | cases hd

end Go.Proofs.Ytkoefoccbjhoiab
