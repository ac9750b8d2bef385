/-
  Plain mathematics of our own: a frame as bytes, and the reader that takes one off the front of bytes.
  Plain mathematics of a node: what it is told, what it then is, and what it answers.
  Plain mathematics of a node: it stays good; and what it has executed stays sorted.
  Plain mathematics: what comes to be known of what one does not hang on changes nothing for it.
  Plain mathematics of a node: what it has executed stands behind all that it hangs on, but those that hang on it: these by number; whatever it is told.
  Plain mathematics of a node: Good and Take as the document says them, whole; and what holds of them.
  Plain mathematics of NodeSorted: the place of each that was executed.
  The contracts of package wire's reader: small and wide, behind a pointer.
  How a slice of ints that came in is read: its elements, and where they lie.
  How a slice of operations, or of ints, that came in is read: its elements' numbers, and where they lie.
  The state of the reading of a frame: where the reader, the frame under way and its lists lie.
  How a frame that came in is read: its numbers, and where its lists lie.
-/
import Derived.Test.YtkoefoccbjhoiabNso5
import Derived.Lib.Strings
import Derived.Laws.BitsLemmas
import Derived.Test.YtkoefoccbjhoiabNso1
import Derived.ProofKit
import Derived.OpenShut
import Derived.ShutString
import Derived.ChangeOld
import Derived.Below
import Derived.Deep.Slices
import Derived.Deep.AppendLies
import Derived.Lib.SmallJoins
import Derived.ChangeMaps5
namespace Go.Proofs.Ytkoefoccbjhoiab
open Go.RowKit

structure FrameL where
  kind : Int
  node : Int
  id : Int
  ops : List OpL
  deps : List Int
  ats : List Int
  vals : List Int

def byt (n : Int) : UInt8 := UInt8.ofNat (n % 256).toNat
def sixAt (m : Int) : List UInt8 := [byt (m / 1099511627776), byt (m / 4294967296), byt (m / 16777216), byt (m / 65536), byt (m / 256), byt m]
def six (n : Int) : List UInt8 := sixAt (n + 140737488355328)
def encTold : List Int → List Int → List UInt8
  | a :: xs, v :: vs => byt a :: six v ++ encTold xs vs
  | _, _ => []
/-- a reader: what is left, and whether something was lacking -/
structure Rd where
  rest : List UInt8
  short : Bool

/- what was read, if nothing was lacking, stood there -/
/- what stands there is read -/
/- good frames -/
def toldFrom : Int → List Int → List Int → Bool
  | l, a :: xs, v :: vs => !(decide (a ≤ l) || decide (4 ≤ a)) && decide (-1099511627776 ≤ v ∧ v ≤ 1099511627776) && toldFrom a xs vs
  | _, _, _ => true
def goodOpsF (f : FrameL) : Bool := if f.kind = 1 ∨ f.kind = 3 then goodOpsL f.ops else decide (f.ops.length = 0)
def goodDepsF (f : FrameL) : Bool := if f.kind = 2 ∨ f.kind = 3 then risingFrom (-1) f.deps && !hasL f.deps f.id else decide (f.deps.length = 0)
def goodToldF (f : FrameL) : Bool := decide (f.kind = 5 ∨ f.ats.length = 0) && (decide (f.vals.length = f.ats.length) && toldFrom (-1) f.ats f.vals)
def goodL (f : FrameL) : Int :=
  if f.kind < 1 ∨ 5 < f.kind then 3 else if f.node < 0 ∨ 6 ≤ f.node ∨ f.id < 0 ∨ 32 ≤ f.id then 2
  else if goodOpsF f && (goodDepsF f && goodToldF f) then 0 else 1

theorem rising_in : ∀ (zs : List Int) (l : Int), risingFrom l zs = true → (∀ n ∈ zs, l < n ∧ n < 32) ∧ (zs = [] ∨ (zs.length : Int) ≤ 31 - l)
  | [], l, _ => ⟨by simp, Or.inl rfl⟩
  | n :: r, l, h => by
    rw [risingFrom] at h
    simp only [Bool.and_eq_true, Bool.not_eq_true', Bool.or_eq_false_iff, decide_eq_false_iff_not] at h
    obtain ⟨⟨h1, h2⟩, h3⟩ := h
    obtain ⟨i1, i2⟩ := rising_in r n h3
    refine ⟨fun m hm => ?_, Or.inr ?_⟩
    · rcases List.mem_cons.1 hm with rfl | hm
      · omega
      · have := i1 m hm
        omega
    · rcases i2 with rfl | i2
      · simp; omega
      · simp; omega

theorem told_in : ∀ (xs vs : List Int) (l : Int), vs.length = xs.length → toldFrom l xs vs = true → (∀ n ∈ xs, l < n ∧ n < 4) ∧ (∀ n ∈ vs, -1099511627776 ≤ n ∧ n ≤ 1099511627776) ∧ (xs = [] ∨ (xs.length : Int) ≤ 3 - l)
  | [], [], l, _, _ => ⟨by simp, by simp, Or.inl rfl⟩
  | [], _ :: _, _, h, _ => by simp at h
  | _ :: _, [], _, h, _ => by simp at h
  | a :: xs, v :: vs, l, hl, h => by
    rw [toldFrom] at h
    simp only [Bool.and_eq_true, Bool.not_eq_true', Bool.or_eq_false_iff, decide_eq_false_iff_not, decide_eq_true_eq] at h
    obtain ⟨⟨⟨h1, h2⟩, h3⟩, h4⟩ := h
    obtain ⟨i1, i2, i3⟩ := told_in xs vs a (by simpa using hl) h4
    refine ⟨fun m hm => ?_, fun m hm => ?_, Or.inr ?_⟩
    · rcases List.mem_cons.1 hm with rfl | hm
      · omega
      · have := i1 m hm
        omega
    · rcases List.mem_cons.1 hm with rfl | hm
      · omega
      · exact i2 m hm
    · rcases i3 with rfl | i3
      · simp; omega
      · simp; omega

theorem ops_in {zs : List OpL} (h : goodOpsL zs = true) : zs.length ≤ 4 ∧ ∀ o ∈ zs, goodB o = true := by
  unfold goodOpsL at h
  simp only [Bool.and_eq_true, decide_eq_true_eq] at h
  refine ⟨h.1.2, fun o ho => ?_⟩
  obtain ⟨i, hi, rfl⟩ := List.mem_iff_getElem.1 ho
  have := List.all_eq_true.1 h.2 i (List.mem_range.2 hi)
  unfold goodAt at this
  simp only [Bool.and_eq_true] at this
  have e : zs.getD i (0, 0, 0) = zs[i] := by simp [List.getD, hi]
  rw [e] at this
  exact this.1

theorem good_in {f : FrameL} (h : goodL f = 0) : (1 ≤ f.kind ∧ f.kind ≤ 5) ∧ (0 ≤ f.node ∧ f.node < 6) ∧ (0 ≤ f.id ∧ f.id < 32) ∧ (f.ops.length ≤ 4 ∧ ∀ o ∈ f.ops, goodB o = true) ∧
    (f.deps.length ≤ 32 ∧ ∀ n ∈ f.deps, 0 ≤ n ∧ n < 256) ∧ (f.ats.length ≤ 4 ∧ ∀ n ∈ f.ats, 0 ≤ n ∧ n < 256) ∧ f.vals.length = f.ats.length ∧ ∀ n ∈ f.vals, -140737488355328 ≤ n ∧ n < 140737488355328 := by
  unfold goodL at h
  by_cases h1 : f.kind < 1 ∨ 5 < f.kind
  · rw [if_pos h1] at h
    omega
  rw [if_neg h1] at h
  by_cases h2 : f.node < 0 ∨ 6 ≤ f.node ∨ f.id < 0 ∨ 32 ≤ f.id
  · rw [if_pos h2] at h
    omega
  rw [if_neg h2] at h
  by_cases h3 : (goodOpsF f && (goodDepsF f && goodToldF f)) = true
  · simp only [Bool.and_eq_true] at h3
    obtain ⟨g1, g2, g3⟩ := h3
    refine ⟨by omega, by omega, by omega, ?_, ?_, ?_⟩
    · unfold goodOpsF at g1
      split at g1
      · exact ops_in g1
      · have : f.ops = [] := by simpa using g1
        rw [this]
        simp
    · unfold goodDepsF at g2
      split at g2
      · simp only [Bool.and_eq_true] at g2
        obtain ⟨i1, i2⟩ := rising_in _ _ g2.1
        refine ⟨?_, fun n hn => by have := i1 n hn; omega⟩
        rcases i2 with i2 | i2
        · rw [i2]
          simp
        · omega
      · have : f.deps = [] := by simpa using g2
        rw [this]
        simp
    · unfold goodToldF at g3
      simp only [Bool.and_eq_true, decide_eq_true_eq] at g3
      obtain ⟨_, g4, g5⟩ := g3
      obtain ⟨i1, i2, i3⟩ := told_in _ _ _ g4 g5
      refine ⟨⟨?_, fun n hn => by have := i1 n hn; omega⟩, g4, fun n hn => by have := i2 n hn; omega⟩
      rcases i3 with i3 | i3
      · rw [i3]
        simp
      · omega
  · rw [if_neg h3] at h
    omega

/- Decode -/
def zeroF : FrameL := ⟨0, 0, 0, [], [], [], []⟩
end Go.Proofs.Ytkoefoccbjhoiab

namespace Go.Proofs.Ytkoefoccbjhoiab
open Go.RowKit

structure EntryL where
  state : Int
  ops : List OpL
  first : List Int
  deps : List Int
  ats : List Int
  vals : List Int
def zeroE : EntryL := ⟨0, [], [], [], [], []⟩
structure NodeL where
  ent : Nat → EntryL
  order : List Int
  vals : Nat → Int
def zeroN : NodeL := ⟨fun _ => zeroE, [], fun _ => 0⟩

/-- At rises, behind l, each below n. -/
def atsFrom : Int → Nat → List Int → Bool
  | _, _, [] => true
  | l, n, k :: r => decide (l < k) && decide (k < (n : Int)) && atsFrom k n r
/-- P5.1: a transaction that is not Nothing. -/
structure Fine (e : EntryL) (n : Nat) : Prop where
  st : 1 ≤ e.state ∧ e.state ≤ 3
  ops : goodOpsL e.ops = true
  first : risingFrom (-1) e.first = true ∧ hasL e.first n = false
  deps : risingFrom (-1) e.deps = true ∧ hasL e.deps n = false
  asked : e.state = 1 → e.deps = []
  told : e.state ≠ 3 → e.ats = []
  ats : atsFrom (-1) e.ops.length e.ats = true
  vals : e.vals.length = e.ats.length
/-- P5.1. -/
structure GoodN (s : NodeL) : Prop where
  ent : ∀ n : Nat, n < 32 → s.ent n = zeroE ∨ Fine (s.ent n) n
  cnt : ∀ n : Nat, n < 32 → s.order.count (n : Int) = if (s.ent n).state = 3 then 1 else 0
  lt : ∀ x ∈ s.order, 0 ≤ x ∧ x < 32

/-- P5.2: what stands ahead. -/
def NodeL.ahead (s : NodeL) (id : Nat) (ops : List OpL) (sh : Int) : List Int := unionTo (fun n => n != id && decide (0 < (s.ent n).state) && conflictL (s.ent n).ops ops sh) 32
/-- P5.3: the operations of a shard, from the i-th on: the values then, which told, and what. -/
def runOps (sh : Int) : Nat → List OpL → (Nat → Int) → (Nat → Int) × List Int × List Int
  | _, [], v => (v, [], [])
  | i, o :: r, v =>
    if o.2.1 % 2 == sh then ((runOps sh (i + 1) r (upd v o.2.1.toNat (doL (v o.2.1.toNat) o.1 o.2.2))).1, (i : Int) :: (runOps sh (i + 1) r (upd v o.2.1.toNat (doL (v o.2.1.toNat) o.1 o.2.2))).2.1,
      doL (v o.2.1.toNat) o.1 o.2.2 :: (runOps sh (i + 1) r (upd v o.2.1.toNat (doL (v o.2.1.toNat) o.1 o.2.2))).2.2)
    else runOps sh (i + 1) r v
def NodeL.exec (s : NodeL) (sh : Int) (n : Nat) : NodeL :=
  ⟨upd s.ent n ⟨3, (s.ent n).ops, (s.ent n).first, (s.ent n).deps, (runOps sh 0 (s.ent n).ops s.vals).2.1, (runOps sh 0 (s.ent n).ops s.vals).2.2⟩, s.order ++ [(n : Int)], (runOps sh 0 (s.ent n).ops s.vals).1⟩
def NodeL.execIf (sh : Int) (s : NodeL) (m : Nat) : NodeL := if (s.ent m).state = 2 then s.exec sh m else s
def NodeL.execs (s : NodeL) (sh : Int) (l : List Nat) : NodeL := l.foldl (NodeL.execIf sh) s
def NodeL.graph (s : NodeL) : GraphL := ⟨fun i => decide (2 ≤ (s.ent i).state), fun i => (s.ent i).deps⟩
def NodeL.round (g : GraphL) (sh : Int) (t : NodeL) (n : Nat) : NodeL := if (t.ent n).state = 2 then t.execs sh (orderI g n) else t
def NodeL.settle (s : NodeL) (sh : Int) : NodeL := (List.range 32).foldl (NodeL.round s.graph sh) s
def NodeL.heard (s : NodeL) (sh : Int) (f : FrameL) : NodeL := { s with ent := upd s.ent f.id.toNat ⟨1, f.ops, s.ahead f.id.toNat f.ops sh, [], [], []⟩ }
def NodeL.asked (s : NodeL) (sh : Int) (f : FrameL) : NodeL := if (s.ent f.id.toNat).state = 0 then s.heard sh f else s
def NodeL.placed (s : NodeL) (sh : Int) (f : FrameL) : NodeL :=
  { s with ent := upd s.ent f.id.toNat ⟨2, f.ops, if (s.ent f.id.toNat).state = 0 then s.ahead f.id.toNat f.ops sh else (s.ent f.id.toNat).first, f.deps, (s.ent f.id.toNat).ats, (s.ent f.id.toNat).vals⟩ }
def NodeL.commit (s : NodeL) (sh : Int) (f : FrameL) : NodeL := if (s.ent f.id.toNat).state < 2 then (s.placed sh f).settle sh else s
def NodeL.answers (s : NodeL) (sh who id : Int) : List FrameL :=
  ⟨4, who, id, [], [], [], []⟩ :: (if (s.ent id.toNat).state = 3 ∧ touchesL (s.ent id.toNat).ops sh = true then [⟨5, who, id, [], [], (s.ent id.toNat).ats, (s.ent id.toNat).vals⟩] else [])

/-! ### Nothing that was known is unknown then, nothing that was done is undone -/
theorem heard_same (s : NodeL) (sh : Int) (f : FrameL) : (s.heard sh f).ent f.id.toNat = ⟨1, f.ops, s.ahead f.id.toNat f.ops sh, [], [], []⟩ := upd_same _ _ _
theorem heard_other (s : NodeL) (sh : Int) (f : FrameL) {m : Nat} (h : m ≠ f.id.toNat) : (s.heard sh f).ent m = s.ent m := upd_other _ _ h
theorem placed_same (s : NodeL) (sh : Int) (f : FrameL) : (s.placed sh f).ent f.id.toNat = ⟨2, f.ops, if (s.ent f.id.toNat).state = 0 then s.ahead f.id.toNat f.ops sh else (s.ent f.id.toNat).first, f.deps, (s.ent f.id.toNat).ats, (s.ent f.id.toNat).vals⟩ := upd_same _ _ _
/-! ### What comes twice is taken once -/
end Go.Proofs.Ytkoefoccbjhoiab

namespace Go.Proofs.Ytkoefoccbjhoiab
open Go.RowKit

theorem rises_map (xs : List Nat) : ∀ (l : Int), (∀ x ∈ xs, l < (x : Int) ∧ x < 32) → xs.Pairwise (· < ·) → risingFrom l (xs.map Int.ofNat) = true := by
  induction xs with
  | nil => intros; rfl
  | cons x r ih =>
    intro l h hp
    have hx := h x (by simp)
    obtain ⟨h1, h2⟩ := List.pairwise_cons.1 hp
    rw [List.map_cons, risingFrom, ih (Int.ofNat x) (fun y hy => ⟨by have := h1 y hy; simp; omega, (h y (by simp [hy])).2⟩) h2]
    have e1 : decide (Int.ofNat x ≤ l) = false := by simp; omega
    have e2 : decide (32 ≤ Int.ofNat x) = false := by simp; omega
    rw [e1, e2]
    rfl
theorem ahead_rises (s : NodeL) (id : Nat) (ops : List OpL) (sh : Int) : risingFrom (-1) (s.ahead id ops sh) = true := by
  unfold NodeL.ahead unionTo
  refine rises_map _ _ (fun x hx => ?_) (List.Pairwise.filter _ List.pairwise_lt_range)
  have := List.mem_range.1 (List.mem_filter.1 hx).1
  omega
theorem ahead_not (s : NodeL) (id : Nat) (ops : List OpL) (sh : Int) : hasL (s.ahead id ops sh) id = false := by
  unfold hasL
  rw [List.any_eq_false]
  intro x hx he
  unfold NodeL.ahead unionTo at hx
  rw [List.mem_map] at hx
  obtain ⟨y, hy, rfl⟩ := hx
  have h1 := (List.mem_filter.1 hy).2
  unfold eqB at he
  have : y = id := by
    have h2 : ((y : Nat) : Int) = (id : Int) := by simpa using he
    omega
  subst this
  simp at h1

theorem run_ats (sh : Int) : ∀ (ops : List OpL) (i : Nat) (v : Nat → Int) (l : Int) (N : Nat), l < (i : Int) → i + ops.length ≤ N → atsFrom l N (runOps sh i ops v).2.1 = true
  | [], _, _, _, _, _, _ => rfl
  | o :: r, i, v, l, N, h1, h2 => by
    simp only [List.length_cons] at h2
    unfold runOps
    split
    · show (decide (l < (i : Int)) && decide ((i : Int) < (N : Int)) && atsFrom (i : Int) N _) = true
      rw [decide_eq_true h1, decide_eq_true (show (i : Int) < (N : Int) by omega), run_ats sh r (i + 1) _ (i : Int) N (by omega) (by omega)]
      rfl
    · exact run_ats sh r (i + 1) v l N (by omega) (by omega)
theorem run_len (sh : Int) : ∀ (ops : List OpL) (i : Nat) (v : Nat → Int), (runOps sh i ops v).2.2.length = (runOps sh i ops v).2.1.length
  | [], _, _ => rfl
  | o :: r, i, v => by
    unfold runOps
    split
    · simp only [List.length_cons, run_len sh r (i + 1)]
    · exact run_len sh r (i + 1) v

theorem three_ok : (1 : Int) ≤ 3 ∧ (3 : Int) ≤ 3 := by decide
theorem two_okN : (1 : Int) ≤ 2 ∧ (2 : Int) ≤ 3 := by decide
theorem one_ok : (1 : Int) ≤ 1 ∧ (1 : Int) ≤ 3 := by decide
theorem GoodN.fine {s : NodeL} (h : GoodN s) {n : Nat} (hn : n < 32) (hs : (s.ent n).state ≠ 0) : Fine (s.ent n) n := by
  rcases h.ent n hn with e | e
  · rw [e] at hs; exact absurd rfl hs
  · exact e
theorem GoodN.state {s : NodeL} (h : GoodN s) {n : Nat} (hn : n < 32) : 0 ≤ (s.ent n).state ∧ (s.ent n).state ≤ 3 := by
  rcases h.ent n hn with e | e
  · rw [e]; decide
  · have := e.st; omega
theorem good_exec {s : NodeL} (h : GoodN s) (sh : Int) {n : Nat} (hn : n < 32) (hs : (s.ent n).state = 2) : GoodN (s.exec sh n) := by
  have F := h.fine hn (by rw [hs]; decide)
  have same : (s.exec sh n).ent n = ⟨3, (s.ent n).ops, (s.ent n).first, (s.ent n).deps, (runOps sh 0 (s.ent n).ops s.vals).2.1, (runOps sh 0 (s.ent n).ops s.vals).2.2⟩ := upd_same _ _ _
  have other : ∀ m, m ≠ n → (s.exec sh n).ent m = s.ent m := fun m hm => upd_other _ _ hm
  refine ⟨fun m hm => ?_, fun m hm => ?_, fun x hx => ?_⟩
  · by_cases e : m = n
    · subst e
      right
      rw [same]
      exact ⟨three_ok, F.ops, F.first, F.deps, fun h => absurd (show (3 : Int) = 1 from h) (by decide), fun h => absurd rfl h, run_ats sh (s.ent m).ops 0 s.vals (-1) (s.ent m).ops.length (by omega) (by omega), run_len sh _ _ _⟩
    · rw [other m e]; exact h.ent m hm
  · have h1 := h.cnt m hm
    show (s.order ++ [(n : Int)]).count (m : Int) = _
    rw [List.count_append, h1]
    by_cases e : m = n
    · subst e
      rw [same, hs]
      simp
    · rw [other m e]
      have : List.count (m : Int) [(n : Int)] = 0 := by
        rw [List.count_eq_zero]
        simp
        omega
      rw [this]
      rfl
  · rcases List.mem_append.1 hx with hx | hx
    · exact h.lt x hx
    · simp at hx
      omega
theorem good_execs (sh : Int) : ∀ (l : List Nat) {s : NodeL}, (∀ x ∈ l, x < 32) → GoodN s → GoodN (s.execs sh l)
  | [], _, _, h => h
  | a :: l, s, hl, h => by
    have h1 : GoodN (NodeL.execIf sh s a) := by
      unfold NodeL.execIf
      split
      · rename_i e; exact good_exec h sh (hl a (by simp)) e
      · exact h
    exact good_execs (s := NodeL.execIf sh s a) sh l (fun x hx => hl x (by simp [hx])) h1
theorem order_below (g : GraphL) (n : Int) : ∀ x ∈ orderI g n, x < 32 := by
  intro x hx
  unfold orderI at hx
  split at hx
  · exact (placed_at _ _ 32).lt x hx
  · simp at hx
theorem good_settle {s : NodeL} (h : GoodN s) (sh : Int) : GoodN (s.settle sh) := by
  have : ∀ (l : List Nat) (t : NodeL), GoodN t → GoodN (l.foldl (NodeL.round s.graph sh) t) := by
    intro l
    induction l with
    | nil => exact fun t ht => ht
    | cons a l ih =>
      intro t ht
      refine ih _ ?_
      unfold NodeL.round
      split
      · exact good_execs (s := t) sh _ (order_below _ _) ht
      · exact ht
  exact this _ s h

/-- What a good frame has, of the two kinds that a node takes. -/
theorem frame_has {f : FrameL} (h : goodL f = 0) : 0 ≤ f.id ∧ f.id < 32 ∧ ((f.kind = 1 ∨ f.kind = 3) → goodOpsL f.ops = true) ∧ (f.kind = 3 → risingFrom (-1) f.deps = true ∧ hasL f.deps f.id = false) := by
  unfold goodL at h
  split at h
  · cases h
  · split at h
    · cases h
    · rename_i h2
      split at h
      · rename_i h3
        rw [Bool.and_eq_true, Bool.and_eq_true] at h3
        refine ⟨by omega, by omega, fun hk => ?_, fun hk => ?_⟩
        · have := h3.1
          unfold goodOpsF at this
          rw [if_pos hk] at this
          exact this
        · have := h3.2.1
          unfold goodDepsF at this
          rw [if_pos (Or.inr hk), Bool.and_eq_true] at this
          exact ⟨this.1, by simpa using this.2⟩
      · cases h
theorem good_asked {s : NodeL} (h : GoodN s) (sh : Int) {f : FrameL} (hf : goodL f = 0) (hk : f.kind = 1) : GoodN (s.asked sh f) := by
  obtain ⟨i1, i2, i3, _⟩ := frame_has hf
  unfold NodeL.asked
  split
  · rename_i e0
    refine ⟨fun m hm => ?_, fun m hm => ?_, h.lt⟩
    · by_cases e : m = f.id.toNat
      · subst e
        right
        rw [heard_same]
        exact ⟨one_ok, i3 (Or.inl hk), ⟨ahead_rises _ _ _ _, ahead_not _ _ _ _⟩, ⟨rfl, rfl⟩, fun _ => rfl, fun _ => rfl, rfl, rfl⟩
      · rw [heard_other s sh f e]; exact h.ent m hm
    · have h1 := h.cnt m hm
      show s.order.count (m : Int) = _
      rw [h1]
      by_cases e : m = f.id.toNat
      · subst e
        rw [heard_same, e0]
        rfl
      · rw [heard_other s sh f e]
  · exact h
theorem good_placed {s : NodeL} (h : GoodN s) (sh : Int) {f : FrameL} (hf : goodL f = 0) (hk : f.kind = 3) (hs : (s.ent f.id.toNat).state < 2) : GoodN (s.placed sh f) := by
  obtain ⟨i1, i2, i3, i4⟩ := frame_has hf
  have hid : ((f.id.toNat : Nat) : Int) = f.id := by omega
  have hlt : f.id.toNat < 32 := by omega
  have other : ∀ m, m ≠ f.id.toNat → (s.placed sh f).ent m = s.ent m := fun m hm => upd_other _ _ hm
  have hats : (s.ent f.id.toNat).ats = [] ∧ (s.ent f.id.toNat).vals = [] := by
    rcases h.ent _ hlt with e | e
    · rw [e]; exact ⟨rfl, rfl⟩
    · have h1 := e.told (by omega)
      exact ⟨h1, List.eq_nil_of_length_eq_zero (by rw [e.vals, h1]; rfl)⟩
  refine ⟨fun m hm => ?_, fun m hm => ?_, h.lt⟩
  · by_cases e : m = f.id.toNat
    · subst e
      right
      rw [placed_same, hats.1, hats.2]
      have hfi : risingFrom (-1) (if (s.ent f.id.toNat).state = 0 then s.ahead f.id.toNat f.ops sh else (s.ent f.id.toNat).first) = true ∧ hasL (if (s.ent f.id.toNat).state = 0 then s.ahead f.id.toNat f.ops sh else (s.ent f.id.toNat).first) ((f.id.toNat : Nat) : Int) = false := by
        split
        · exact ⟨ahead_rises _ _ _ _, ahead_not _ _ _ _⟩
        · rename_i e0
          exact (h.fine hlt e0).first
      have hdp : risingFrom (-1) f.deps = true ∧ hasL f.deps ((f.id.toNat : Nat) : Int) = false := by rw [hid]; exact i4 hk
      exact ⟨two_okN, i3 (Or.inr hk), hfi, hdp, fun h => absurd (show (2 : Int) = 1 from h) (by decide), fun _ => rfl, rfl, rfl⟩
    · rw [other m e]; exact h.ent m hm
  · have h1 := h.cnt m hm
    show s.order.count (m : Int) = _
    rw [h1]
    by_cases e : m = f.id.toNat
    · subst e
      rw [placed_same, if_neg (by omega)]
      rfl
    · rw [other m e]
theorem good_commit {s : NodeL} (h : GoodN s) (sh : Int) {f : FrameL} (hf : goodL f = 0) (hk : f.kind = 3) : GoodN (s.commit sh f) := by
  unfold NodeL.commit
  split
  · rename_i e; exact good_settle (good_placed h sh hf hk e) sh
  · exact h
theorem good_zero : GoodN zeroN := ⟨fun _ _ => Or.inl rfl, fun _ _ => rfl, by simp [zeroN]⟩

end Go.Proofs.Ytkoefoccbjhoiab

namespace Go.Proofs.Ytkoefoccbjhoiab
open Go.RowKit

/-- What comes to be known of m. -/
def GraphL.learn (g : GraphL) (m : Nat) (zs : List Int) : GraphL := ⟨upd g.known m true, upd g.deps m zs⟩
theorem learn_adj {g : GraphL} {m : Nat} {zs : List Int} {x : Nat} (hx : x ≠ m) (y : Nat) : (g.learn m zs).adj x y = g.adj x y := by
  unfold GraphL.adj GraphL.learn
  simp only [upd_other _ _ hx]
theorem hangs_learn {g : GraphL} {m : Nat} {zs : List Int} {x y : Nat} (h : Hangs g.adj x y) (hm : ¬ Hangs g.adj x m) : Hangs (g.learn m zs).adj x y := by
  induction h using Hangs.ind with
  | refl => exact .refl _
  | step a h ih =>
    rename_i x z y
    have hx : x ≠ m := fun e => hm (e ▸ .refl _)
    exact .step (by rw [learn_adj hx]; exact a) (ih (fun h => hm (.step a h)))
theorem hangs_unlearn {g : GraphL} {m : Nat} {zs : List Int} {x y : Nat} (h : Hangs (g.learn m zs).adj x y) (hm : ¬ Hangs g.adj x m) : Hangs g.adj x y := by
  induction h using Hangs.ind with
  | refl => exact .refl _
  | step a h ih =>
    rename_i x z y
    have hx : x ≠ m := fun e => hm (e ▸ .refl _)
    rw [learn_adj hx] at a
    exact .step a (ih (fun h => hm (.step a h)))
theorem learn_row {g : GraphL} {m : Nat} {zs : List Int} {x : Nat} (hx : x < 32) (hm : hangB g x m = false) (y : Nat) : hangB g x y = hangB (g.learn m zs) x y := by
  have hm' : ¬ Hangs g.adj x m := fun h => by rw [(hangB_iff g hx m).2 h] at hm; cases hm
  rw [Bool.eq_iff_iff, hangB_iff g hx y, hangB_iff (g.learn m zs) hx y]
  exact ⟨fun h => hangs_learn h hm', fun h => hangs_unlearn h hm'⟩
end Go.Proofs.Ytkoefoccbjhoiab

namespace Go.Proofs.Ytkoefoccbjhoiab
open Go.RowKit

def NodeL.did (s : NodeL) : List Nat := s.order.map Int.toNat
theorem did_iff {s : NodeL} (h : GoodN s) {n : Nat} (hn : n < 32) : n ∈ s.did ↔ (s.ent n).state = 3 := by
  have h1 := h.cnt n hn
  unfold NodeL.did
  rw [List.mem_map]
  constructor
  · rintro ⟨x, hx, e⟩
    have := h.lt x hx
    have ex : x = (n : Int) := by omega
    subst ex
    have : 0 < s.order.count (n : Int) := List.count_pos_iff.2 hx
    split at h1
    · assumption
    · omega
  · intro hs
    rw [if_pos hs] at h1
    exact ⟨(n : Int), List.count_pos_iff.1 (by omega), by simp⟩

/-- What a node has executed: sorted, and all that it hangs on is known. -/
structure SortN (s : NodeL) : Prop where
  sorted : Sorted (hangB s.graph) s.did
  ready : ∀ x ∈ s.did, ∀ d, d < 32 → hangB s.graph x d = true → s.graph.known d = true

theorem graph_exec (s : NodeL) (sh : Int) (n : Nat) (h : (s.ent n).state = 2) : (s.exec sh n).graph = s.graph := by
  have same : (s.exec sh n).ent n = ⟨3, (s.ent n).ops, (s.ent n).first, (s.ent n).deps, _, _⟩ := upd_same _ _ _
  have other : ∀ m, m ≠ n → (s.exec sh n).ent m = s.ent m := fun m hm => upd_other _ _ hm
  have e1 : (fun i => decide (2 ≤ ((s.exec sh n).ent i).state)) = fun i => decide (2 ≤ (s.ent i).state) := by
    funext i
    by_cases e : i = n
    · rw [e, same, h]; rfl
    · rw [other i e]
  have e2 : (fun i => ((s.exec sh n).ent i).deps) = fun i => (s.ent i).deps := by
    funext i
    by_cases e : i = n
    · rw [e, same]
    · rw [other i e]
  unfold NodeL.graph
  rw [e1, e2]

/-- A list is executed: those of it that are Committed, in its order. -/
theorem did_execs (sh : Int) : ∀ (l : List Nat) (s : NodeL), l.Nodup → (s.execs sh l).did = s.did ++ l.filter (fun x => decide ((s.ent x).state = 2)) ∧ (s.execs sh l).graph = s.graph ∧ ∀ x, x ∉ l → (s.execs sh l).ent x = s.ent x
  | [], s, _ => ⟨by simp [NodeL.execs], rfl, fun _ _ => rfl⟩
  | a :: l, s, hd => by
    rw [List.nodup_cons] at hd
    obtain ⟨i1, i2, i3⟩ := did_execs sh l (NodeL.execIf sh s a) hd.2
    have e0 : s.execs sh (a :: l) = (NodeL.execIf sh s a).execs sh l := rfl
    rw [e0, i1, i2]
    by_cases h : (s.ent a).state = 2
    · have e1 : NodeL.execIf sh s a = s.exec sh a := by unfold NodeL.execIf; rw [if_pos h]
      have other : ∀ m, m ≠ a → (s.exec sh a).ent m = s.ent m := fun m hm => upd_other _ _ hm
      rw [e1] at i3 ⊢
      refine ⟨?_, graph_exec s sh a h, fun x hx => ?_⟩
      · have hf : l.filter (fun x => decide (((s.exec sh a).ent x).state = 2)) = l.filter (fun x => decide ((s.ent x).state = 2)) := List.filter_congr fun x hx => by rw [other x (fun e => hd.1 (e ▸ hx))]
        rw [hf, List.filter_cons_of_pos (by simpa using h)]
        unfold NodeL.did NodeL.exec
        simp
      · rw [i3 x (fun h => hx (by simp [h])), other x (fun e => hx (by simp [e]))]
    · have e1 : NodeL.execIf sh s a = s := by unfold NodeL.execIf; rw [if_neg h]
      rw [e1] at i3 ⊢
      refine ⟨by rw [List.filter_cons_of_neg (by simpa using h)], rfl, fun x hx => i3 x (fun h => hx (by simp [h]))⟩

theorem sort_execs {s : NodeL} (h : GoodN s) (S : SortN s) (sh : Int) {n : Nat} (hn : n < 32) : SortN (s.execs sh (orderI s.graph n)) ∧ (s.execs sh (orderI s.graph n)).graph = s.graph := by
  cases hr : readyI s.graph (n : Int)
  · have : orderI s.graph (n : Int) = [] := by unfold orderI; rw [hr]; rfl
    rw [this]
    exact ⟨S, rfl⟩
  · have hc := clo_hang s.graph hn
    have eo : orderI s.graph (n : Int) = outS (hangB s.graph) (hangB s.graph n) 32 := by unfold orderI; rw [hr, ← order_spec s.graph hn]; rfl
    have hk : ∀ i, i < 32 → hangB s.graph n i = true → s.graph.known i = true := by
      have h1 := hr
      unfold readyI at h1
      rw [Bool.and_eq_true] at h1
      exact knowsB_iff.1 h1.2
    have L := laid_at hc 32
    obtain ⟨e1, e2, _⟩ := did_execs sh (orderI s.graph (n : Int)) s (by rw [eo]; exact L.nodup)
    refine ⟨?_, e2⟩
    have hf : (orderI s.graph (n : Int)).filter (fun x => decide ((s.ent x).state = 2)) = (outS (hangB s.graph) (hangB s.graph n) 32).filter fun x => !s.did.contains x := by
      rw [eo]
      refine List.filter_congr fun x hx => ?_
      have hd := L.inD x hx
      have hx32 := hc.lt x hd
      have h2 : 2 ≤ (s.ent x).state := by simpa [NodeL.graph] using hk x hx32 hd
      have h3 := (h.state hx32).2
      have h4 := did_iff h hx32
      rw [Bool.eq_iff_iff]
      simp only [decide_eq_true_iff, Bool.not_eq_true', List.contains_eq_mem, decide_eq_false_iff_not]
      constructor
      · intro h5 h6
        have := h4.1 h6
        omega
      · intro h5
        have : (s.ent x).state ≠ 3 := fun e => h5 (h4.2 e)
        omega
    rw [hf] at e1
    refine ⟨by rw [e1, e2]; exact sorted_more hc S.sorted, fun x hx d hd hxd => ?_⟩
    rw [e2] at hxd ⊢
    rw [e1] at hx
    rcases List.mem_append.1 hx with hx | hx
    · exact S.ready x hx d hd hxd
    · have hdx := L.inD x (List.mem_filter.1 hx).1
      exact hk d hd (hc.closed x d hdx hxd)

theorem sort_settle {s : NodeL} (h : GoodN s) (S : SortN s) (sh : Int) : SortN (s.settle sh) := by
  have : ∀ (l : List Nat) (t : NodeL), (∀ x ∈ l, x < 32) → GoodN t → SortN t → t.graph = s.graph → SortN (l.foldl (NodeL.round s.graph sh) t) := by
    intro l
    induction l with
    | nil => exact fun t _ _ ht _ => ht
    | cons a l ih =>
      intro t hl hg hS he
      have ha := hl a (by simp)
      have h1 : GoodN (NodeL.round s.graph sh t a) ∧ SortN (NodeL.round s.graph sh t a) ∧ (NodeL.round s.graph sh t a).graph = s.graph := by
        unfold NodeL.round
        split
        · rw [← he]
          obtain ⟨k1, k2⟩ := sort_execs hg hS sh ha
          exact ⟨good_execs sh _ (order_below _ _) hg, k1, k2⟩
        · exact ⟨hg, hS, he⟩
      exact ih _ (fun x hx => hl x (by simp [hx])) h1.1 h1.2.1 h1.2.2
  exact this _ s (fun x hx => List.mem_range.1 hx) h S rfl

theorem graph_asked {s : NodeL} (h : GoodN s) (sh : Int) {f : FrameL} (hf : goodL f = 0) : (s.asked sh f).graph = s.graph := by
  obtain ⟨i1, i2, _, _⟩ := frame_has hf
  unfold NodeL.asked
  split
  · rename_i e0
    have hz : s.ent f.id.toNat = zeroE := by
      rcases h.ent f.id.toNat (by omega) with e | e
      · exact e
      · have := e.st; omega
    have e1 : (fun i => decide (2 ≤ ((s.heard sh f).ent i).state)) = fun i => decide (2 ≤ (s.ent i).state) := by
      funext i
      by_cases e : i = f.id.toNat
      · rw [e, heard_same, hz]; rfl
      · rw [heard_other s sh f e]
    have e2 : (fun i => ((s.heard sh f).ent i).deps) = fun i => (s.ent i).deps := by
      funext i
      by_cases e : i = f.id.toNat
      · rw [e, heard_same, hz]; rfl
      · rw [heard_other s sh f e]
    unfold NodeL.graph
    rw [e1, e2]
  · rfl
theorem did_asked (s : NodeL) (sh : Int) (f : FrameL) : (s.asked sh f).did = s.did := by
  unfold NodeL.asked
  split <;> rfl
theorem sort_asked {s : NodeL} (h : GoodN s) (S : SortN s) (sh : Int) {f : FrameL} (hf : goodL f = 0) : SortN (s.asked sh f) := by
  refine ⟨?_, ?_⟩
  · rw [graph_asked h sh hf, did_asked]; exact S.sorted
  · rw [graph_asked h sh hf, did_asked]; exact S.ready
theorem graph_placed (s : NodeL) (sh : Int) (f : FrameL) : (s.placed sh f).graph = s.graph.learn f.id.toNat f.deps := by
  have other : ∀ m, m ≠ f.id.toNat → (s.placed sh f).ent m = s.ent m := fun m hm => upd_other _ _ hm
  have e1 : (fun i => decide (2 ≤ ((s.placed sh f).ent i).state)) = upd (fun i => decide (2 ≤ (s.ent i).state)) f.id.toNat true := by
    funext i
    by_cases e : i = f.id.toNat
    · rw [e, placed_same, upd_same]; rfl
    · rw [other i e, upd_other _ _ e]
  have e2 : (fun i => ((s.placed sh f).ent i).deps) = upd (fun i => (s.ent i).deps) f.id.toNat f.deps := by
    funext i
    by_cases e : i = f.id.toNat
    · rw [e, placed_same, upd_same]
    · rw [other i e, upd_other _ _ e]
  unfold NodeL.graph GraphL.learn
  rw [e1, e2]
theorem sort_placed {s : NodeL} (S : SortN s) (sh : Int) {f : FrameL} (hf : goodL f = 0) (hs : (s.ent f.id.toNat).state < 2) : SortN (s.placed sh f) := by
  obtain ⟨i1, i2, _, _⟩ := frame_has hf
  have hid : f.id.toNat < 32 := by omega
  have hunk : s.graph.known f.id.toNat = false := by
    show decide (2 ≤ (s.ent f.id.toNat).state) = false
    exact decide_eq_false (by omega)
  have hno : ∀ x ∈ s.did, hangB s.graph x f.id.toNat = false := by
    intro x hx
    cases hh : hangB s.graph x f.id.toNat
    · rfl
    · rw [S.ready x hx _ hid hh] at hunk; cases hunk
  have hrow : ∀ x ∈ s.did, ∀ y, y < 32 → hangB s.graph x y = hangB (s.graph.learn f.id.toNat f.deps) x y := fun x hx y _ => learn_row (S.sorted.lt x hx) (hno x hx) y
  have ed : (s.placed sh f).did = s.did := rfl
  refine ⟨by rw [graph_placed, ed]; exact S.sorted.later hrow, fun x hx d hd hxd => ?_⟩
  rw [graph_placed] at hxd ⊢
  rw [ed] at hx
  rw [← hrow x hx d hd] at hxd
  have := S.ready x hx d hd hxd
  show upd s.graph.known f.id.toNat true d = true
  unfold upd
  split
  · rfl
  · exact this
theorem sort_commit {s : NodeL} (h : GoodN s) (S : SortN s) (sh : Int) {f : FrameL} (hf : goodL f = 0) (hk : f.kind = 3) : SortN (s.commit sh f) := by
  unfold NodeL.commit
  split
  · rename_i e; exact sort_settle (good_placed h sh hf hk e) (sort_placed S sh hf e) sh
  · exact S
theorem sort_zero : SortN zeroN := ⟨sorted_nil _, by simp [zeroN, NodeL.did]⟩

end Go.Proofs.Ytkoefoccbjhoiab

namespace Go.Proofs.Ytkoefoccbjhoiab
open Go.RowKit

/-- P5.1, of one transaction, as a truth. -/
def entB (e : EntryL) (n : Nat) : Bool :=
  if e.state = 0 then e.ops.isEmpty && e.first.isEmpty && e.deps.isEmpty && e.ats.isEmpty && e.vals.isEmpty
  else decide (1 ≤ e.state ∧ e.state ≤ 3) && goodOpsL e.ops && (risingFrom (-1) e.first && !hasL e.first n) && (risingFrom (-1) e.deps && !hasL e.deps n) && (decide (e.state ≠ 1) || e.deps.isEmpty) &&
    (decide (e.state = 3) || e.ats.isEmpty) && atsFrom (-1) e.ops.length e.ats && decide (e.vals.length = e.ats.length)
def goodNB (s : NodeL) : Bool := ((List.range 32).all fun n => entB (s.ent n) n && decide (s.order.count (n : Int) = if (s.ent n).state = 3 then 1 else 0)) && s.order.all fun x => decide (0 ≤ x ∧ x < 32)

theorem entB_iff {e : EntryL} {n : Nat} : entB e n = true ↔ e = zeroE ∨ Fine e n := by
  obtain ⟨st, ops, fi, de, ats, vals⟩ := e
  unfold entB
  by_cases h : st = 0
  · subst h
    rw [if_pos rfl]
    constructor
    · intro h
      simp at h
      obtain ⟨⟨⟨⟨rfl, rfl⟩, rfl⟩, rfl⟩, rfl⟩ := h
      exact Or.inl rfl
    · rintro (h | h)
      · cases h; rfl
      · have h1 : (1 : Int) ≤ 0 := h.st.1
        omega
  · rw [if_neg h]
    simp only [Bool.and_eq_true, Bool.or_eq_true, decide_eq_true_iff, Bool.not_eq_true', List.isEmpty_iff]
    constructor
    · rintro ⟨⟨⟨⟨⟨⟨⟨h1, h2⟩, h3⟩, h4⟩, h5⟩, h6⟩, h7⟩, h8⟩
      exact Or.inr ⟨h1, h2, h3, h4, fun e => h5.resolve_left (fun h => h e), fun e => h6.resolve_left e, h7, h8⟩
    · rintro (e | F)
      · cases e; exact absurd rfl h
      · refine ⟨⟨⟨⟨⟨⟨⟨F.st, F.ops⟩, F.first⟩, F.deps⟩, ?_⟩, ?_⟩, F.ats⟩, F.vals⟩
        · by_cases e : st = 1
          · exact Or.inr (F.asked e)
          · exact Or.inl e
        · by_cases e : st = 3
          · exact Or.inl e
          · exact Or.inr (F.told e)
theorem goodNB_iff {s : NodeL} : goodNB s = true ↔ GoodN s := by
  unfold goodNB
  simp only [Bool.and_eq_true, List.all_eq_true, List.mem_range, decide_eq_true_iff, entB_iff]
  exact ⟨fun h => ⟨fun n hn => (h.1 n hn).1, fun n hn => (h.1 n hn).2, h.2⟩, fun h => ⟨fun n hn => ⟨h.ent n hn, h.cnt n hn⟩, h.lt⟩⟩

/-- P5.2, P5.3. -/
def takeN (s : NodeL) (who : Int) (f : FrameL) : NodeL × List FrameL × Int :=
  if goodNB s = false ∨ who < 0 ∨ 5 < who ∨ f.node ≠ who then (s, [], 2)
  else if goodL f ≠ 0 then (s, [], goodL f)
  else if f.kind = 1 then
    if touchesL f.ops (ofL who) = false then (s, [], 4)
    else (s.asked (ofL who) f, [⟨2, who, f.id, [], ((s.asked (ofL who) f).ent f.id.toNat).first, [], []⟩], 0)
  else if f.kind = 3 then (s.commit (ofL who) f, (s.commit (ofL who) f).answers (ofL who) who f.id, 0)
  else (s, [], 3)

/-- What a frame that is taken makes of a node: one of two things. -/
theorem take_cases (s : NodeL) (who : Int) (f : FrameL) :
    ((takeN s who f).2.2 ≠ 0 ∧ (takeN s who f).1 = s ∧ (takeN s who f).2.1 = []) ∨
    (GoodN s ∧ goodL f = 0 ∧ (takeN s who f).2.2 = 0 ∧ f.node = who ∧ 0 ≤ who ∧ who ≤ 5 ∧
      ((f.kind = 1 ∧ touchesL f.ops (ofL who) = true ∧ takeN s who f = (s.asked (ofL who) f, [⟨2, who, f.id, [], ((s.asked (ofL who) f).ent f.id.toNat).first, [], []⟩], 0)) ∨
       (f.kind = 3 ∧ takeN s who f = (s.commit (ofL who) f, (s.commit (ofL who) f).answers (ofL who) who f.id, 0)))) := by
  by_cases h1 : goodNB s = false ∨ who < 0 ∨ 5 < who ∨ f.node ≠ who
  · left
    have e : takeN s who f = (s, [], 2) := by unfold takeN; rw [if_pos h1]
    rw [e]
    exact ⟨(show (2 : Int) ≠ 0 by decide), rfl, rfl⟩
  · by_cases h2 : goodL f ≠ 0
    · left
      have e : takeN s who f = (s, [], goodL f) := by unfold takeN; rw [if_neg h1, if_pos h2]
      rw [e]
      exact ⟨h2, rfl, rfl⟩
    · have hg : GoodN s := goodNB_iff.1 (by
        cases h : goodNB s
        · exact absurd (Or.inl h) h1
        · rfl)
      have hn : f.node = who ∧ 0 ≤ who ∧ who ≤ 5 := by
        refine ⟨?_, ?_, ?_⟩
        · by_cases e : f.node = who
          · exact e
          · exact absurd (Or.inr (Or.inr (Or.inr e))) h1
        · by_cases e : who < 0
          · exact absurd (Or.inr (Or.inl e)) h1
          · omega
        · by_cases e : 5 < who
          · exact absurd (Or.inr (Or.inr (Or.inl e))) h1
          · omega
      have h2' : goodL f = 0 := by omega
      by_cases h3 : f.kind = 1
      · by_cases h4 : touchesL f.ops (ofL who) = false
        · left
          have e : takeN s who f = (s, [], 4) := by unfold takeN; rw [if_neg h1, if_neg h2, if_pos h3, if_pos h4]
          rw [e]
          exact ⟨(show (4 : Int) ≠ 0 by decide), rfl, rfl⟩
        · right
          have e : takeN s who f = (s.asked (ofL who) f, [⟨2, who, f.id, [], ((s.asked (ofL who) f).ent f.id.toNat).first, [], []⟩], 0) := by unfold takeN; rw [if_neg h1, if_neg h2, if_pos h3, if_neg h4]
          exact ⟨hg, h2', by rw [e], hn.1, hn.2.1, hn.2.2, Or.inl ⟨h3, by simpa using h4, e⟩⟩
      · by_cases h5 : f.kind = 3
        · right
          have e : takeN s who f = (s.commit (ofL who) f, (s.commit (ofL who) f).answers (ofL who) who f.id, 0) := by unfold takeN; rw [if_neg h1, if_neg h2, if_neg h3, if_pos h5]
          exact ⟨hg, h2', by rw [e], hn.1, hn.2.1, hn.2.2, Or.inr ⟨h5, e⟩⟩
        · left
          have e : takeN s who f = (s, [], 3) := by unfold takeN; rw [if_neg h1, if_neg h2, if_neg h3, if_neg h5]
          rw [e]
          exact ⟨(show (3 : Int) ≠ 0 by decide), rfl, rfl⟩

theorem take_good {s : NodeL} {who : Int} {f : FrameL} (h : (takeN s who f).2.2 = 0) : GoodN (takeN s who f).1 := by
  rcases take_cases s who f with ⟨h1, _⟩ | ⟨hg, hf, _, _, _, _, ⟨hk, _, e⟩ | ⟨hk, e⟩⟩
  · exact absurd h h1
  · rw [e]; exact good_asked hg _ hf hk
  · rw [e]; exact good_commit hg _ hf hk
theorem take_sort {s : NodeL} {who : Int} {f : FrameL} (S : SortN s) : SortN (takeN s who f).1 := by
  rcases take_cases s who f with ⟨_, h1, _⟩ | ⟨hg, hf, _, _, _, _, ⟨hk, _, e⟩ | ⟨hk, e⟩⟩
  · rw [h1]; exact S
  · rw [e]; exact sort_asked hg S _ hf
  · rw [e]; exact sort_commit hg S _ hf hk
end Go.Proofs.Ytkoefoccbjhoiab

namespace Go.Proofs.Ytkoefoccbjhoiab
open Go.RowKit

/-- Its place, from one on; nothing, if it has none. -/
def placeL (l : List Nat) (j : Nat) : Nat := if j ∈ l then l.idxOf j + 1 else 0

theorem place_nil (j : Nat) : placeL [] j = 0 := by simp [placeL]
theorem place_snoc {l : List Nat} {n : Nat} (h : n ∉ l) (j : Nat) : placeL (l ++ [n]) j = if j = n then l.length + 1 else placeL l j := by
  unfold placeL
  by_cases e : j = n
  · subst e
    rw [if_pos (by simp), if_pos rfl, List.idxOf_append, if_neg h]
    simp
  · rw [if_neg e]
    by_cases hj : j ∈ l
    · rw [if_pos (by simp [hj]), if_pos hj, List.idxOf_append, if_pos hj]
    · rw [if_neg (by simp [hj, e]), if_neg hj]
theorem place_pre {pre post : List Nat} {x d : Nat} (hd : (pre ++ x :: post).Nodup) (h : d ∈ pre ++ x :: post) : placeL (pre ++ x :: post) d < placeL (pre ++ x :: post) x ↔ d ∈ pre := by
  have hxp : x ∉ pre := fun hp => (List.nodup_append.1 hd).2.2 x hp x (by simp) rfl
  have e1 : placeL (pre ++ x :: post) x = pre.length + 1 := by
    unfold placeL
    rw [if_pos (by simp), List.idxOf_append, if_neg hxp]
    simp
  have e2 : placeL (pre ++ x :: post) d = (pre ++ x :: post).idxOf d + 1 := if_pos h
  rw [e1, e2, List.idxOf_append]
  constructor
  · intro hlt
    by_cases hp : d ∈ pre
    · exact hp
    · rw [if_neg hp] at hlt
      omega
  · intro hp
    rw [if_pos hp]
    have := List.idxOf_lt_length_of_mem hp
    omega

/-- What NodeSorted asks. -/
theorem sorted_asks {H : Nat → Nat → Bool} {L : List Nat} (h : Sorted H L) {n d : Nat} (hn : placeL L n ≠ 0) (hd : d < 32) (hnd : H n d = true) (hne : d ≠ n) :
    placeL L d ≠ 0 ∧ (H d n = false → ¬ placeL L n < placeL L d) ∧ (H d n = true → (d < n ↔ placeL L d < placeL L n)) := by
  have hm : n ∈ L := by
    by_cases hm : n ∈ L
    · exact hm
    · exact absurd (if_neg hm) hn
  have hdm := h.closed n hm d hd hnd
  obtain ⟨pre, post, rfl⟩ := List.append_of_mem hm
  have hp := place_pre h.nodup hdm
  refine ⟨?_, fun hb => ?_, fun hb => ?_⟩
  · unfold placeL
    rw [if_pos hdm]
    omega
  · have := hp.2 (h.behind pre n post rfl d hd hnd hb)
    omega
  · rw [hp]
    exact (h.ring pre n post rfl d hd hnd hb hne).symm

end Go.Proofs.Ytkoefoccbjhoiab

namespace Go.Proofs.Ytkoefoccbjhoiab
open Go.RowKit

end Go.Proofs.Ytkoefoccbjhoiab

namespace Go.Proofs.Ytkoefoccbjhoiab
open Go.ChangeShapes Go.WideShapes Go.ChangeAt Go.RowKit Go.Deep

theorem own : ownKnob Try.prog.godebug = none := by kernel_rfl
theorem laidOut : laidOutB Try.prog = true := by kernel_rfl
theorem Try.cellsInt : Try.prog.cellsOf 3 = 1 := by kernel_rfl
def Fits (x : Int) : Prop := (Lit.int .i64 x).wf = true

theorem add_none {b off j : Nat} : (⟨b, off, none⟩ : Addr).add j = ⟨b, off + j, none⟩ := by
  unfold Addr.add
  split
  · subst_vars; simp
  · simp

theorem lt_of_cell {w : World} {a : Addr} {v : Value} (h : w.cell? a = some v) : a.block < w.heap.size := by
  by_cases hq : a.block < w.heap.size
  · exact hq
  · have hn : w.heap[a.block]? = none := Array.getElem?_eq_none (by omega)
    simp [World.cell?, hn] at h

section
variable {H : Type} {enc : TypeId × Value → H} {P : Program} {w : World} {base : Nat} {spare : Nat → Bool} {held : Bool}

/-- A slice of ints that came in. -/
theorem open_intsAt {t e : TypeId} {fuel : Nat} {a : Option Addr} {len cap : Nat} {x : DataW H × List MemPlace} (ht : P.underlying t = some (.slice e)) (he : P.underlying e = some (.int .i64)) (hc : P.cellsOf e = 1)
    (h : DataW.trod enc P w base spare held fuel t [.slice a len cap] = some x) :
    len ≤ maxLen ∧ ∃ zs : List Int, zs.length = len ∧ IntsAt w.heap.size w a zs ∧ (∀ n ∈ zs, Fits n) ∧ (a = none → len = 0 ∧ cap = 0) ∧ len ≤ cap := by
  rcases open_ints ht he hc h with ⟨hcs, _⟩ | ⟨x, l, c, zs, hcs, _, hl, hm, hz, _, hcell, hwz⟩
  · simp at hcs
    obtain ⟨rfl, rfl, rfl⟩ := hcs
    exact ⟨Nat.zero_le _, [], rfl, Or.inl rfl, by simp, fun _ => ⟨rfl, rfl⟩, Nat.le_refl _⟩
  · simp at hcs
    obtain ⟨rfl, rfl, rfl⟩ := hcs
    have hlen : len ≤ zs.length := by rw [hz]; split <;> omega
    refine ⟨by omega, zs.take len, by simp; omega, ?_, fun n hn => hwz n (List.mem_of_mem_take hn), fun h => by simp at h, hl⟩
    by_cases h0 : len = 0
    · left
      simp [h0]
    · right
      obtain ⟨b, off, spot⟩ := x
      have hc0 := hcell 0 (by omega)
      have hs : spot = none := by simpa [Addr.add] using World.cell?_spot hc0
      subst hs
      refine ⟨b, off, rfl, by simpa [Addr.add] using lt_of_cell hc0, fun i hi => ?_⟩
      have hi' : i < len := by simp at hi; omega
      have := hcell i (by omega)
      rw [add_none] at this
      rw [this]
      simp [List.getD, hi']

end

end Go.Proofs.Ytkoefoccbjhoiab

namespace Go.Proofs.Ytkoefoccbjhoiab
open Go.ChangeShapes Go.WideShapes Go.ChangeAt Go.RowKit Go.Deep

theorem Try.cellsOp : Try.prog.cellsOf 108 = 3 := by kernel_rfl

def FitsOp (o : OpL) : Prop := Fits o.1 ∧ Fits o.2.1 ∧ Fits o.2.2

section
variable {H : Type} {enc : TypeId × Value → H} {P : Program} {w : World} {base : Nat} {spare : Nat → Bool} {held : Bool}

/-- A slice of operations that came in. -/
theorem open_opsAt {t e f : TypeId} {fuel : Nat} {a : Option Addr} {len cap : Nat} {x : DataW H × List MemPlace} {f0 f1 f2 : Field} (ht : P.underlying t = some (.slice e)) (he : P.underlying e = some (.struct #[f0, f1, f2])) (hf : P.underlying f = some (.int .i64))
    (hc : P.cellsOf e = 3) (hcf : P.cellsOf f = 1) (y0 : f0.type = f) (y1 : f1.type = f) (y2 : f2.type = f) (o0 : f0.offset = 0) (o1 : f1.offset = 1) (o2 : f2.offset = 2)
    (h : DataW.trod enc P w base spare held fuel t [.slice a len cap] = some x) :
    len ≤ maxLen ∧ ∃ zs : List OpL, zs.length = len ∧ OpsAt w a zs ∧ (∀ o ∈ zs, FitsOp o) ∧ (a = none → len = 0 ∧ cap = 0) ∧ len ≤ cap := by
  rcases open_slice ht h with ⟨hcs, _⟩ | ⟨x, l, c, m, n, D, Pl, hcs, hb, hl, hm, hmm, _, hx⟩
  · simp at hcs
    obtain ⟨rfl, rfl, rfl⟩ := hcs
    exact ⟨Nat.zero_le _, [], rfl, Or.inl rfl, by simp, fun _ => ⟨rfl, rfl⟩, Nat.le_refl _⟩
  · simp at hcs
    obtain ⟨rfl, rfl, rfl⟩ := hcs
    have hlm : len ≤ m := by rw [hmm]; split <;> omega
    have each : ∀ i, i < len → ∃ q : OpL, w.cell? (x.add (i * 3)) = some (.int .i64 q.1) ∧ w.cell? (x.add (i * 3 + 1)) = some (.int .i64 q.2.1) ∧ w.cell? (x.add (i * 3 + 2)) = some (.int .i64 q.2.2) ∧ FitsOp q := by
      intro i hi
      obtain ⟨cs', h1, h2⟩ := hx i (by omega)
      rw [hc] at h1
      obtain ⟨_, hlen, hcell⟩ := World.cells?_some h1
      obtain ⟨xs, k, hk, hxy, _, hxl, hfs⟩ := DataW.trod_struct he h2
      match xs, hxl, cs', hlen with
      | [z0, z1, z2], _, [v0, v1, v2], _ =>
        have g0 := hfs 0 f0 rfl
        have g1 := hfs 1 f1 rfl
        have g2 := hfs 2 f2 rfl
        simp [y0, y1, y2, o0, o1, o2, hcf] at g0 g1 g2
        obtain ⟨n0, r0, _, q0⟩ := DataW.trod_int hf g0
        obtain ⟨n1, r1, _, q1⟩ := DataW.trod_int hf g1
        obtain ⟨n2, r2, _, q2⟩ := DataW.trod_int hf g2
        simp at r0 r1 r2
        subst r0 r1 r2
        have e0 := hcell 0 (by omega)
        have e1 := hcell 1 (by omega)
        have e2 := hcell 2 (by omega)
        rw [add_add] at e0 e1 e2
        exact ⟨(n0, n1, n2), by simpa using e0, by simpa using e1, by simpa using e2, q0, q1, q2⟩
    obtain ⟨Q, hQ⟩ := choose_lt each
    refine ⟨by omega, (List.range len).map Q, by simp, ?_, ?_, fun h => by simp at h, hl⟩
    · by_cases h0 : len = 0
      · left
        simp [h0]
      · right
        obtain ⟨b, off, spot⟩ := x
        have hc0 := (hQ 0 (by omega)).1
        have hs : spot = none := by simpa [Addr.add] using World.cell?_spot hc0
        subst hs
        refine ⟨b, off, rfl, by simpa [Addr.add] using lt_of_cell hc0, fun i hi => ?_⟩
        have hi' : i < len := by simpa using hi
        obtain ⟨t0, t1, t2, _⟩ := hQ i hi'
        rw [add_none] at t0 t1 t2
        have hg : ((List.range len).map Q).getD i (0, 0, 0) = Q i := by simp [List.getD, hi']
        rw [hg]
        exact ⟨t0, t1, t2⟩
    · intro o ho
      obtain ⟨i, hi, rfl⟩ := List.mem_map.1 ho
      exact (hQ i (List.mem_range.1 hi)).2.2.2

end

end Go.Proofs.Ytkoefoccbjhoiab

namespace Go.Proofs.Ytkoefoccbjhoiab
open Go.RowKit

theorem Try.infoOp : (Try.prog.info? 108).map (fun i => (i.zero, i.size, i.bytes)) = some (some (.agg #[.int .i64 0, .int .i64 0, .int .i64 0]), 3, 24) := by kernel_rfl

/-- A frame's seven cells at block b. -/
def FAt (w : World) (b : Nat) (a0 a1 a2 : Int) (v3 v4 v5 v6 : Value) : Prop := ∃ t, w.heap[b]? = some (.cells #[.int .i64 a0, .int .i64 a1, .int .i64 a2, v3, v4, v5, v6] t (0, 0))

section
variable {w w' : World} {b : Nat} {a0 a1 a2 : Int} {v3 v4 v5 v6 : Value}
theorem FAt.cell (h : FAt w b a0 a1 a2 v3 v4 v5 v6) :
    w.cell? ⟨b, 0, none⟩ = some (.int .i64 a0) ∧ w.cell? ⟨b, 1, none⟩ = some (.int .i64 a1) ∧ w.cell? ⟨b, 2, none⟩ = some (.int .i64 a2) ∧
    w.cell? ⟨b, 3, none⟩ = some v3 ∧ w.cell? ⟨b, 4, none⟩ = some v4 ∧ w.cell? ⟨b, 5, none⟩ = some v5 ∧ w.cell? ⟨b, 6, none⟩ = some v6 := by
  obtain ⟨t, h⟩ := h
  refine ⟨?_, ?_, ?_, ?_, ?_, ?_, ?_⟩ <;> (rw [cell_of_row w b _ _ t _ h]; rfl)
theorem FAt.block (h : FAt w b a0 a1 a2 v3 v4 v5 v6) (e : w'.heap[b]? = w.heap[b]?) : FAt w' b a0 a1 a2 v3 v4 v5 v6 := by
  obtain ⟨t, h⟩ := h
  exact ⟨t, by rw [e]; exact h⟩
theorem FAt.lt (h : FAt w b a0 a1 a2 v3 v4 v5 v6) : b < w.heap.size := by
  obtain ⟨t, h⟩ := h
  exact (Array.getElem?_eq_some_iff.1 h).1
end

section
variable {w wr w1 : World} {c B2 B3 : Nat} {a0 a1 a2 : Int} {rk rj : Rd} {v3 v4 v5 v6 : Value}
end

def opCells (o : OpL) : List Value := [.int .i64 o.1, .int .i64 o.2.1, .int .i64 o.2.2]
def opsCells (zs : List OpL) : List Value := zs.flatMap opCells
theorem own_put {x : World} {b c o : Nat} {e : TypeId} {size : Nat} {v u : Value} {n : Nat} {xs : List Value} (h : x.ownsRow b e size v n xs) (hc : c < b) : (x.setCell ⟨c, o, none⟩ u).ownsRow b e size v n xs :=
  ownsRow_setCell_below h hc u
def SlOps (w : World) (a : Option Addr) (cap : Nat) (zs : List OpL) : Prop := OpsAt w a zs ∧ zs.length ≤ maxLen ∧ zs.length ≤ cap ∧ (a = none → zs.length = 0 ∧ cap = 0)
/-- A value that is a frame. -/
def FrameV (w : World) (v : Value) (f : FrameL) : Prop := ∃ a3 c3 a4 c4 a5 c5 a6 c6,
  v = .agg #[.int .i64 f.kind, .int .i64 f.node, .int .i64 f.id, .slice a3 f.ops.length c3, .slice a4 f.deps.length c4, .slice a5 f.ats.length c5, .slice a6 f.vals.length c6] ∧
  SlOps w a3 c3 f.ops ∧ SlInts w a4 c4 f.deps ∧ SlInts w a5 c5 f.ats ∧ SlInts w a6 c6 f.vals
theorem SlOps.later {w w' : World} {a : Option Addr} {cap : Nat} {zs : List OpL} (h : SlOps w a cap zs) (hb : Below w.heap.size w w') : SlOps w' a cap zs :=
  ⟨h.1.later hb, h.2⟩
theorem FrameV.later {w w' : World} {v : Value} {f : FrameL} (h : FrameV w v f) (hb : Below w.heap.size w w') : FrameV w' v f := by
  obtain ⟨a3, c3, a4, c4, a5, c5, a6, c6, e, h3, h4, h5, h6⟩ := h
  exact ⟨a3, c3, a4, c4, a5, c5, a6, c6, e, h3.later hb, h4.later hb, h5.later hb, h6.later hb⟩

theorem opsCells_len (zs : List OpL) : (opsCells zs).length = zs.length * 3 := by
  induction zs with
  | nil => rfl
  | cons o zs ih => simp [opsCells, opCells] at *; omega
theorem opsCells_get : ∀ (zs : List OpL) (i : Nat), i < zs.length → (opsCells zs)[i * 3]? = some (.int .i64 (zs.getD i (0, 0, 0)).1) ∧ (opsCells zs)[i * 3 + 1]? = some (.int .i64 (zs.getD i (0, 0, 0)).2.1) ∧ (opsCells zs)[i * 3 + 2]? = some (.int .i64 (zs.getD i (0, 0, 0)).2.2)
  | [], i, h => by simp at h
  | o :: zs, 0, _ => by simp [opsCells, opCells]
  | o :: zs, i + 1, h => by
    have ih := opsCells_get zs i (by simpa using h)
    have e : opsCells (o :: zs) = .int .i64 o.1 :: .int .i64 o.2.1 :: .int .i64 o.2.2 :: opsCells zs := by simp [opsCells, opCells]
    have n0 : (i + 1) * 3 = i * 3 + 1 + 1 + 1 := by omega
    have n1 : (i + 1) * 3 + 1 = (i * 3 + 1) + 1 + 1 + 1 := by omega
    have n2 : (i + 1) * 3 + 2 = (i * 3 + 2) + 1 + 1 + 1 := by omega
    rw [e, n1, n2, n0]
    simpa using ih
theorem SlOps.of_owns {w : World} {b : Nat} {e : TypeId} {a : Option Addr} {cap : Nat} {zs : List OpL} (h : w.ownsRow b e 3 (.slice a zs.length cap) zs.length (opsCells zs)) : SlOps w a cap zs := by
  obtain ⟨a2, c2, h1, h2, h3⟩ := own_form h
  simp at h1
  obtain ⟨rfl, rfl⟩ := h1
  rcases h.2 with ⟨_, h0⟩ | ⟨g, c, cur, hs, hg, hh, h5, h6, h7, h8⟩
  · exact ⟨Or.inl (List.eq_nil_of_length_eq_zero h0), by rw [h0]; exact Nat.zero_le _, h2, h3⟩
  · simp at hs
    obtain ⟨rfl, rfl⟩ := hs
    refine ⟨Or.inr ⟨g, 0, rfl, (Array.getElem?_eq_some_iff.1 hh).1, fun i hi => ?_⟩, by omega, h2, h3⟩
    have key : ∀ j, j < zs.length * 3 → w.cell? ⟨g, 0 + j, none⟩ = (opsCells zs)[j]? := fun j hj => by
      rw [cell_of_row w g (0 + j) cur e _ hh, ← h8, List.getElem?_take_of_lt hj, Nat.zero_add]
      simp
    have := opsCells_get zs i hi
    rw [← key _ (by omega), ← key _ (by omega), ← key _ (by omega)] at this
    simpa [Nat.add_assoc] using this

end Go.Proofs.Ytkoefoccbjhoiab

namespace Go.Proofs.Ytkoefoccbjhoiab
open Go.ChangeShapes Go.WideShapes Go.ChangeAt Go.RowKit Go.Deep

theorem list7 {α : Type} {l : List α} (h : l.length = 7) : ∃ c0 c1 c2 c3 c4 c5 c6, l = [c0, c1, c2, c3, c4, c5, c6] := by
  match l, h with
  | [c0, c1, c2, c3, c4, c5, c6], _ => exact ⟨c0, c1, c2, c3, c4, c5, c6, rfl⟩
theorem Try.cellsFrame : Try.prog.cellsOf 43 = 7 := by kernel_rfl
theorem Try.cellsOps : Try.prog.cellsOf 35 = 1 := by kernel_rfl
theorem Try.cellsInts : Try.prog.cellsOf 23 = 1 := by kernel_rfl

section
variable {H : Type} {enc : TypeId × Value → H} {w : World} {base : Nat} {spare : Nat → Bool} {held : Bool}

theorem open_sl_ints {n : Nat} {c : Value} {y : DataW H × List MemPlace} (h : DataW.trod enc Try.prog w base spare held n 23 [c] = some y) : ∃ a cap zs, c = .slice a (zs : List Int).length cap ∧ SlInts w a cap zs := by
  obtain ⟨a, l, cap, hc⟩ := Joins.slice_form Try.underlying23 h
  simp at hc
  subst hc
  obtain ⟨hl, zs, rfl, hz, _, hn, hcap⟩ := open_intsAt Try.underlying23 Try.underlying3 Try.cellsInt h
  exact ⟨a, cap, zs, rfl, hz, hl, hcap, hn⟩
theorem open_sl_ops {n : Nat} {c : Value} {y : DataW H × List MemPlace} (h : DataW.trod enc Try.prog w base spare held n 35 [c] = some y) : ∃ a cap zs, c = .slice a (zs : List OpL).length cap ∧ SlOps w a cap zs := by
  obtain ⟨a, l, cap, hc⟩ := Joins.slice_form Try.underlying35 h
  simp at hc
  subst hc
  obtain ⟨hl, zs, rfl, hz, _, hn, hcap⟩ := open_opsAt Try.underlying35 Try.underlying108 Try.underlying3 Try.cellsOp Try.cellsInt rfl rfl rfl rfl rfl rfl h
  exact ⟨a, cap, zs, rfl, hz, hl, hcap, hn⟩

end

end Go.Proofs.Ytkoefoccbjhoiab
