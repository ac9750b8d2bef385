/-
  Plain mathematics of a node: what it is told, what it then is, and what it answers.
-/
import Derived.Test.YtgdkjjmnoikhdabGSort
import Derived.Test.YtgdkjjmnoikhdabGLink
import Derived.Test.YtgdkjjmnoikhdabCodec
namespace Go.Proofs.Ytgdkjjmnoikhdab
open Go.RowKit

structure EntryL where
  state : Int
  ops : List OpL
  first : List Int
  deps : List Int
  ats : List Int
  vals : List Int
def zeroE : EntryL := ⟨0, [], [], [], [], []⟩
structure NodeL where
  ent : Nat → EntryL
  order : List Int
  vals : Nat → Int
def zeroN : NodeL := ⟨fun _ => zeroE, [], fun _ => 0⟩

/-- At rises, behind l, each below n. -/
def atsFrom : Int → Nat → List Int → Bool
  | _, _, [] => true
  | l, n, k :: r => decide (l < k) && decide (k < (n : Int)) && atsFrom k n r
/-- P5.1: a transaction that is not Nothing. -/
structure Fine (e : EntryL) (n : Nat) : Prop where
  st : 1 ≤ e.state ∧ e.state ≤ 3
  ops : goodOpsL e.ops = true
  first : risingFrom (-1) e.first = true ∧ hasL e.first n = false
  deps : risingFrom (-1) e.deps = true ∧ hasL e.deps n = false
  asked : e.state = 1 → e.deps = []
  told : e.state ≠ 3 → e.ats = []
  ats : atsFrom (-1) e.ops.length e.ats = true
  vals : e.vals.length = e.ats.length
/-- P5.1. -/
structure GoodN (s : NodeL) : Prop where
  ent : ∀ n : Nat, n < 32 → s.ent n = zeroE ∨ Fine (s.ent n) n
  cnt : ∀ n : Nat, n < 32 → s.order.count (n : Int) = if (s.ent n).state = 3 then 1 else 0
  lt : ∀ x ∈ s.order, 0 ≤ x ∧ x < 32

/-- P5.2: what stands ahead. -/
def NodeL.ahead (s : NodeL) (id : Nat) (ops : List OpL) (sh : Int) : List Int := unionTo (fun n => n != id && decide (0 < (s.ent n).state) && conflictL (s.ent n).ops ops sh) 32
/-- P5.3: the operations of a shard, from the i-th on: the values then, which told, and what. -/
def runOps (sh : Int) : Nat → List OpL → (Nat → Int) → (Nat → Int) × List Int × List Int
  | _, [], v => (v, [], [])
  | i, o :: r, v =>
    if o.2.1 % 2 == sh then ((runOps sh (i + 1) r (upd v o.2.1.toNat (doL (v o.2.1.toNat) o.1 o.2.2))).1, (i : Int) :: (runOps sh (i + 1) r (upd v o.2.1.toNat (doL (v o.2.1.toNat) o.1 o.2.2))).2.1,
      doL (v o.2.1.toNat) o.1 o.2.2 :: (runOps sh (i + 1) r (upd v o.2.1.toNat (doL (v o.2.1.toNat) o.1 o.2.2))).2.2)
    else runOps sh (i + 1) r v
def NodeL.exec (s : NodeL) (sh : Int) (n : Nat) : NodeL :=
  ⟨upd s.ent n ⟨3, (s.ent n).ops, (s.ent n).first, (s.ent n).deps, (runOps sh 0 (s.ent n).ops s.vals).2.1, (runOps sh 0 (s.ent n).ops s.vals).2.2⟩, s.order ++ [(n : Int)], (runOps sh 0 (s.ent n).ops s.vals).1⟩
def NodeL.execIf (sh : Int) (s : NodeL) (m : Nat) : NodeL := if (s.ent m).state = 2 then s.exec sh m else s
def NodeL.execs (s : NodeL) (sh : Int) (l : List Nat) : NodeL := l.foldl (NodeL.execIf sh) s
def NodeL.graph (s : NodeL) : GraphL := ⟨fun i => decide (2 ≤ (s.ent i).state), fun i => (s.ent i).deps⟩
def NodeL.round (g : GraphL) (sh : Int) (t : NodeL) (n : Nat) : NodeL := if (t.ent n).state = 2 then t.execs sh (orderI g n) else t
def NodeL.settle (s : NodeL) (sh : Int) : NodeL := (List.range 32).foldl (NodeL.round s.graph sh) s
def NodeL.heard (s : NodeL) (sh : Int) (f : FrameL) : NodeL := { s with ent := upd s.ent f.id.toNat ⟨1, f.ops, s.ahead f.id.toNat f.ops sh, [], [], []⟩ }
def NodeL.asked (s : NodeL) (sh : Int) (f : FrameL) : NodeL := if (s.ent f.id.toNat).state = 0 then s.heard sh f else s
def NodeL.placed (s : NodeL) (sh : Int) (f : FrameL) : NodeL :=
  { s with ent := upd s.ent f.id.toNat ⟨2, f.ops, if (s.ent f.id.toNat).state = 0 then s.ahead f.id.toNat f.ops sh else (s.ent f.id.toNat).first, f.deps, (s.ent f.id.toNat).ats, (s.ent f.id.toNat).vals⟩ }
def NodeL.commit (s : NodeL) (sh : Int) (f : FrameL) : NodeL := if (s.ent f.id.toNat).state < 2 then (s.placed sh f).settle sh else s
def NodeL.answers (s : NodeL) (sh who id : Int) : List FrameL :=
  ⟨4, who, id, [], [], [], []⟩ :: (if (s.ent id.toNat).state = 3 ∧ touchesL (s.ent id.toNat).ops sh = true then [⟨5, who, id, [], [], (s.ent id.toNat).ats, (s.ent id.toNat).vals⟩] else [])

/-! ### Nothing that was known is unknown then, nothing that was done is undone -/
structure Keeps (s t : NodeL) : Prop where
  state : ∀ n, (s.ent n).state ≤ (t.ent n).state
  first : ∀ n, (s.ent n).state ≠ 0 → (t.ent n).first = (s.ent n).first
  fixed : ∀ n, 2 ≤ (s.ent n).state → (t.ent n).deps = (s.ent n).deps ∧ (t.ent n).ops = (s.ent n).ops
  done : ∀ n, (s.ent n).state = 3 → t.ent n = s.ent n
  order : ∃ l, t.order = s.order ++ l
theorem Keeps.refl (s : NodeL) : Keeps s s := ⟨fun _ => Int.le_refl _, fun _ _ => rfl, fun _ _ => ⟨rfl, rfl⟩, fun _ _ => rfl, [], by simp⟩
theorem Keeps.trans {s t u : NodeL} (h : Keeps s t) (k : Keeps t u) (h0 : ∀ n, 0 ≤ (s.ent n).state) : Keeps s u := by
  refine ⟨fun n => Int.le_trans (h.state n) (k.state n), fun n hn => ?_, fun n hn => ?_, fun n hn => ?_, ?_⟩
  · rw [k.first n (by have := h.state n; have := h0 n; omega), h.first n hn]
  · obtain ⟨a, b⟩ := h.fixed n hn
    obtain ⟨c, d⟩ := k.fixed n (by have := h.state n; omega)
    exact ⟨c.trans a, d.trans b⟩
  · rw [k.done n (by rw [h.done n hn]; exact hn), h.done n hn]
  · obtain ⟨l, hl⟩ := h.order
    obtain ⟨m, hm⟩ := k.order
    exact ⟨l ++ m, by rw [hm, hl, List.append_assoc]⟩
theorem keeps_exec (s : NodeL) (sh : Int) (n : Nat) (h : (s.ent n).state = 2) : Keeps s (s.exec sh n) := by
  have same : (s.exec sh n).ent n = ⟨3, (s.ent n).ops, (s.ent n).first, (s.ent n).deps, _, _⟩ := upd_same _ _ _
  have other : ∀ m, m ≠ n → (s.exec sh n).ent m = s.ent m := fun m hm => upd_other _ _ hm
  refine ⟨fun m => ?_, fun m hm => ?_, fun m hm => ?_, fun m hm => ?_, [(n : Int)], rfl⟩
  · by_cases e : m = n
    · rw [e, same, h]; show (2 : Int) ≤ 3; decide
    · rw [other m e]; exact Int.le_refl _
  · by_cases e : m = n
    · rw [e, same]
    · rw [other m e]
  · by_cases e : m = n
    · rw [e, same]; exact ⟨rfl, rfl⟩
    · rw [other m e]; exact ⟨rfl, rfl⟩
  · by_cases e : m = n
    · rw [e, h] at hm; cases hm
    · exact other m e
theorem keeps_execIf (s : NodeL) (sh : Int) (n : Nat) : Keeps s (NodeL.execIf sh s n) := by
  unfold NodeL.execIf
  split
  · rename_i h; exact keeps_exec s sh n h
  · exact Keeps.refl s
theorem keeps_foldl {α : Type} (f : NodeL → α → NodeL) (hf : ∀ s a, Keeps s (f s a)) : ∀ (l : List α) (s : NodeL), (∀ n, 0 ≤ (s.ent n).state) → Keeps s (l.foldl f s)
  | [], s, _ => Keeps.refl s
  | a :: l, s, h0 => by
    have h1 := hf s a
    exact h1.trans (keeps_foldl f hf l (f s a) (fun n => Int.le_trans (h0 n) (h1.state n))) h0
theorem keeps_settle (s : NodeL) (sh : Int) (h0 : ∀ n, 0 ≤ (s.ent n).state) : Keeps s (s.settle sh) := by
  have : ∀ (l : List Nat) (t : NodeL), (∀ n, 0 ≤ (t.ent n).state) → Keeps t (l.foldl (NodeL.round s.graph sh) t) := by
    intro l
    induction l with
    | nil => exact fun t _ => Keeps.refl t
    | cons a l ih =>
      intro t ht
      have h1 : Keeps t (NodeL.round s.graph sh t a) := by
        unfold NodeL.round
        split
        · exact keeps_foldl _ (fun s a => keeps_execIf s sh a) _ _ ht
        · exact Keeps.refl t
      exact h1.trans (ih _ (fun n => Int.le_trans (ht n) (h1.state n))) ht
  exact this _ s h0
theorem heard_same (s : NodeL) (sh : Int) (f : FrameL) : (s.heard sh f).ent f.id.toNat = ⟨1, f.ops, s.ahead f.id.toNat f.ops sh, [], [], []⟩ := upd_same _ _ _
theorem heard_other (s : NodeL) (sh : Int) (f : FrameL) {m : Nat} (h : m ≠ f.id.toNat) : (s.heard sh f).ent m = s.ent m := upd_other _ _ h
theorem keeps_asked (s : NodeL) (sh : Int) (f : FrameL) : Keeps s (s.asked sh f) := by
  unfold NodeL.asked
  split
  · rename_i h
    refine ⟨fun m => ?_, fun m hm => ?_, fun m hm => ?_, fun m hm => ?_, [], by simp [NodeL.heard]⟩
    · by_cases e : m = f.id.toNat
      · subst e; rw [heard_same, h]; show (0 : Int) ≤ 1; decide
      · rw [heard_other s sh f e]; exact Int.le_refl _
    · by_cases e : m = f.id.toNat
      · subst e; exact absurd h hm
      · rw [heard_other s sh f e]
    · by_cases e : m = f.id.toNat
      · subst e; omega
      · rw [heard_other s sh f e]; exact ⟨rfl, rfl⟩
    · by_cases e : m = f.id.toNat
      · subst e; omega
      · exact heard_other s sh f e
  · exact Keeps.refl s
theorem placed_same (s : NodeL) (sh : Int) (f : FrameL) : (s.placed sh f).ent f.id.toNat = ⟨2, f.ops, if (s.ent f.id.toNat).state = 0 then s.ahead f.id.toNat f.ops sh else (s.ent f.id.toNat).first, f.deps, (s.ent f.id.toNat).ats, (s.ent f.id.toNat).vals⟩ := upd_same _ _ _
theorem keeps_placed (s : NodeL) (sh : Int) (f : FrameL) (h : (s.ent f.id.toNat).state < 2) : Keeps s (s.placed sh f) := by
  have same : (s.placed sh f).ent f.id.toNat = ⟨2, f.ops, if (s.ent f.id.toNat).state = 0 then s.ahead f.id.toNat f.ops sh else (s.ent f.id.toNat).first, f.deps, (s.ent f.id.toNat).ats, (s.ent f.id.toNat).vals⟩ := upd_same _ _ _
  have other : ∀ m, m ≠ f.id.toNat → (s.placed sh f).ent m = s.ent m := fun m hm => upd_other _ _ hm
  refine ⟨fun m => ?_, fun m hm => ?_, fun m hm => ?_, fun m hm => ?_, [], by simp [NodeL.placed]⟩
  · by_cases e : m = f.id.toNat
    · subst e; rw [same]; show _ ≤ (2 : Int); omega
    · rw [other m e]; exact Int.le_refl _
  · by_cases e : m = f.id.toNat
    · subst e; rw [same]; show (if _ then _ else _) = _; rw [if_neg hm]
    · rw [other m e]
  · by_cases e : m = f.id.toNat
    · subst e; omega
    · rw [other m e]; exact ⟨rfl, rfl⟩
  · by_cases e : m = f.id.toNat
    · subst e; omega
    · exact other m e
theorem keeps_commit (s : NodeL) (sh : Int) (f : FrameL) (h0 : ∀ n, 0 ≤ (s.ent n).state) : Keeps s (s.commit sh f) := by
  unfold NodeL.commit
  split
  · rename_i h
    have h1 := keeps_placed s sh f h
    exact h1.trans (keeps_settle _ sh (fun n => Int.le_trans (h0 n) (h1.state n))) h0
  · exact Keeps.refl s

/-! ### What comes twice is taken once -/
theorem asked_twice (s : NodeL) (sh : Int) (f : FrameL) : (s.asked sh f).asked sh f = s.asked sh f := by
  have h : ((s.asked sh f).ent f.id.toNat).state ≠ 0 := by
    unfold NodeL.asked
    split
    · rw [heard_same]; show (1 : Int) ≠ 0; decide
    · rename_i h; exact h
  generalize s.asked sh f = t at h
  unfold NodeL.asked
  rw [if_neg h]
theorem commit_twice (s : NodeL) (sh : Int) (f : FrameL) (h0 : ∀ n, 0 ≤ (s.ent n).state) : (s.commit sh f).commit sh f = s.commit sh f := by
  have h : ¬ ((s.commit sh f).ent f.id.toNat).state < 2 := by
    unfold NodeL.commit
    split
    · rename_i h
      have h1 := keeps_placed s sh f h
      have h2 := (keeps_settle (s.placed sh f) sh (fun n => Int.le_trans (h0 n) (h1.state n))).state f.id.toNat
      have e : ((s.placed sh f).ent f.id.toNat).state = 2 := by rw [placed_same]
      omega
    · rename_i h; exact h
  generalize s.commit sh f = t at h
  unfold NodeL.commit
  rw [if_neg h]

end Go.Proofs.Ytgdkjjmnoikhdab
