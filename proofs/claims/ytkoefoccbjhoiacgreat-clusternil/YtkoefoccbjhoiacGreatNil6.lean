/-
  Plain mathematics of a node: Good and Take as the document says them, whole; and what holds of them.
  A node as it lies in memory: 201 cells (32 entries of six, the order, eight values), and the lists that they name.
  Plain mathematics of who has a transaction: a case, what is sent again, what an answer makes of it, what it tells.
  A case as it lies in memory: 24 cells (two truths, the operations, six and six truths, what stands ahead, four truths, four numbers), and the lists that they name.
  Plain mathematics of the whole, 1: what one message makes of what a node has of each transaction.
  Plain mathematics: being in the way goes both ways, and only where both touch the shard.
  Plain mathematics of the whole, 2: what books, cases and frames say of one another, kept by every step; of two that are in one another's way one stands ahead of the other.
-/
import Derived.Test.YtkoefoccbjhoiacGreatNil5
import Derived.Test.YtkoefoccbjhoiacGreatNil2
import Derived.Test.YtkoefoccbjhoiacGreatNil3
import Derived.Test.YtkoefoccbjhoiacGreatNil1
namespace Go.Proofs.YtkoefoccbjhoiacGreat
open Go.RowKit

/-- P5.1, of one transaction, as a truth. -/
def entB (e : EntryL) (n : Nat) : Bool :=
  if e.state = 0 then e.ops.isEmpty && e.first.isEmpty && e.deps.isEmpty && e.ats.isEmpty && e.vals.isEmpty
  else decide (1 ≤ e.state ∧ e.state ≤ 3) && goodOpsL e.ops && (risingFrom (-1) e.first && !hasL e.first n) && (risingFrom (-1) e.deps && !hasL e.deps n) && (decide (e.state ≠ 1) || e.deps.isEmpty) &&
    (decide (e.state = 3) || e.ats.isEmpty) && atsFrom (-1) e.ops.length e.ats && decide (e.vals.length = e.ats.length)
def goodNB (s : NodeL) : Bool := ((List.range 32).all fun n => entB (s.ent n) n && decide (s.order.count (n : Int) = if (s.ent n).state = 3 then 1 else 0)) && s.order.all fun x => decide (0 ≤ x ∧ x < 32)

theorem entB_iff {e : EntryL} {n : Nat} : entB e n = true ↔ e = zeroE ∨ Fine e n := by
  obtain ⟨st, ops, fi, de, ats, vals⟩ := e
  unfold entB
  by_cases h : st = 0
  · subst h
    rw [if_pos rfl]
    constructor
    · intro h
      simp at h
      obtain ⟨⟨⟨⟨rfl, rfl⟩, rfl⟩, rfl⟩, rfl⟩ := h
      exact Or.inl rfl
    · rintro (h | h)
      · cases h; rfl
      · have h1 : (1 : Int) ≤ 0 := h.st.1
        omega
  · rw [if_neg h]
    simp only [Bool.and_eq_true, Bool.or_eq_true, decide_eq_true_iff, Bool.not_eq_true', List.isEmpty_iff]
    constructor
    · rintro ⟨⟨⟨⟨⟨⟨⟨h1, h2⟩, h3⟩, h4⟩, h5⟩, h6⟩, h7⟩, h8⟩
      exact Or.inr ⟨h1, h2, h3, h4, fun e => h5.resolve_left (fun h => h e), fun e => h6.resolve_left e, h7, h8⟩
    · rintro (e | F)
      · cases e; exact absurd rfl h
      · refine ⟨⟨⟨⟨⟨⟨⟨F.st, F.ops⟩, F.first⟩, F.deps⟩, ?_⟩, ?_⟩, F.ats⟩, F.vals⟩
        · by_cases e : st = 1
          · exact Or.inr (F.asked e)
          · exact Or.inl e
        · by_cases e : st = 3
          · exact Or.inl e
          · exact Or.inr (F.told e)
theorem goodNB_iff {s : NodeL} : goodNB s = true ↔ GoodN s := by
  unfold goodNB
  simp only [Bool.and_eq_true, List.all_eq_true, List.mem_range, decide_eq_true_iff, entB_iff]
  exact ⟨fun h => ⟨fun n hn => (h.1 n hn).1, fun n hn => (h.1 n hn).2, h.2⟩, fun h => ⟨fun n hn => ⟨h.ent n hn, h.cnt n hn⟩, h.lt⟩⟩

/-- P5.2, P5.3. -/
def takeN (s : NodeL) (who : Int) (f : FrameL) : NodeL × List FrameL × Int :=
  if goodNB s = false ∨ who < 0 ∨ 5 < who ∨ f.node ≠ who then (s, [], 2)
  else if goodL f ≠ 0 then (s, [], goodL f)
  else if f.kind = 1 then
    if touchesL f.ops (ofL who) = false then (s, [], 4)
    else (s.asked (ofL who) f, [⟨2, who, f.id, [], ((s.asked (ofL who) f).ent f.id.toNat).first, [], []⟩], 0)
  else if f.kind = 3 then (s.commit (ofL who) f, (s.commit (ofL who) f).answers (ofL who) who f.id, 0)
  else (s, [], 3)

/-- What a frame that is taken makes of a node: one of two things. -/
theorem take_cases (s : NodeL) (who : Int) (f : FrameL) :
    ((takeN s who f).2.2 ≠ 0 ∧ (takeN s who f).1 = s ∧ (takeN s who f).2.1 = []) ∨
    (GoodN s ∧ goodL f = 0 ∧ (takeN s who f).2.2 = 0 ∧ f.node = who ∧ 0 ≤ who ∧ who ≤ 5 ∧
      ((f.kind = 1 ∧ touchesL f.ops (ofL who) = true ∧ takeN s who f = (s.asked (ofL who) f, [⟨2, who, f.id, [], ((s.asked (ofL who) f).ent f.id.toNat).first, [], []⟩], 0)) ∨
       (f.kind = 3 ∧ takeN s who f = (s.commit (ofL who) f, (s.commit (ofL who) f).answers (ofL who) who f.id, 0)))) := by
  by_cases h1 : goodNB s = false ∨ who < 0 ∨ 5 < who ∨ f.node ≠ who
  · left
    have e : takeN s who f = (s, [], 2) := by unfold takeN; rw [if_pos h1]
    rw [e]
    exact ⟨(show (2 : Int) ≠ 0 by decide), rfl, rfl⟩
  · by_cases h2 : goodL f ≠ 0
    · left
      have e : takeN s who f = (s, [], goodL f) := by unfold takeN; rw [if_neg h1, if_pos h2]
      rw [e]
      exact ⟨h2, rfl, rfl⟩
    · have hg : GoodN s := goodNB_iff.1 (by
        cases h : goodNB s
        · exact absurd (Or.inl h) h1
        · rfl)
      have hn : f.node = who ∧ 0 ≤ who ∧ who ≤ 5 := by
        refine ⟨?_, ?_, ?_⟩
        · by_cases e : f.node = who
          · exact e
          · exact absurd (Or.inr (Or.inr (Or.inr e))) h1
        · by_cases e : who < 0
          · exact absurd (Or.inr (Or.inl e)) h1
          · omega
        · by_cases e : 5 < who
          · exact absurd (Or.inr (Or.inr (Or.inl e))) h1
          · omega
      have h2' : goodL f = 0 := by omega
      by_cases h3 : f.kind = 1
      · by_cases h4 : touchesL f.ops (ofL who) = false
        · left
          have e : takeN s who f = (s, [], 4) := by unfold takeN; rw [if_neg h1, if_neg h2, if_pos h3, if_pos h4]
          rw [e]
          exact ⟨(show (4 : Int) ≠ 0 by decide), rfl, rfl⟩
        · right
          have e : takeN s who f = (s.asked (ofL who) f, [⟨2, who, f.id, [], ((s.asked (ofL who) f).ent f.id.toNat).first, [], []⟩], 0) := by unfold takeN; rw [if_neg h1, if_neg h2, if_pos h3, if_neg h4]
          exact ⟨hg, h2', by rw [e], hn.1, hn.2.1, hn.2.2, Or.inl ⟨h3, by simpa using h4, e⟩⟩
      · by_cases h5 : f.kind = 3
        · right
          have e : takeN s who f = (s.commit (ofL who) f, (s.commit (ofL who) f).answers (ofL who) who f.id, 0) := by unfold takeN; rw [if_neg h1, if_neg h2, if_neg h3, if_pos h5]
          exact ⟨hg, h2', by rw [e], hn.1, hn.2.1, hn.2.2, Or.inr ⟨h5, e⟩⟩
        · left
          have e : takeN s who f = (s, [], 3) := by unfold takeN; rw [if_neg h1, if_neg h2, if_neg h3, if_neg h5]
          rw [e]
          exact ⟨(show (3 : Int) ≠ 0 by decide), rfl, rfl⟩

theorem take_good {s : NodeL} {who : Int} {f : FrameL} (h : (takeN s who f).2.2 = 0) : GoodN (takeN s who f).1 := by
  rcases take_cases s who f with ⟨h1, _⟩ | ⟨hg, hf, _, _, _, _, ⟨hk, _, e⟩ | ⟨hk, e⟩⟩
  · exact absurd h h1
  · rw [e]; exact good_asked hg _ hf hk
  · rw [e]; exact good_commit hg _ hf hk
theorem take_sort {s : NodeL} {who : Int} {f : FrameL} (S : SortN s) : SortN (takeN s who f).1 := by
  rcases take_cases s who f with ⟨_, h1, _⟩ | ⟨hg, hf, _, _, _, _, ⟨hk, _, e⟩ | ⟨hk, e⟩⟩
  · rw [h1]; exact S
  · rw [e]; exact sort_asked hg S _ hf
  · rw [e]; exact sort_commit hg S _ hf hk
theorem take_keeps (s : NodeL) (who : Int) (f : FrameL) (h0 : ∀ n, 0 ≤ (s.ent n).state) : Keeps s (takeN s who f).1 := by
  rcases take_cases s who f with ⟨_, h1, _⟩ | ⟨_, _, _, _, _, _, ⟨_, _, e⟩ | ⟨_, e⟩⟩
  · rw [h1]; exact Keeps.refl s
  · rw [e]; exact keeps_asked s _ f
  · rw [e]; exact keeps_commit s _ f h0

end Go.Proofs.YtkoefoccbjhoiacGreat

namespace Go.Proofs.YtkoefoccbjhoiacGreat
open Go.RowKit

/-- An entry's six cells, from the o-th on. -/
structure EntC (ok : Nat → Prop) (w : World) (nv : Nat → Value) (o : Nat) (e : EntryL) : Prop where
  state : nv o = .int .i64 e.state
  ops : IsO ok w (nv (o + 1)) e.ops
  first : IsI ok w (nv (o + 2)) e.first
  deps : IsI ok w (nv (o + 3)) e.deps
  ats : IsI ok w (nv (o + 4)) e.ats
  vals : IsI ok w (nv (o + 5)) e.vals
theorem EntC.later {ok : Nat → Prop} {w w' : World} {nv : Nat → Value} {o : Nat} {e : EntryL} (h : EntC ok w nv o e) (hB : SameOn ok w w') : EntC ok w' nv o e :=
  ⟨h.state, h.ops.later hB, h.first.later hB, h.deps.later hB, h.ats.later hB, h.vals.later hB⟩
theorem EntC.mono {ok ok' : Nat → Prop} {w : World} {nv : Nat → Value} {o : Nat} {e : EntryL} (h : EntC ok w nv o e) (hk : ∀ k, k < w.heap.size → ok k → ok' k) : EntC ok' w nv o e :=
  ⟨h.state, h.ops.mono hk, h.first.mono hk, h.deps.mono hk, h.ats.mono hk, h.vals.mono hk⟩
theorem EntC.same {ok : Nat → Prop} {w : World} {nv nv' : Nat → Value} {o o' : Nat} {e : EntryL} (h : EntC ok w nv o e) (hn : ∀ j, j < 6 → nv' (o' + j) = nv (o + j)) : EntC ok w nv' o' e :=
  ⟨by have := hn 0 (by omega); simp only [Nat.add_zero] at this; rw [this]; exact h.state, by rw [hn 1 (by omega)]; exact h.ops, by rw [hn 2 (by omega)]; exact h.first, by rw [hn 3 (by omega)]; exact h.deps, by rw [hn 4 (by omega)]; exact h.ats, by rw [hn 5 (by omega)]; exact h.vals⟩
theorem EntC.one {ok : Nat → Prop} {w : World} {nv : Nat → Value} {o : Nat} {e : EntryL} (h : EntC ok w nv o e) : ∀ j, j < 6 → (nv (o + j)).oneCell' = true := by
  intro j hj
  match j, hj with
  | 0, _ => rw [Nat.add_zero, h.state]; rfl
  | 1, _ => exact h.ops.one
  | 2, _ => exact h.first.one
  | 3, _ => exact h.deps.one
  | 4, _ => exact h.ats.one
  | 5, _ => exact h.vals.one

/-- All but the order. -/
structure NodeE (ok : Nat → Prop) (w : World) (nv : Nat → Value) (s : NodeL) : Prop where
  ent : ∀ i, i < 32 → EntC ok w nv (i * 6) (s.ent i)
  vals : ∀ k, k < 8 → nv (193 + k) = .int .i64 (s.vals k)
structure NodeC (ok : Nat → Prop) (w : World) (nv : Nat → Value) (s : NodeL) : Prop where
  es : NodeE ok w nv s
  order : IsI ok w (nv 192) s.order
theorem NodeE.later {ok : Nat → Prop} {w w' : World} {nv : Nat → Value} {s : NodeL} (h : NodeE ok w nv s) (hB : SameOn ok w w') : NodeE ok w' nv s := ⟨fun i hi => (h.ent i hi).later hB, h.vals⟩
theorem NodeE.mono {ok ok' : Nat → Prop} {w : World} {nv : Nat → Value} {s : NodeL} (h : NodeE ok w nv s) (hk : ∀ k, k < w.heap.size → ok k → ok' k) : NodeE ok' w nv s := ⟨fun i hi => (h.ent i hi).mono hk, h.vals⟩
theorem NodeC.later {ok : Nat → Prop} {w w' : World} {nv : Nat → Value} {s : NodeL} (h : NodeC ok w nv s) (hB : SameOn ok w w') : NodeC ok w' nv s := ⟨h.es.later hB, h.order.later hB⟩
theorem NodeC.mono {ok ok' : Nat → Prop} {w : World} {nv : Nat → Value} {s : NodeL} (h : NodeC ok w nv s) (hk : ∀ k, k < w.heap.size → ok k → ok' k) : NodeC ok' w nv s := ⟨h.es.mono hk, h.order.mono hk⟩
theorem NodeC.below {w w' : World} {nv : Nat → Value} {s : NodeL} (h : NodeC (· < w.heap.size) w nv s) (hb : Below w.heap.size w w') : NodeC (· < w'.heap.size) w' nv s :=
  (h.later (SameOn.of_size hb)).mono (fun k _ (h : k < w.heap.size) => by have := hb.size; show k < _; omega)
theorem NodeC.any {ok : Nat → Prop} {w : World} {nv : Nat → Value} {s : NodeL} (h : NodeC ok w nv s) : NodeC (· < w.heap.size) w nv s := h.mono (fun _ h _ => h)
theorem NodeC.one {ok : Nat → Prop} {w : World} {nv : Nat → Value} {s : NodeL} (h : NodeC ok w nv s) : ∀ i, i < 201 → (nv i).oneCell' = true := by
  intro i hi
  by_cases h1 : i < 192
  · have := (h.es.ent (i / 6) (by omega)).one (i % 6) (by omega)
    rw [show i / 6 * 6 + i % 6 = i by omega] at this
    exact this
  · by_cases h2 : i = 192
    · subst h2; exact h.order.one
    · have := h.es.vals (i - 193) (by omega)
      rw [show 193 + (i - 193) = i by omega] at this
      rw [this]; rfl

/-- The lists of ints of an entry, by the numbers of their cells; and what a cell may be. -/
def EntryL.nums (e : EntryL) (f : Nat) : List Int := if f = 2 then e.first else if f = 3 then e.deps else if f = 4 then e.ats else e.vals
def fieldOK (ok : Nat → Prop) (w : World) (e : EntryL) (f : Nat) (v : Value) : Prop := if f = 0 then v = .int .i64 e.state else if f = 1 then IsO ok w v e.ops else IsI ok w v (e.nums f)
theorem EntC.get {ok : Nat → Prop} {w : World} {nv : Nat → Value} {o : Nat} {e : EntryL} (h : EntC ok w nv o e) : ∀ f, f < 6 → fieldOK ok w e f (nv (o + f)) := by
  intro f hf
  match f, hf with
  | 0, _ => exact h.state
  | 1, _ => exact h.ops
  | 2, _ => exact h.first
  | 3, _ => exact h.deps
  | 4, _ => exact h.ats
  | 5, _ => exact h.vals
theorem EntC.of {ok : Nat → Prop} {w : World} {nv : Nat → Value} {o : Nat} {e : EntryL} (h : ∀ f, f < 6 → fieldOK ok w e f (nv (o + f))) : EntC ok w nv o e :=
  ⟨h 0 (by omega), h 1 (by omega), h 2 (by omega), h 3 (by omega), h 4 (by omega), h 5 (by omega)⟩
/-- One entry is another one; the cells of all others are as they were. -/
theorem NodeE.change {ok : Nat → Prop} {w : World} {nv nv' : Nat → Value} {s : NodeL} (h : NodeE ok w nv s) {k : Nat} {e' : EntryL} (he : ∀ f, f < 6 → fieldOK ok w e' f (nv' (k * 6 + f)))
    (ho : ∀ i, i < 201 → (i < k * 6 ∨ k * 6 + 6 ≤ i) → i ≠ 192 → nv' i = nv i) (hk : k < 32) (o : List Int) : NodeE ok w nv' ⟨upd s.ent k e', o, s.vals⟩ := by
  refine ⟨fun i hi => ?_, fun j hj => ?_⟩
  · by_cases e : i = k
    · subst e
      show EntC ok w nv' (i * 6) (upd s.ent i e' i)
      rw [upd_same]
      exact EntC.of he
    · show EntC ok w nv' (i * 6) (upd s.ent k e' i)
      rw [upd_other _ _ e]
      exact (h.ent i hi).same (fun j hj => ho _ (by omega) (by omega) (by omega))
  · rw [ho _ (by omega) (by omega) (by omega)]
    exact h.vals j hj
theorem NodeC.put {ok : Nat → Prop} {w : World} {nv : Nat → Value} {s : NodeL} (h : NodeC ok w nv s) {k f : Nat} (hk : k < 32) (hf : f < 6) {v : Value} (hv : fieldOK ok w (s.ent k) f v) : NodeC ok w (fun i => if i = k * 6 + f then v else nv i) s := by
  refine ⟨⟨fun i hi => EntC.of fun g hg => ?_, fun j hj => ?_⟩, ?_⟩
  · show fieldOK ok w (s.ent i) g (if i * 6 + g = k * 6 + f then v else nv (i * 6 + g))
    by_cases e : i * 6 + g = k * 6 + f
    · obtain rfl : i = k := by omega
      obtain rfl : g = f := by omega
      rw [if_pos rfl]
      exact hv
    · rw [if_neg e]
      exact (h.es.ent i hi).get g hg
  · show (if 193 + j = k * 6 + f then v else nv (193 + j)) = _
    rw [if_neg (by omega)]
    exact h.es.vals j hj
  · show IsI ok w (if 192 = k * 6 + f then v else nv 192) _
    rw [if_neg (by omega)]
    exact h.order

theorem Tryz.infoNode : (Tryz.prog.info? 32).map (·.size) = some 201 := by kernel_rfl
theorem Tryz.infoEntry : (Tryz.prog.info? 28).map (·.size) = some 6 := by kernel_rfl

end Go.Proofs.YtkoefoccbjhoiacGreat

namespace Go.Proofs.YtkoefoccbjhoiacGreat
open Go.RowKit

structure CaseL where
  begun : Bool
  fixed : Bool
  ops : List OpL
  told : Nat → Bool
  known : Nat → Bool
  deps : List Int
  has : Nat → Bool
  vals : Nat → Int
def zeroC : CaseL := ⟨false, false, [], fun _ => false, fun _ => false, [], fun _ => false, fun _ => 0⟩
def noneB (n : Nat) (p : Nat → Bool) : Bool := (List.range n).all fun i => !p i
/-- P6.1. -/
def goodCB (c : CaseL) : Bool :=
  if c.begun then goodOpsL c.ops && risingFrom (-1) c.deps
  else !c.fixed && c.ops.isEmpty && noneB 6 c.told && noneB 6 c.known && c.deps.isEmpty && noneB 4 c.has && (List.range 4).all fun i => c.vals i == 0
def joinL (a b : List Int) : List Int := unionTo (fun i => a.contains (i : Int) || b.contains (i : Int)) 32
/-- P6.3: something of a shard is not known yet. -/
def CaseL.lacks (c : CaseL) (sh : Int) : Bool := (List.range c.ops.length).any fun i => touchB sh (c.ops.getD i (0, 0, 0)) && !c.has i
def CaseL.send (c : CaseL) (id : Int) (n : Nat) : List FrameL :=
  if c.fixed then (if !c.known n || c.lacks (ofL n) then [⟨3, n, id, c.ops, c.deps, [], []⟩] else [])
  else if touchesL c.ops (ofL n) && !c.told n then [⟨1, n, id, c.ops, [], [], []⟩] else []
/-- P6.3. -/
def againC (c : CaseL) (id : Int) : List FrameL :=
  if goodCB c = false ∨ c.begun = false ∨ id < 0 ∨ 32 ≤ id ∨ hasL c.deps id = true then [] else (List.range 6).flatMap (c.send id)
/-- P6.2. -/
def beginC (id : Int) (ops : List OpL) : CaseL × List FrameL × Int :=
  if id < 0 ∨ 32 ≤ id then (zeroC, [], 2) else if goodOpsL ops = false then (zeroC, [], 1)
  else ({ zeroC with begun := true, ops := ops }, againC { zeroC with begun := true, ops := ops } id, 0)
def toldOf (t : Nat → Bool) (sh : Nat) : Nat := ((List.range 3).filter fun k => t (sh * 3 + k)).length
/-- Most of each shard that is touched have told. -/
def mostB (ops : List OpL) (t : Nat → Bool) : Bool := (!touchesL ops 0 || decide (2 ≤ toldOf t 0)) && (!touchesL ops 1 || decide (2 ≤ toldOf t 1))
def CaseL.hear (c : CaseL) (f : FrameL) : CaseL :=
  { c with told := upd c.told f.node.toNat true, deps := joinL c.deps f.deps, fixed := mostB c.ops (upd c.told f.node.toNat true) }
/-- P6.6: one of what was told. -/
def CaseL.done1 (sh : Int) (c : CaseL) (p : Int × Int) : CaseL :=
  if p.1 < c.ops.length ∧ touchB sh (c.ops.getD p.1.toNat (0, 0, 0)) = true ∧ c.has p.1.toNat = false then { c with has := upd c.has p.1.toNat true, vals := upd c.vals p.1.toNat p.2 } else c
def CaseL.dones (c : CaseL) (sh : Int) (l : List (Int × Int)) : CaseL := l.foldl (CaseL.done1 sh) c
/-- P6.4 to P6.6. -/
def takeC (c : CaseL) (id : Int) (f : FrameL) : CaseL × List FrameL × Int :=
  if goodCB c = false ∨ c.begun = false ∨ f.id ≠ id ∨ hasL c.deps id = true then (c, [], 2)
  else if goodL f ≠ 0 then (c, [], goodL f)
  else if f.kind = 1 ∨ f.kind = 3 then (c, [], 3)
  else if f.kind = 2 then
    if c.fixed = true ∨ c.told f.node.toNat = true ∨ touchesL c.ops (ofL f.node) = false then (c, [], 0)
    else (c.hear f, if (c.hear f).fixed then againC (c.hear f) id else [], 0)
  else if c.fixed = false then (c, [], 0)
  else if f.kind = 4 then ({ c with known := upd c.known f.node.toNat true }, [], 0)
  else (c.dones (ofL f.node) (f.ats.zip f.vals), [], 0)
/-- P6.7. -/
def resultC (c : CaseL) : List Int × Bool :=
  if c.begun = false ∨ goodCB c = false ∨ c.lacks 0 = true ∨ c.lacks 1 = true then ([], false) else ((List.range c.ops.length).map c.vals, true)

/-! ### What a step keeps -/
/-- What is not of the values: the same. -/
structure SameC (c d : CaseL) : Prop where
  begun : d.begun = c.begun
  fixed : d.fixed = c.fixed
  ops : d.ops = c.ops
  told : d.told = c.told
  deps : d.deps = c.deps
theorem SameC.refl (c : CaseL) : SameC c c := ⟨rfl, rfl, rfl, rfl, rfl⟩
theorem SameC.trans {a b c : CaseL} (h : SameC a b) (k : SameC b c) : SameC a c := ⟨k.begun.trans h.begun, k.fixed.trans h.fixed, k.ops.trans h.ops, k.told.trans h.told, k.deps.trans h.deps⟩
/-- What is known of an operation stays so. -/
def KeepV (c d : CaseL) : Prop := ∀ i, c.has i = true → d.has i = true ∧ d.vals i = c.vals i
theorem KeepV.refl (c : CaseL) : KeepV c c := fun _ h => ⟨h, rfl⟩
theorem KeepV.trans {a b c : CaseL} (h : KeepV a b) (k : KeepV b c) : KeepV a c := fun i hi => ⟨(k i (h i hi).1).1, ((k i (h i hi).1).2).trans (h i hi).2⟩
theorem done1_keeps (sh : Int) (c : CaseL) (p : Int × Int) : SameC c (CaseL.done1 sh c p) ∧ KeepV c (CaseL.done1 sh c p) := by
  unfold CaseL.done1
  split
  · rename_i h
    refine ⟨⟨rfl, rfl, rfl, rfl, rfl⟩, fun i hi => ?_⟩
    have hne : i ≠ p.1.toNat := fun e => by rw [e, h.2.2] at hi; cases hi
    exact ⟨by show upd _ _ _ i = true; rw [upd_other _ _ hne]; exact hi, upd_other _ _ hne⟩
  · exact ⟨SameC.refl c, KeepV.refl c⟩
theorem dones_keeps (sh : Int) : ∀ (l : List (Int × Int)) (c : CaseL), SameC c (c.dones sh l) ∧ KeepV c (c.dones sh l)
  | [], c => ⟨SameC.refl c, KeepV.refl c⟩
  | p :: l, c => by
    have h1 := done1_keeps sh c p
    have h2 := dones_keeps sh l (CaseL.done1 sh c p)
    exact ⟨h1.1.trans h2.1, h1.2.trans h2.2⟩

/-- What one answer makes of a case that is begun: one of four things. -/
theorem takeC_cases (c : CaseL) (id : Int) (f : FrameL) :
    ((takeC c id f).2.2 ≠ 0 ∧ (takeC c id f).1 = c ∧ (takeC c id f).2.1 = []) ∨
    ((takeC c id f).2.2 = 0 ∧ goodL f = 0 ∧ f.kind = 2 ∧ c.fixed = false ∧ c.told f.node.toNat = false ∧ touchesL c.ops (ofL f.node) = true ∧ (takeC c id f).1 = c.hear f ∧ ((takeC c id f).2.1 ≠ [] → (c.hear f).fixed = true)) ∨
    ((takeC c id f).2.2 = 0 ∧ (takeC c id f).2.1 = [] ∧ (f.kind = 2 → c.fixed = true ∨ c.told f.node.toNat = true ∨ touchesL c.ops (ofL f.node) = false) ∧ SameC c (takeC c id f).1 ∧ KeepV c (takeC c id f).1 ∧ (c.fixed = false → (takeC c id f).1 = c)) := by
  unfold takeC
  split
  · left; exact ⟨(show (2 : Int) ≠ 0 by decide), rfl, rfl⟩
  · split
    · rename_i h; left; exact ⟨h, rfl, rfl⟩
    · rename_i hg
      have hg : goodL f = 0 := by
        by_cases e : goodL f = 0
        · exact e
        · exact absurd e hg
      split
      · left; exact ⟨(show (3 : Int) ≠ 0 by decide), rfl, rfl⟩
      · split
        · rename_i hk
          split
          · rename_i h
            right; right
            exact ⟨rfl, rfl, fun _ => h, SameC.refl c, KeepV.refl c, fun _ => rfl⟩
          · rename_i h
            right; left
            have h1 : c.fixed = false := by cases e : c.fixed; rfl; exact absurd (Or.inl e) h
            have h2 : c.told f.node.toNat = false := by cases e : c.told f.node.toNat; rfl; exact absurd (Or.inr (Or.inl e)) h
            have h3 : touchesL c.ops (ofL f.node) = true := by cases e : touchesL c.ops (ofL f.node); exact absurd (Or.inr (Or.inr e)) h; rfl
            refine ⟨rfl, hg, hk, h1, h2, h3, rfl, fun hn => ?_⟩
            cases e : (c.hear f).fixed
            · exact absurd (by show (if (c.hear f).fixed = true then _ else _) = _; rw [e]; rfl) hn
            · rfl
        · rename_i hk
          split
          · right; right
            exact ⟨rfl, rfl, fun e => absurd e hk, SameC.refl c, KeepV.refl c, fun _ => rfl⟩
          · rename_i hf
            split
            · right; right
              exact ⟨rfl, rfl, fun e => absurd e hk, ⟨rfl, rfl, rfl, rfl, rfl⟩, KeepV.refl c, fun e => absurd e hf⟩
            · right; right
              have h1 := dones_keeps (ofL f.node) (f.ats.zip f.vals) c
              exact ⟨rfl, rfl, fun e => absurd e hk, h1.1, h1.2, fun e => absurd e hf⟩

/-! ### What is fixed is what most of each shard told -/
/-! ### What it told stays so, and is known only when it is fixed -/
structure ResInv (ops : List OpL) (c : CaseL) : Prop where
  begun : c.begun = true
  eops : c.ops = ops
  good : goodCB c = true
  none : c.fixed = false → ∀ i, c.has i = false
theorem lacks_has {c : CaseL} (h0 : c.lacks 0 = false) (h1 : c.lacks 1 = false) {i : Nat} (hi : i < c.ops.length) : c.has i = true := by
  unfold CaseL.lacks at h0 h1
  rw [List.any_eq_false] at h0 h1
  have g0 := h0 i (List.mem_range.2 hi)
  have g1 := h1 i (List.mem_range.2 hi)
  cases e : c.has i
  · rw [e] at g0 g1
    simp [touchB] at g0 g1
    omega
  · rfl
theorem has_lacks {c : CaseL} (h : ∀ i, i < c.ops.length → c.has i = true) (sh : Int) : c.lacks sh = false := by
  unfold CaseL.lacks
  rw [List.any_eq_false]
  intro i hi
  rw [h i (List.mem_range.1 hi)]
  simp
theorem res_ok {ops : List OpL} {c : CaseL} (h : ResInv ops c) (hr : (resultC c).2 = true) : (∀ i, i < ops.length → c.has i = true) ∧ (resultC c).1 = (List.range ops.length).map c.vals := by
  unfold resultC at *
  split at hr
  · cases hr
  · rename_i hn
    rw [if_neg hn, h.eops]
    refine ⟨fun i hi => lacks_has ?_ ?_ (by rw [h.eops]; exact hi), rfl⟩
    · cases e : c.lacks 0
      · rfl
      · exact absurd (Or.inr (Or.inr (Or.inl e))) hn
    · cases e : c.lacks 1
      · rfl
      · exact absurd (Or.inr (Or.inr (Or.inr e))) hn
theorem rises_of (xs : List Nat) : ∀ (l : Int), (∀ x ∈ xs, l < (x : Int) ∧ x < 32) → xs.Pairwise (· < ·) → risingFrom l (xs.map Int.ofNat) = true := by
  induction xs with
  | nil => intros; rfl
  | cons x r ih =>
    intro l h hp
    have hx := h x (by simp)
    obtain ⟨h1, h2⟩ := List.pairwise_cons.1 hp
    rw [List.map_cons, risingFrom, ih (Int.ofNat x) (fun y hy => ⟨by have := h1 y hy; simp; omega, (h y (by simp [hy])).2⟩) h2]
    have e1 : decide (Int.ofNat x ≤ l) = false := by simp; omega
    have e2 : decide (32 ≤ Int.ofNat x) = false := by simp; omega
    rw [e1, e2]
    rfl
theorem join_rises (a b : List Int) : risingFrom (-1) (joinL a b) = true := by
  refine rises_of _ _ (fun x hx => ?_) (List.Pairwise.filter _ List.pairwise_lt_range)
  have := List.mem_range.1 (List.mem_filter.1 hx).1
  omega
theorem good_parts {c : CaseL} (hb : c.begun = true) : goodCB c = (goodOpsL c.ops && risingFrom (-1) c.deps) := by unfold goodCB; rw [if_pos hb]
/-- One answer, taken or not. -/
theorem res_step {ops : List OpL} {c : CaseL} {id : Int} {f : FrameL} (h : ResInv ops c) : ResInv ops (takeC c id f).1 ∧ KeepV c (takeC c id f).1 := by
  have hg := h.good
  rw [good_parts h.begun, Bool.and_eq_true] at hg
  rcases takeC_cases c id f with ⟨_, h1, _⟩ | ⟨_, _, _, hf, _, _, he, _⟩ | ⟨_, _, _, hs, hk, hc⟩
  · rw [h1]; exact ⟨h, KeepV.refl c⟩
  · rw [he]
    refine ⟨⟨h.begun, h.eops, ?_, fun _ i => h.none hf i⟩, fun i hi => ⟨hi, rfl⟩⟩
    rw [good_parts (c := c.hear f) h.begun, Bool.and_eq_true]
    exact ⟨hg.1, join_rises _ _⟩
  · refine ⟨⟨hs.begun.trans h.begun, hs.ops.trans h.eops, ?_, fun e i => ?_⟩, hk⟩
    · rw [good_parts (hs.begun.trans h.begun), hs.ops, hs.deps, Bool.and_eq_true]; exact hg
    · have e1 : c.fixed = false := by rw [← hs.fixed]; exact e
      rw [hc e1]; exact h.none e1 i

end Go.Proofs.YtkoefoccbjhoiacGreat

namespace Go.Proofs.YtkoefoccbjhoiacGreat
open Go.RowKit

structure CaseC (ok : Nat → Prop) (w : World) (nv : Nat → Value) (c : CaseL) : Prop where
  begun : nv 0 = .bool c.begun
  fixed : nv 1 = .bool c.fixed
  ops : IsO ok w (nv 2) c.ops
  told : ∀ i, i < 6 → nv (3 + i) = .bool (c.told i)
  known : ∀ i, i < 6 → nv (9 + i) = .bool (c.known i)
  deps : IsI ok w (nv 15) c.deps
  has : ∀ i, i < 4 → nv (16 + i) = .bool (c.has i)
  vals : ∀ i, i < 4 → nv (20 + i) = .int .i64 (c.vals i)
theorem CaseC.later {ok : Nat → Prop} {w w' : World} {nv : Nat → Value} {c : CaseL} (h : CaseC ok w nv c) (hB : SameOn ok w w') : CaseC ok w' nv c :=
  ⟨h.begun, h.fixed, h.ops.later hB, h.told, h.known, h.deps.later hB, h.has, h.vals⟩
theorem CaseC.mono {ok ok' : Nat → Prop} {w : World} {nv : Nat → Value} {c : CaseL} (h : CaseC ok w nv c) (hk : ∀ k, k < w.heap.size → ok k → ok' k) : CaseC ok' w nv c :=
  ⟨h.begun, h.fixed, h.ops.mono hk, h.told, h.known, h.deps.mono hk, h.has, h.vals⟩
theorem CaseC.below {w w' : World} {nv : Nat → Value} {c : CaseL} (h : CaseC (· < w.heap.size) w nv c) (hb : Below w.heap.size w w') : CaseC (· < w'.heap.size) w' nv c :=
  (h.later (SameOn.of_size hb)).mono (fun k _ (h : k < w.heap.size) => by have := hb.size; show k < _; omega)
theorem CaseC.any {ok : Nat → Prop} {w : World} {nv : Nat → Value} {c : CaseL} (h : CaseC ok w nv c) : CaseC (· < w.heap.size) w nv c := h.mono (fun _ h _ => h)
theorem CaseC.one {ok : Nat → Prop} {w : World} {nv : Nat → Value} {c : CaseL} (h : CaseC ok w nv c) : ∀ i, i < 24 → (nv i).oneCell' = true := by
  intro i hi
  by_cases h0 : i = 0
  · subst h0; rw [h.begun]; rfl
  by_cases h1 : i = 1
  · subst h1; rw [h.fixed]; rfl
  by_cases h2 : i = 2
  · subst h2; exact h.ops.one
  by_cases h3 : i < 9
  · have := h.told (i - 3) (by omega)
    rw [show 3 + (i - 3) = i by omega] at this
    rw [this]; rfl
  by_cases h4 : i < 15
  · have := h.known (i - 9) (by omega)
    rw [show 9 + (i - 9) = i by omega] at this
    rw [this]; rfl
  by_cases h5 : i = 15
  · subst h5; exact h.deps.one
  by_cases h6 : i < 20
  · have := h.has (i - 16) (by omega)
    rw [show 16 + (i - 16) = i by omega] at this
    rw [this]; rfl
  · have := h.vals (i - 20) (by omega)
    rw [show 20 + (i - 20) = i by omega] at this
    rw [this]; rfl
/-- The zero value. -/
def zcv (i : Nat) : Value := if i = 2 ∨ i = 15 then .slice none 0 0 else if 20 ≤ i then .int .i64 0 else .bool false
theorem zcv_case (ok : Nat → Prop) (w : World) : CaseC ok w zcv zeroC :=
  ⟨rfl, rfl, IsO.nil ok w, fun i hi => by
      unfold zcv; rw [if_neg (by omega), if_neg (by omega)]; rfl, fun i hi => by
      unfold zcv; rw [if_neg (by omega), if_neg (by omega)]; rfl, IsI.nil ok w, fun i hi => by
      unfold zcv; rw [if_neg (by omega), if_neg (by omega)]; rfl, fun i hi => by
      unfold zcv; rw [if_neg (by omega), if_pos (by omega)]; rfl⟩
theorem Tryz.infoCase : (Tryz.prog.info? 47).map (·.size) = some 24 := by kernel_rfl
theorem Tryz.zeroCase : (Tryz.prog.info? 47).map (·.zero) = some (some (.agg (rowF 24 zcv))) := by kernel_rfl

end Go.Proofs.YtkoefoccbjhoiacGreat

namespace Go.Proofs.YtkoefoccbjhoiacGreat
open Go.RowKit

/-- What a node has of a transaction, but for what it told: operations, what stood ahead, what is fixed, heard of, fixed. -/
def coreE (e : EntryL) : List OpL × List Int × List Int × Bool × Bool := (e.ops, e.first, e.deps, decide (1 ≤ e.state), decide (2 ≤ e.state))
theorem exec_core (s : NodeL) (sh : Int) {n : Nat} (h : (s.ent n).state = 2) (i : Nat) : coreE ((s.exec sh n).ent i) = coreE (s.ent i) := by
  by_cases e : i = n
  · subst e
    have : (s.exec sh i).ent i = ⟨3, (s.ent i).ops, (s.ent i).first, (s.ent i).deps, _, _⟩ := upd_same _ _ _
    rw [this]
    unfold coreE
    rw [h]
    rfl
  · have : (s.exec sh n).ent i = s.ent i := upd_other _ _ e
    rw [this]
theorem execIf_core (s : NodeL) (sh : Int) (n i : Nat) : coreE ((NodeL.execIf sh s n).ent i) = coreE (s.ent i) := by
  unfold NodeL.execIf
  split
  · rename_i h; exact exec_core s sh h i
  · rfl
theorem execs_core (sh : Int) (i : Nat) : ∀ (l : List Nat) (s : NodeL), coreE ((s.execs sh l).ent i) = coreE (s.ent i)
  | [], _ => rfl
  | n :: l, s => (execs_core sh i l (NodeL.execIf sh s n)).trans (execIf_core s sh n i)
theorem round_core (g : GraphL) (sh : Int) (i : Nat) : ∀ (l : List Nat) (s : NodeL), coreE ((l.foldl (NodeL.round g sh) s).ent i) = coreE (s.ent i)
  | [], _ => rfl
  | n :: l, s => by
    refine (round_core g sh i l (NodeL.round g sh s n)).trans ?_
    unfold NodeL.round
    split
    · exact execs_core sh i _ s
    · rfl
theorem settle_core (s : NodeL) (sh : Int) (i : Nat) : coreE ((s.settle sh).ent i) = coreE (s.ent i) := round_core _ sh i _ s
/-- A message that is taken: what becomes of a transaction that it is not about. -/
theorem take_core_other {s : NodeL} {who : Int} {f : FrameL} {i : Nat} (hi : i ≠ f.id.toNat) : coreE ((takeN s who f).1.ent i) = coreE (s.ent i) := by
  rcases take_cases s who f with ⟨_, h1, _⟩ | ⟨_, _, _, _, _, _, ⟨_, _, e⟩ | ⟨_, e⟩⟩
  · rw [h1]
  · rw [e]
    show coreE ((s.asked _ f).ent i) = _
    unfold NodeL.asked
    split
    · rw [heard_other s _ f hi]
    · rfl
  · rw [e]
    show coreE ((s.commit _ f).ent i) = _
    unfold NodeL.commit
    split
    · rw [settle_core]
      have : (s.placed (ofL who) f).ent i = s.ent i := upd_other _ _ hi
      rw [this]
    · rfl
/-- And of the one that it is about: an Ask. -/
theorem take_core_ask {s : NodeL} {who : Int} {f : FrameL} (h0 : (takeN s who f).2.2 = 0) (hk : f.kind = 1) :
    (takeN s who f).1.ent f.id.toNat = if (s.ent f.id.toNat).state = 0 then ⟨1, f.ops, s.ahead f.id.toNat f.ops (ofL who), [], [], []⟩ else s.ent f.id.toNat := by
  rcases take_cases s who f with ⟨h1, _⟩ | ⟨_, _, _, _, _, _, ⟨_, _, e⟩ | ⟨hk3, _⟩⟩
  · exact absurd h0 h1
  · rw [e]
    show (s.asked _ f).ent _ = _
    unfold NodeL.asked
    split
    · exact heard_same s _ f
    · rfl
  · omega
theorem take_core_com {s : NodeL} {who : Int} {f : FrameL} (h0 : (takeN s who f).2.2 = 0) (hk : f.kind = 3) :
    coreE ((takeN s who f).1.ent f.id.toNat) = if (s.ent f.id.toNat).state < 2 then (f.ops, (if (s.ent f.id.toNat).state = 0 then s.ahead f.id.toNat f.ops (ofL who) else (s.ent f.id.toNat).first), f.deps, true, true) else coreE (s.ent f.id.toNat) := by
  rcases take_cases s who f with ⟨h1, _⟩ | ⟨_, _, _, _, _, _, ⟨hk1, _, _⟩ | ⟨_, e⟩⟩
  · exact absurd h0 h1
  · omega
  · rw [e]
    show coreE ((s.commit _ f).ent _) = _
    unfold NodeL.commit
    split
    · rw [settle_core, placed_same]
      rfl
    · rfl
theorem core_parts {e : EntryL} {a : List OpL} {b c : List Int} {d g : Bool} (h : coreE e = (a, b, c, d, g)) : e.ops = a ∧ e.first = b ∧ e.deps = c ∧ decide (1 ≤ e.state) = d ∧ decide (2 ≤ e.state) = g := by
  unfold coreE at h
  simp only [Prod.mk.injEq] at h
  exact h
theorem core_eq {e e' : EntryL} (h : coreE e = coreE e') : e.ops = e'.ops ∧ e.first = e'.first ∧ e.deps = e'.deps ∧ ((1 ≤ e.state) ↔ (1 ≤ e'.state)) ∧ ((2 ≤ e.state) ↔ (2 ≤ e'.state)) := by
  unfold coreE at h
  simp only [Prod.mk.injEq, decide_eq_decide] at h
  exact h
/-- What stands ahead: those that are heard of, and in the way. -/
theorem mem_ahead {s : NodeL} {id : Nat} {ops : List OpL} {sh : Int} {x : Nat} : (x : Int) ∈ s.ahead id ops sh ↔ x < 32 ∧ x ≠ id ∧ 0 < (s.ent x).state ∧ conflictL (s.ent x).ops ops sh = true := by
  unfold NodeL.ahead unionTo
  simp [and_assoc]
  constructor
  · rintro ⟨a, h1, h2, h3, h4, e⟩
    obtain rfl : a = x := by omega
    exact ⟨h1, h2, h3, h4⟩
  · rintro ⟨h1, h2, h3, h4⟩
    exact ⟨x, h1, h2, h3, h4, rfl⟩

end Go.Proofs.YtkoefoccbjhoiacGreat

namespace Go.Proofs.YtkoefoccbjhoiacGreat
open Go.RowKit

theorem meetB_comm (o p : OpL) : meetB o p = meetB p o := by
  unfold meetB
  rw [Bool.or_comm (o.1 != 1)]
  have : (o.2.1 == p.2.1) = (p.2.1 == o.2.1) := by
    rw [Bool.eq_iff_iff, beq_iff_eq, beq_iff_eq]
    exact eq_comm
  rw [this]

theorem conflict_iff (a b : List OpL) (s : Int) : conflictL a b s = true ↔ ∃ o ∈ a, ∃ p ∈ b, o.2.1 % 2 = s ∧ meetB o p = true := by
  simp only [conflictL, conflictB, meetsL, List.any_eq_true, Bool.and_eq_true, beq_iff_eq]
  constructor
  · rintro ⟨o, ho, hs, p, hp, hm⟩
    exact ⟨o, ho, p, hp, hs, hm⟩
  · rintro ⟨o, ho, p, hp, hs, hm⟩
    exact ⟨o, ho, hs, p, hp, hm⟩

theorem meet_key {o p : OpL} (h : meetB o p = true) : o.2.1 = p.2.1 := by
  unfold meetB at h
  simp at h
  exact h.1

theorem conflict_comm (a b : List OpL) (s : Int) : conflictL a b s = conflictL b a s := by
  rw [Bool.eq_iff_iff, conflict_iff, conflict_iff]
  constructor
  · rintro ⟨o, ho, p, hp, hs, hm⟩
    exact ⟨p, hp, o, ho, by rw [← meet_key hm]; exact hs, by rw [meetB_comm]; exact hm⟩
  · rintro ⟨o, ho, p, hp, hs, hm⟩
    exact ⟨p, hp, o, ho, by rw [← meet_key hm]; exact hs, by rw [meetB_comm]; exact hm⟩

theorem conflict_touches {a b : List OpL} {s : Int} (h : conflictL a b s = true) : touchesL a s = true ∧ touchesL b s = true := by
  obtain ⟨o, ho, p, hp, hs, hm⟩ := (conflict_iff a b s).1 h
  constructor
  · exact List.any_eq_true.2 ⟨o, ho, by simp [touchB, hs]⟩
  · exact List.any_eq_true.2 ⟨p, hp, by simp [touchB, ← meet_key hm, hs]⟩

end Go.Proofs.YtkoefoccbjhoiacGreat

namespace Go.Proofs.YtkoefoccbjhoiacGreat
open Go.RowKit

/-- What each node's book says; who has what; what was ever sent. -/
structure Sys where
  B : Nat → NodeL
  C : Nat → CaseL
  M : FrameL → Prop
/-- A frame's node and transaction are such. -/
def InRange (f : FrameL) : Prop := (0 ≤ f.node ∧ f.node < 6) ∧ 0 ≤ f.id ∧ f.id < 32
structure InvS (S : Sys) : Prop where
  good : ∀ n, n < 6 → GoodN (S.B n)
  rng : ∀ f, S.M f → InRange f
  ask : ∀ f, S.M f → f.kind = 1 → (S.C f.id.toNat).begun = true ∧ f.ops = (S.C f.id.toNat).ops
  com : ∀ f, S.M f → f.kind = 3 → ((S.C f.id.toNat).begun = true ∧ (S.C f.id.toNat).fixed = true) ∧ f.ops = (S.C f.id.toNat).ops ∧ f.deps = (S.C f.id.toNat).deps
  tel : ∀ f, S.M f → f.kind = 2 → 1 ≤ ((S.B f.node.toNat).ent f.id.toNat).state ∧ f.deps = ((S.B f.node.toNat).ent f.id.toNat).first
  don : ∀ f, S.M f → f.kind = 5 → ((S.B f.node.toNat).ent f.id.toNat).state = 3 ∧ f.ats = ((S.B f.node.toNat).ent f.id.toNat).ats ∧ f.vals = ((S.B f.node.toNat).ent f.id.toNat).vals
  ent1 : ∀ n, n < 6 → ∀ i, i < 32 → 1 ≤ ((S.B n).ent i).state → (S.C i).begun = true ∧ ((S.B n).ent i).ops = (S.C i).ops
  ent2 : ∀ n, n < 6 → ∀ i, i < 32 → 2 ≤ ((S.B n).ent i).state → (S.C i).fixed = true ∧ ((S.B n).ent i).deps = (S.C i).deps
  told : ∀ i, i < 32 → ∀ n, n < 6 → (S.C i).told n = true → 1 ≤ ((S.B n).ent i).state ∧ ∀ d ∈ ((S.B n).ent i).first, d ∈ (S.C i).deps
  conf : ∀ n, n < 6 → ∀ x y, x < 32 → y < 32 → x ≠ y → 1 ≤ ((S.B n).ent x).state → 1 ≤ ((S.B n).ent y).state → conflictL (S.C x).ops (S.C y).ops (ofL n) = true → (y : Int) ∈ ((S.B n).ent x).first ∨ (x : Int) ∈ ((S.B n).ent y).first
  most : ∀ i, i < 32 → (S.C i).fixed = true → (S.C i).begun = true ∧ mostB (S.C i).ops (S.C i).told = true

theorem mem_join {a b : List Int} {x : Nat} : (x : Int) ∈ joinL a b ↔ x < 32 ∧ ((x : Int) ∈ a ∨ (x : Int) ∈ b) := by
  unfold joinL unionTo
  simp
  constructor
  · rintro ⟨y, ⟨h1, h2⟩, e⟩
    obtain rfl : y = x := by omega
    exact ⟨h1, h2⟩
  · rintro ⟨h1, h2⟩
    exact ⟨x, ⟨h1, h2⟩, rfl⟩
theorem join_left {a b : List Int} {d : Int} (h : d ∈ a) (h0 : 0 ≤ d ∧ d < 32) : d ∈ joinL a b := by
  obtain ⟨x, rfl⟩ := Int.eq_ofNat_of_zero_le h0.1
  exact mem_join.2 ⟨by omega, Or.inl h⟩
theorem join_right {a b : List Int} {d : Int} (h : d ∈ b) (h0 : 0 ≤ d ∧ d < 32) : d ∈ joinL a b := by
  obtain ⟨x, rfl⟩ := Int.eq_ofNat_of_zero_le h0.1
  exact mem_join.2 ⟨by omega, Or.inr h⟩
theorem first_in {s : NodeL} (h : GoodN s) {i : Nat} (hi : i < 32) : ∀ d ∈ (s.ent i).first, 0 ≤ d ∧ d < 32 := by
  intro d hd
  rcases h.ent i hi with e | F
  · rw [e] at hd; simp [zeroE] at hd
  · have := (rising_in _ _ F.first.1).1 d hd
    omega
theorem ofL_nat (n : Nat) : ofL (n : Int) = if n < 3 then 0 else 1 := by
  unfold ofL
  by_cases h : n < 3
  · rw [if_pos h, if_pos (by omega)]
  · rw [if_neg h, if_neg (by omega)]

/-- A node takes an Ask or a Commit that was sent. -/
theorem InvS.node {S : Sys} (h : InvS S) {f : FrameL} (hM : S.M f) (hk : f.kind = 1 ∨ f.kind = 3) (h0 : (takeN (S.B f.node.toNat) f.node f).2.2 = 0) :
    InvS ⟨upd S.B f.node.toNat (takeN (S.B f.node.toNat) f.node f).1, S.C, fun g => S.M g ∨ g ∈ (takeN (S.B f.node.toNat) f.node f).2.1⟩ := by
  obtain ⟨hr1, hr2⟩ := h.rng f hM
  have hn6 : f.node.toNat < 6 := by omega
  have hi32 : f.id.toNat < 32 := by omega
  have hnat : (f.node.toNat : Int) = f.node := by omega
  have hG := h.good _ hn6
  obtain ⟨s, hs⟩ : ∃ s, s = S.B f.node.toNat := ⟨_, rfl⟩
  obtain ⟨T, hT⟩ : ∃ T, T = takeN (S.B f.node.toNat) f.node f := ⟨_, rfl⟩
  rw [← hT] at h0 ⊢
  have hT' : T = takeN s f.node f := by rw [hs]; exact hT
  rw [← hs] at hG
  have h00 : (takeN s f.node f).2.2 = 0 := by rw [← hT']; exact h0
  have hst0 : ∀ i, i < 32 → 0 ≤ (s.ent i).state := fun i hi => (hG.state hi).1
  have hG' : GoodN T.1 := by rw [hT']; exact take_good h00
  -- the transaction that it is about: heard of then, with the operations of its case
  have hops : f.ops = (S.C f.id.toNat).ops ∧ (S.C f.id.toNat).begun = true := by
    rcases hk with e | e
    · exact ⟨(h.ask f hM e).2, (h.ask f hM e).1⟩
    · exact ⟨(h.com f hM e).2.1, (h.com f hM e).1.1⟩
  -- what becomes of each entry
  have other : ∀ i, i ≠ f.id.toNat → coreE (T.1.ent i) = coreE (s.ent i) := fun i hi => by rw [hT']; exact take_core_other hi
  have mine : ((s.ent f.id.toNat).state = 0 → (T.1.ent f.id.toNat).first = s.ahead f.id.toNat f.ops (ofL f.node)) ∧ ((s.ent f.id.toNat).state ≠ 0 → (T.1.ent f.id.toNat).first = (s.ent f.id.toNat).first) ∧
      (T.1.ent f.id.toNat).ops = (S.C f.id.toNat).ops ∧ 1 ≤ (T.1.ent f.id.toNat).state ∧ (2 ≤ (T.1.ent f.id.toNat).state → (S.C f.id.toNat).fixed = true ∧ (T.1.ent f.id.toNat).deps = (S.C f.id.toNat).deps) := by
    have hold1 : (s.ent f.id.toNat).state ≠ 0 → (s.ent f.id.toNat).ops = (S.C f.id.toNat).ops := fun e => by
      have := h.ent1 _ hn6 _ hi32 (by rw [← hs]; have := hst0 _ hi32; omega)
      rw [← hs] at this
      exact this.2
    have hold2 : 2 ≤ (s.ent f.id.toNat).state → (S.C f.id.toNat).fixed = true ∧ (s.ent f.id.toNat).deps = (S.C f.id.toNat).deps := fun e => by
      have := h.ent2 _ hn6 _ hi32 (by rw [← hs]; exact e)
      rw [← hs] at this
      exact this
    rcases hk with hk | hk
    · have e := take_core_ask h00 hk
      rw [← hT'] at e
      by_cases z : (s.ent f.id.toNat).state = 0
      · rw [if_pos z] at e
        rw [e]
        exact ⟨fun _ => rfl, fun c => absurd z c, hops.1, by simp, fun c => absurd c (by simp)⟩
      · rw [if_neg z] at e
        rw [e]
        exact ⟨fun c => absurd c z, fun _ => rfl, hold1 z, by have := hst0 _ hi32; omega, hold2⟩
    · have e := take_core_com h00 hk
      rw [← hT'] at e
      by_cases l : (s.ent f.id.toNat).state < 2
      · rw [if_pos l] at e
        obtain ⟨e1, e2, e3, e4, e5⟩ := core_parts e
        refine ⟨fun z => by rw [e2, if_pos z], fun z => by rw [e2, if_neg z], by rw [e1]; exact hops.1, of_decide_eq_true e4, fun _ => ⟨(h.com f hM hk).1.2, by rw [e3]; exact (h.com f hM hk).2.2⟩⟩
      · rw [if_neg l] at e
        obtain ⟨e1, e2, e3, e4, e5⟩ := core_eq e
        exact ⟨fun z => by omega, fun _ => e2, by rw [e1]; exact hold1 (by omega), by rw [e4]; omega, fun c => by rw [e3]; exact hold2 (e5.1 c)⟩
  -- what was heard of stays so, with what stood ahead
  have keep1 : ∀ i, i < 32 → 1 ≤ (s.ent i).state → 1 ≤ (T.1.ent i).state ∧ (T.1.ent i).first = (s.ent i).first := fun i hi h1 => by
    by_cases e : i = f.id.toNat
    · subst e
      exact ⟨mine.2.2.2.1, mine.2.1 (by omega)⟩
    · obtain ⟨_, e2, _, e4, _⟩ := core_eq (other i e)
      exact ⟨e4.2 h1, e2⟩
  have hdone : ∀ i, (s.ent i).state = 3 → T.1.ent i = s.ent i := fun i hi => by
    rcases take_cases s f.node f with ⟨_, e1, _⟩ | ⟨_, _, _, _, _, _, ⟨_, _, e⟩ | ⟨_, e⟩⟩
    · rw [hT', e1]
    · rw [hT', e]; exact (keeps_asked s _ f).done i hi
    · rw [hT', e]
      show (s.commit _ f).ent i = _
      unfold NodeL.commit
      split
      · rename_i l
        have p1 := keeps_placed s (ofL f.node) f l
        have hp : (s.placed (ofL f.node) f).ent i = s.ent i := p1.done i hi
        have : ∀ (l : List Nat) (t : NodeL) (g : GraphL), (t.ent i).state = 3 → (l.foldl (NodeL.round g (ofL f.node)) t).ent i = t.ent i := by
          intro l
          induction l with
          | nil => intros; rfl
          | cons a l ih =>
            intro t g ht
            have h2 : (NodeL.round g (ofL f.node) t a).ent i = t.ent i := by
              unfold NodeL.round
              split
              · have : ∀ (l : List Nat) (t : NodeL), (t.ent i).state = 3 → (l.foldl (NodeL.execIf (ofL f.node)) t).ent i = t.ent i := by
                  intro l
                  induction l with
                  | nil => intros; rfl
                  | cons b l ih2 =>
                    intro t ht
                    have h3 := (keeps_execIf t (ofL f.node) b).done i ht
                    show (l.foldl _ (NodeL.execIf _ t b)).ent i = _
                    rw [ih2 _ (by rw [h3]; exact ht), h3]
                exact this _ t ht
              · rfl
            show (l.foldl _ (NodeL.round g _ t a)).ent i = _
            rw [ih _ g (by rw [h2]; exact ht), h2]
        unfold NodeL.settle
        rw [this _ _ _ (by rw [hp]; exact hi), hp]
      · rfl
  have at_ : ∀ m, upd S.B f.node.toNat T.1 m = if m = f.node.toNat then T.1 else S.B m := fun m => rfl
  have hans : ∀ g ∈ T.2.1, g.node = f.node ∧ g.id = f.id ∧ (g.kind = 2 → g.deps = (T.1.ent f.id.toNat).first) ∧ (g.kind = 5 → (T.1.ent f.id.toNat).state = 3 ∧ g.ats = (T.1.ent f.id.toNat).ats ∧ g.vals = (T.1.ent f.id.toNat).vals) ∧ g.kind ≠ 1 ∧ g.kind ≠ 3 := by
    intro g hg
    rcases take_cases s f.node f with ⟨_, _, e1⟩ | ⟨_, _, _, _, _, _, ⟨_, _, e⟩ | ⟨_, e⟩⟩
    · rw [hT', e1] at hg; simp at hg
    · rw [hT', e] at hg ⊢
      simp at hg
      subst hg
      exact ⟨rfl, rfl, fun _ => rfl, fun c => absurd c (by simp), by simp, by simp⟩
    · rw [hT', e] at hg ⊢
      have hg : g ∈ (s.commit (ofL f.node) f).answers (ofL f.node) f.node f.id := hg
      unfold NodeL.answers at hg
      rcases List.mem_cons.1 hg with rfl | hg
      · exact ⟨rfl, rfl, fun c => absurd c (by simp), fun c => absurd c (by simp), by simp, by simp⟩
      · split at hg
        · rename_i hc
          simp at hg
          subst hg
          exact ⟨rfl, rfl, fun c => absurd c (by simp), fun _ => ⟨hc.1, rfl, rfl⟩, by simp, by simp⟩
        · simp at hg
  refine ⟨fun m hm => ?_, fun g hg => ?_, fun g hg hk => ?_, fun g hg hk => ?_, fun g hg hk => ?_, fun g hg hk => ?_, fun m hm i hi h1 => ?_, fun m hm i hi h2 => ?_, fun i hi m hm ht => ?_, fun m hm x y hx hy hxy h1 h2 hc => ?_, h.most⟩
  · show GoodN (upd S.B f.node.toNat T.1 m)
    rw [at_]
    split
    · exact hG'
    · exact h.good m hm
  · rcases hg with hg | hg
    · exact h.rng g hg
    · obtain ⟨a1, a2, _⟩ := hans g hg
      unfold InRange
      rw [a1, a2]
      exact ⟨hr1, hr2⟩
  · rcases hg with hg | hg
    · exact h.ask g hg hk
    · exact absurd hk (hans g hg).2.2.2.2.1
  · rcases hg with hg | hg
    · exact h.com g hg hk
    · exact absurd hk (hans g hg).2.2.2.2.2
  · show 1 ≤ ((upd S.B f.node.toNat T.1 g.node.toNat).ent g.id.toNat).state ∧ g.deps = ((upd S.B f.node.toNat T.1 g.node.toNat).ent g.id.toNat).first
    rw [at_]
    rcases hg with hg | hg
    · obtain ⟨t1, t2⟩ := h.tel g hg hk
      have hgr := h.rng g hg
      split
      · rename_i e
        rw [e, ← hs] at t1 t2
        obtain ⟨k1, k2⟩ := keep1 g.id.toNat (by have := hgr.2; omega) t1
        exact ⟨k1, by rw [k2]; exact t2⟩
      · exact ⟨t1, t2⟩
    · obtain ⟨a1, a2, a3, _⟩ := hans g hg
      rw [a1, a2, if_pos rfl]
      exact ⟨mine.2.2.2.1, a3 hk⟩
  · show ((upd S.B f.node.toNat T.1 g.node.toNat).ent g.id.toNat).state = 3 ∧ g.ats = ((upd S.B f.node.toNat T.1 g.node.toNat).ent g.id.toNat).ats ∧ g.vals = ((upd S.B f.node.toNat T.1 g.node.toNat).ent g.id.toNat).vals
    rw [at_]
    rcases hg with hg | hg
    · obtain ⟨t1, t2⟩ := h.don g hg hk
      split
      · rename_i e
        rw [e, ← hs] at t1 t2
        rw [hdone _ t1]
        exact ⟨t1, t2⟩
      · exact ⟨t1, t2⟩
    · obtain ⟨a1, a2, _, a4, _⟩ := hans g hg
      rw [a1, a2, if_pos rfl]
      exact a4 hk
  · have h1 : 1 ≤ ((upd S.B f.node.toNat T.1 m).ent i).state := h1
    show (S.C i).begun = true ∧ ((upd S.B f.node.toNat T.1 m).ent i).ops = (S.C i).ops
    rw [at_] at h1 ⊢
    split
    · rename_i e
      rw [if_pos e] at h1
      by_cases ei : i = f.id.toNat
      · subst ei
        exact ⟨hops.2, mine.2.2.1⟩
      · obtain ⟨e1, _, _, e4, _⟩ := core_eq (other i ei)
        rw [e1]
        have := h.ent1 m hm i hi (by rw [e, ← hs]; exact e4.1 h1)
        rw [e, ← hs] at this
        exact this
    · rename_i e
      rw [if_neg e] at h1
      exact h.ent1 m hm i hi h1
  · have h2 : 2 ≤ ((upd S.B f.node.toNat T.1 m).ent i).state := h2
    show (S.C i).fixed = true ∧ ((upd S.B f.node.toNat T.1 m).ent i).deps = (S.C i).deps
    rw [at_] at h2 ⊢
    split
    · rename_i e
      rw [if_pos e] at h2
      by_cases ei : i = f.id.toNat
      · subst ei
        exact mine.2.2.2.2 h2
      · obtain ⟨_, _, e3, _, e5⟩ := core_eq (other i ei)
        rw [e3]
        have := h.ent2 m hm i hi (by rw [e, ← hs]; exact e5.1 h2)
        rw [e, ← hs] at this
        exact this
    · rename_i e
      rw [if_neg e] at h2
      exact h.ent2 m hm i hi h2
  · obtain ⟨t1, t2⟩ := h.told i hi m hm ht
    show 1 ≤ ((upd S.B f.node.toNat T.1 m).ent i).state ∧ ∀ d ∈ ((upd S.B f.node.toNat T.1 m).ent i).first, d ∈ (S.C i).deps
    rw [at_]
    split
    · rename_i e
      rw [e, ← hs] at t1 t2
      obtain ⟨k1, k2⟩ := keep1 i hi t1
      exact ⟨k1, by rw [k2]; exact t2⟩
    · exact ⟨t1, t2⟩
  · have g1 : 1 ≤ ((upd S.B f.node.toNat T.1 m).ent x).state := h1
    have g2 : 1 ≤ ((upd S.B f.node.toNat T.1 m).ent y).state := h2
    clear h1 h2
    have hc : conflictL (S.C x).ops (S.C y).ops (ofL m) = true := hc
    show (y : Int) ∈ ((upd S.B f.node.toNat T.1 m).ent x).first ∨ (x : Int) ∈ ((upd S.B f.node.toNat T.1 m).ent y).first
    rw [at_] at g1 g2 ⊢
    by_cases e : m = f.node.toNat
    · rw [if_pos e] at g1 g2 ⊢
      subst e
      rw [hnat] at hc
      -- those that were heard of: as it was; the new one: what stands ahead of it
      have old : 1 ≤ (s.ent x).state → 1 ≤ (s.ent y).state → (y : Int) ∈ (T.1.ent x).first ∨ (x : Int) ∈ (T.1.ent y).first := fun o1 o2 => by
        rw [(keep1 x hx o1).2, (keep1 y hy o2).2]
        have := h.conf _ hn6 x y hx hy hxy (by rw [← hs]; exact o1) (by rw [← hs]; exact o2) (by rw [hnat]; exact hc)
        rw [← hs] at this
        exact this
      by_cases ex : x = f.id.toNat
      · subst ex
        have hy1 : 1 ≤ (s.ent y).state := (core_eq (other y (Ne.symm hxy))).2.2.2.1.1 g2
        by_cases z : (s.ent f.id.toNat).state = 0
        · left
          rw [mine.1 z]
          refine mem_ahead.2 ⟨hy, Ne.symm hxy, by omega, ?_⟩
          have hyo := h.ent1 _ hn6 y hy (by rw [← hs]; exact hy1)
          rw [← hs] at hyo
          rw [hyo.2, hops.1, conflict_comm]
          exact hc
        · exact old (by have := hst0 _ hi32; omega) hy1
      · by_cases ey : y = f.id.toNat
        · subst ey
          have hx1 : 1 ≤ (s.ent x).state := (core_eq (other x ex)).2.2.2.1.1 g1
          by_cases z : (s.ent f.id.toNat).state = 0
          · right
            rw [mine.1 z]
            refine mem_ahead.2 ⟨hx, ex, by omega, ?_⟩
            have hxo := h.ent1 _ hn6 x hx (by rw [← hs]; exact hx1)
            rw [← hs] at hxo
            rw [hxo.2, hops.1]
            exact hc
          · exact old hx1 (by have := hst0 _ hi32; omega)
        · exact old ((core_eq (other x ex)).2.2.2.1.1 g1) ((core_eq (other y ey)).2.2.2.1.1 g2)
    · rw [if_neg e] at g1 g2 ⊢
      exact h.conf m hm x y hx hy hxy g1 g2 hc

end Go.Proofs.YtkoefoccbjhoiacGreat
