/-
  Plain mathematics of a node: it stays good; and what it has executed stays sorted.
  Plain mathematics: what comes to be known of what one does not hang on changes nothing for it.
  Plain mathematics of a node: what it has executed stands behind all that it hangs on, but those that hang on it: these by number; whatever it is told.
  Plain mathematics of a node: Good and Take as the document says them, whole; and what holds of them.
  The contracts of package wire's reader: small and wide, behind a pointer.
  How a slice of ints that came in is read: its elements, and where they lie.
  How a slice of operations, or of ints, that came in is read: its elements' numbers, and where they lie.
-/
import Derived.Test.YtgdkjjmnoikhdabRep7
import Derived.Test.YtgdkjjmnoikhdabRep6
import Derived.Lib.Strings
import Derived.Laws.BitsLemmas
import Derived.Test.YtgdkjjmnoikhdabRep1
import Derived.ProofKit
import Derived.OpenShut
import Derived.ShutString
import Derived.ChangeOld
import Derived.Below
import Derived.Deep.Slices
namespace Go.Proofs.Ytgdkjjmnoikhdab
open Go.RowKit

theorem rises_map (xs : List Nat) : ∀ (l : Int), (∀ x ∈ xs, l < (x : Int) ∧ x < 32) → xs.Pairwise (· < ·) → risingFrom l (xs.map Int.ofNat) = true := by
  induction xs with
  | nil => intros; rfl
  | cons x r ih =>
    intro l h hp
    have hx := h x (by simp)
    obtain ⟨h1, h2⟩ := List.pairwise_cons.1 hp
    rw [List.map_cons, risingFrom, ih (Int.ofNat x) (fun y hy => ⟨by have := h1 y hy; simp; omega, (h y (by simp [hy])).2⟩) h2]
    have e1 : decide (Int.ofNat x ≤ l) = false := by simp; omega
    have e2 : decide (32 ≤ Int.ofNat x) = false := by simp; omega
    rw [e1, e2]
    rfl
theorem ahead_rises (s : NodeL) (id : Nat) (ops : List OpL) (sh : Int) : risingFrom (-1) (s.ahead id ops sh) = true := by
  unfold NodeL.ahead unionTo
  refine rises_map _ _ (fun x hx => ?_) (List.Pairwise.filter _ List.pairwise_lt_range)
  have := List.mem_range.1 (List.mem_filter.1 hx).1
  omega
theorem ahead_not (s : NodeL) (id : Nat) (ops : List OpL) (sh : Int) : hasL (s.ahead id ops sh) id = false := by
  unfold hasL
  rw [List.any_eq_false]
  intro x hx he
  unfold NodeL.ahead unionTo at hx
  rw [List.mem_map] at hx
  obtain ⟨y, hy, rfl⟩ := hx
  have h1 := (List.mem_filter.1 hy).2
  unfold eqB at he
  have : y = id := by
    have h2 : ((y : Nat) : Int) = (id : Int) := by simpa using he
    omega
  subst this
  simp at h1

theorem run_ats (sh : Int) : ∀ (ops : List OpL) (i : Nat) (v : Nat → Int) (l : Int) (N : Nat), l < (i : Int) → i + ops.length ≤ N → atsFrom l N (runOps sh i ops v).2.1 = true
  | [], _, _, _, _, _, _ => rfl
  | o :: r, i, v, l, N, h1, h2 => by
    simp only [List.length_cons] at h2
    unfold runOps
    split
    · show (decide (l < (i : Int)) && decide ((i : Int) < (N : Int)) && atsFrom (i : Int) N _) = true
      rw [decide_eq_true h1, decide_eq_true (show (i : Int) < (N : Int) by omega), run_ats sh r (i + 1) _ (i : Int) N (by omega) (by omega)]
      rfl
    · exact run_ats sh r (i + 1) v l N (by omega) (by omega)
theorem run_len (sh : Int) : ∀ (ops : List OpL) (i : Nat) (v : Nat → Int), (runOps sh i ops v).2.2.length = (runOps sh i ops v).2.1.length
  | [], _, _ => rfl
  | o :: r, i, v => by
    unfold runOps
    split
    · simp only [List.length_cons, run_len sh r (i + 1)]
    · exact run_len sh r (i + 1) v

theorem three_ok : (1 : Int) ≤ 3 ∧ (3 : Int) ≤ 3 := by decide
theorem two_okN : (1 : Int) ≤ 2 ∧ (2 : Int) ≤ 3 := by decide
theorem GoodN.fine {s : NodeL} (h : GoodN s) {n : Nat} (hn : n < 32) (hs : (s.ent n).state ≠ 0) : Fine (s.ent n) n := by
  rcases h.ent n hn with e | e
  · rw [e] at hs; exact absurd rfl hs
  · exact e
theorem GoodN.state {s : NodeL} (h : GoodN s) {n : Nat} (hn : n < 32) : 0 ≤ (s.ent n).state ∧ (s.ent n).state ≤ 3 := by
  rcases h.ent n hn with e | e
  · rw [e]; decide
  · have := e.st; omega
theorem good_exec {s : NodeL} (h : GoodN s) (sh : Int) {n : Nat} (hn : n < 32) (hs : (s.ent n).state = 2) : GoodN (s.exec sh n) := by
  have F := h.fine hn (by rw [hs]; decide)
  have same : (s.exec sh n).ent n = ⟨3, (s.ent n).ops, (s.ent n).first, (s.ent n).deps, (runOps sh 0 (s.ent n).ops s.vals).2.1, (runOps sh 0 (s.ent n).ops s.vals).2.2⟩ := upd_same _ _ _
  have other : ∀ m, m ≠ n → (s.exec sh n).ent m = s.ent m := fun m hm => upd_other _ _ hm
  refine ⟨fun m hm => ?_, fun m hm => ?_, fun x hx => ?_⟩
  · by_cases e : m = n
    · subst e
      right
      rw [same]
      exact ⟨three_ok, F.ops, F.first, F.deps, fun h => absurd (show (3 : Int) = 1 from h) (by decide), fun h => absurd rfl h, run_ats sh (s.ent m).ops 0 s.vals (-1) (s.ent m).ops.length (by omega) (by omega), run_len sh _ _ _⟩
    · rw [other m e]; exact h.ent m hm
  · have h1 := h.cnt m hm
    show (s.order ++ [(n : Int)]).count (m : Int) = _
    rw [List.count_append, h1]
    by_cases e : m = n
    · subst e
      rw [same, hs]
      simp
    · rw [other m e]
      have : List.count (m : Int) [(n : Int)] = 0 := by
        rw [List.count_eq_zero]
        simp
        omega
      rw [this]
      rfl
  · rcases List.mem_append.1 hx with hx | hx
    · exact h.lt x hx
    · simp at hx
      omega
theorem good_execs (sh : Int) : ∀ (l : List Nat) {s : NodeL}, (∀ x ∈ l, x < 32) → GoodN s → GoodN (s.execs sh l)
  | [], _, _, h => h
  | a :: l, s, hl, h => by
    have h1 : GoodN (NodeL.execIf sh s a) := by
      unfold NodeL.execIf
      split
      · rename_i e; exact good_exec h sh (hl a (by simp)) e
      · exact h
    exact good_execs (s := NodeL.execIf sh s a) sh l (fun x hx => hl x (by simp [hx])) h1
theorem order_below (g : GraphL) (n : Int) : ∀ x ∈ orderI g n, x < 32 := by
  intro x hx
  unfold orderI at hx
  split at hx
  · exact (placed_at _ _ 32).lt x hx
  · simp at hx
theorem good_settle {s : NodeL} (h : GoodN s) (sh : Int) : GoodN (s.settle sh) := by
  have : ∀ (l : List Nat) (t : NodeL), GoodN t → GoodN (l.foldl (NodeL.round s.graph sh) t) := by
    intro l
    induction l with
    | nil => exact fun t ht => ht
    | cons a l ih =>
      intro t ht
      refine ih _ ?_
      unfold NodeL.round
      split
      · exact good_execs (s := t) sh _ (order_below _ _) ht
      · exact ht
  exact this _ s h

/-- What a good frame has, of the two kinds that a node takes. -/
theorem frame_has {f : FrameL} (h : goodL f = 0) : 0 ≤ f.id ∧ f.id < 32 ∧ ((f.kind = 1 ∨ f.kind = 3) → goodOpsL f.ops = true) ∧ (f.kind = 3 → risingFrom (-1) f.deps = true ∧ hasL f.deps f.id = false) := by
  unfold goodL at h
  split at h
  · cases h
  · split at h
    · cases h
    · rename_i h2
      split at h
      · rename_i h3
        rw [Bool.and_eq_true, Bool.and_eq_true] at h3
        refine ⟨by omega, by omega, fun hk => ?_, fun hk => ?_⟩
        · have := h3.1
          unfold goodOpsF at this
          rw [if_pos hk] at this
          exact this
        · have := h3.2.1
          unfold goodDepsF at this
          rw [if_pos (Or.inr hk), Bool.and_eq_true] at this
          exact ⟨this.1, by simpa using this.2⟩
      · cases h
theorem good_placed {s : NodeL} (h : GoodN s) (sh : Int) {f : FrameL} (hf : goodL f = 0) (hk : f.kind = 3) (hs : (s.ent f.id.toNat).state < 2) : GoodN (s.placed sh f) := by
  obtain ⟨i1, i2, i3, i4⟩ := frame_has hf
  have hid : ((f.id.toNat : Nat) : Int) = f.id := by omega
  have hlt : f.id.toNat < 32 := by omega
  have other : ∀ m, m ≠ f.id.toNat → (s.placed sh f).ent m = s.ent m := fun m hm => upd_other _ _ hm
  have hats : (s.ent f.id.toNat).ats = [] ∧ (s.ent f.id.toNat).vals = [] := by
    rcases h.ent _ hlt with e | e
    · rw [e]; exact ⟨rfl, rfl⟩
    · have h1 := e.told (by omega)
      exact ⟨h1, List.eq_nil_of_length_eq_zero (by rw [e.vals, h1]; rfl)⟩
  refine ⟨fun m hm => ?_, fun m hm => ?_, h.lt⟩
  · by_cases e : m = f.id.toNat
    · subst e
      right
      rw [placed_same, hats.1, hats.2]
      have hfi : risingFrom (-1) (if (s.ent f.id.toNat).state = 0 then s.ahead f.id.toNat f.ops sh else (s.ent f.id.toNat).first) = true ∧ hasL (if (s.ent f.id.toNat).state = 0 then s.ahead f.id.toNat f.ops sh else (s.ent f.id.toNat).first) ((f.id.toNat : Nat) : Int) = false := by
        split
        · exact ⟨ahead_rises _ _ _ _, ahead_not _ _ _ _⟩
        · rename_i e0
          exact (h.fine hlt e0).first
      have hdp : risingFrom (-1) f.deps = true ∧ hasL f.deps ((f.id.toNat : Nat) : Int) = false := by rw [hid]; exact i4 hk
      exact ⟨two_okN, i3 (Or.inr hk), hfi, hdp, fun h => absurd (show (2 : Int) = 1 from h) (by decide), fun _ => rfl, rfl, rfl⟩
    · rw [other m e]; exact h.ent m hm
  · have h1 := h.cnt m hm
    show s.order.count (m : Int) = _
    rw [h1]
    by_cases e : m = f.id.toNat
    · subst e
      rw [placed_same, if_neg (by omega)]
      rfl
    · rw [other m e]
theorem good_commit {s : NodeL} (h : GoodN s) (sh : Int) {f : FrameL} (hf : goodL f = 0) (hk : f.kind = 3) : GoodN (s.commit sh f) := by
  unfold NodeL.commit
  split
  · rename_i e; exact good_settle (good_placed h sh hf hk e) sh
  · exact h
end Go.Proofs.Ytgdkjjmnoikhdab

namespace Go.Proofs.Ytgdkjjmnoikhdab
open Go.RowKit

end Go.Proofs.Ytgdkjjmnoikhdab

namespace Go.Proofs.Ytgdkjjmnoikhdab
open Go.RowKit

end Go.Proofs.Ytgdkjjmnoikhdab

namespace Go.Proofs.Ytgdkjjmnoikhdab
open Go.RowKit

/-- P5.1, of one transaction, as a truth. -/
def entB (e : EntryL) (n : Nat) : Bool :=
  if e.state = 0 then e.ops.isEmpty && e.first.isEmpty && e.deps.isEmpty && e.ats.isEmpty && e.vals.isEmpty
  else decide (1 ≤ e.state ∧ e.state ≤ 3) && goodOpsL e.ops && (risingFrom (-1) e.first && !hasL e.first n) && (risingFrom (-1) e.deps && !hasL e.deps n) && (decide (e.state ≠ 1) || e.deps.isEmpty) &&
    (decide (e.state = 3) || e.ats.isEmpty) && atsFrom (-1) e.ops.length e.ats && decide (e.vals.length = e.ats.length)
def goodNB (s : NodeL) : Bool := ((List.range 32).all fun n => entB (s.ent n) n && decide (s.order.count (n : Int) = if (s.ent n).state = 3 then 1 else 0)) && s.order.all fun x => decide (0 ≤ x ∧ x < 32)

theorem entB_iff {e : EntryL} {n : Nat} : entB e n = true ↔ e = zeroE ∨ Fine e n := by
  obtain ⟨st, ops, fi, de, ats, vals⟩ := e
  unfold entB
  by_cases h : st = 0
  · subst h
    rw [if_pos rfl]
    constructor
    · intro h
      simp at h
      obtain ⟨⟨⟨⟨rfl, rfl⟩, rfl⟩, rfl⟩, rfl⟩ := h
      exact Or.inl rfl
    · rintro (h | h)
      · cases h; rfl
      · have h1 : (1 : Int) ≤ 0 := h.st.1
        omega
  · rw [if_neg h]
    simp only [Bool.and_eq_true, Bool.or_eq_true, decide_eq_true_iff, Bool.not_eq_true', List.isEmpty_iff]
    constructor
    · rintro ⟨⟨⟨⟨⟨⟨⟨h1, h2⟩, h3⟩, h4⟩, h5⟩, h6⟩, h7⟩, h8⟩
      exact Or.inr ⟨h1, h2, h3, h4, fun e => h5.resolve_left (fun h => h e), fun e => h6.resolve_left e, h7, h8⟩
    · rintro (e | F)
      · cases e; exact absurd rfl h
      · refine ⟨⟨⟨⟨⟨⟨⟨F.st, F.ops⟩, F.first⟩, F.deps⟩, ?_⟩, ?_⟩, F.ats⟩, F.vals⟩
        · by_cases e : st = 1
          · exact Or.inr (F.asked e)
          · exact Or.inl e
        · by_cases e : st = 3
          · exact Or.inl e
          · exact Or.inr (F.told e)
theorem goodNB_iff {s : NodeL} : goodNB s = true ↔ GoodN s := by
  unfold goodNB
  simp only [Bool.and_eq_true, List.all_eq_true, List.mem_range, decide_eq_true_iff, entB_iff]
  exact ⟨fun h => ⟨fun n hn => (h.1 n hn).1, fun n hn => (h.1 n hn).2, h.2⟩, fun h => ⟨fun n hn => ⟨h.ent n hn, h.cnt n hn⟩, h.lt⟩⟩

/-- P5.2, P5.3. -/
def takeN (s : NodeL) (who : Int) (f : FrameL) : NodeL × List FrameL × Int :=
  if goodNB s = false ∨ who < 0 ∨ 5 < who ∨ f.node ≠ who then (s, [], 2)
  else if goodL f ≠ 0 then (s, [], goodL f)
  else if f.kind = 1 then
    if touchesL f.ops (ofL who) = false then (s, [], 4)
    else (s.asked (ofL who) f, [⟨2, who, f.id, [], ((s.asked (ofL who) f).ent f.id.toNat).first, [], []⟩], 0)
  else if f.kind = 3 then (s.commit (ofL who) f, (s.commit (ofL who) f).answers (ofL who) who f.id, 0)
  else (s, [], 3)

/-- What a frame that is taken makes of a node: one of two things. -/
theorem take_cases (s : NodeL) (who : Int) (f : FrameL) :
    ((takeN s who f).2.2 ≠ 0 ∧ (takeN s who f).1 = s ∧ (takeN s who f).2.1 = []) ∨
    (GoodN s ∧ goodL f = 0 ∧ (takeN s who f).2.2 = 0 ∧ f.node = who ∧ 0 ≤ who ∧ who ≤ 5 ∧
      ((f.kind = 1 ∧ touchesL f.ops (ofL who) = true ∧ takeN s who f = (s.asked (ofL who) f, [⟨2, who, f.id, [], ((s.asked (ofL who) f).ent f.id.toNat).first, [], []⟩], 0)) ∨
       (f.kind = 3 ∧ takeN s who f = (s.commit (ofL who) f, (s.commit (ofL who) f).answers (ofL who) who f.id, 0)))) := by
  by_cases h1 : goodNB s = false ∨ who < 0 ∨ 5 < who ∨ f.node ≠ who
  · left
    have e : takeN s who f = (s, [], 2) := by unfold takeN; rw [if_pos h1]
    rw [e]
    exact ⟨(show (2 : Int) ≠ 0 by decide), rfl, rfl⟩
  · by_cases h2 : goodL f ≠ 0
    · left
      have e : takeN s who f = (s, [], goodL f) := by unfold takeN; rw [if_neg h1, if_pos h2]
      rw [e]
      exact ⟨h2, rfl, rfl⟩
    · have hg : GoodN s := goodNB_iff.1 (by
        cases h : goodNB s
        · exact absurd (Or.inl h) h1
        · rfl)
      have hn : f.node = who ∧ 0 ≤ who ∧ who ≤ 5 := by
        refine ⟨?_, ?_, ?_⟩
        · by_cases e : f.node = who
          · exact e
          · exact absurd (Or.inr (Or.inr (Or.inr e))) h1
        · by_cases e : who < 0
          · exact absurd (Or.inr (Or.inl e)) h1
          · omega
        · by_cases e : 5 < who
          · exact absurd (Or.inr (Or.inr (Or.inl e))) h1
          · omega
      have h2' : goodL f = 0 := by omega
      by_cases h3 : f.kind = 1
      · by_cases h4 : touchesL f.ops (ofL who) = false
        · left
          have e : takeN s who f = (s, [], 4) := by unfold takeN; rw [if_neg h1, if_neg h2, if_pos h3, if_pos h4]
          rw [e]
          exact ⟨(show (4 : Int) ≠ 0 by decide), rfl, rfl⟩
        · right
          have e : takeN s who f = (s.asked (ofL who) f, [⟨2, who, f.id, [], ((s.asked (ofL who) f).ent f.id.toNat).first, [], []⟩], 0) := by unfold takeN; rw [if_neg h1, if_neg h2, if_pos h3, if_neg h4]
          exact ⟨hg, h2', by rw [e], hn.1, hn.2.1, hn.2.2, Or.inl ⟨h3, by simpa using h4, e⟩⟩
      · by_cases h5 : f.kind = 3
        · right
          have e : takeN s who f = (s.commit (ofL who) f, (s.commit (ofL who) f).answers (ofL who) who f.id, 0) := by unfold takeN; rw [if_neg h1, if_neg h2, if_neg h3, if_pos h5]
          exact ⟨hg, h2', by rw [e], hn.1, hn.2.1, hn.2.2, Or.inr ⟨h5, e⟩⟩
        · left
          have e : takeN s who f = (s, [], 3) := by unfold takeN; rw [if_neg h1, if_neg h2, if_neg h3, if_neg h5]
          rw [e]
          exact ⟨(show (3 : Int) ≠ 0 by decide), rfl, rfl⟩

end Go.Proofs.Ytgdkjjmnoikhdab

namespace Go.Proofs.Ytgdkjjmnoikhdab
open Go.RowKit

/-- All but block c is as it was. -/
structure Beside (c : Nat) (w w' : World) : Prop where
  os : w'.os = w.os
  tape : w'.tape = w.tape
  output : w'.output = w.output
  size : w'.heap.size = w.heap.size
  block : ∀ k, k ≠ c → w'.heap[k]? = w.heap[k]?

theorem Beside.refl (c : Nat) (w : World) : Beside c w w := ⟨rfl, rfl, rfl, rfl, fun _ _ => rfl⟩
theorem Beside.trans {c : Nat} {a b d : World} (h : Beside c a b) (k : Beside c b d) : Beside c a d :=
  ⟨k.os.trans h.os, k.tape.trans h.tape, k.output.trans h.output, k.size.trans h.size, fun i hi => (k.block i hi).trans (h.block i hi)⟩
theorem Beside.setCell {c : Nat} {a w : World} (h : Beside c a w) (o : Nat) (u : Value) : Beside c a (w.setCell ⟨c, o, none⟩ u) :=
  h.trans ⟨rfl, rfl, rfl, by simp [World.setCell], fun k hk => Below.heap_setCell _ _ _ _ hk⟩
theorem Beside.grown {c : Nat} {w w' : World} (h : Beside c w w') : w.grownBy w' (some c) := ⟨h.os, h.tape, h.output, by rw [h.size]; exact Nat.le_refl _, fun k _ hk => h.block k (by intro e; exact hk (by rw [e]))⟩

def str (l : List UInt8) : ByteArray := ⟨l.toArray⟩
theorem str_size (l : List UInt8) : (str l).size = l.length := by show l.toArray.size = _; simp
theorem str_data (l : List UInt8) : (str l).data.toList = l := rfl
theorem str_empty (l : List UInt8) : (str l).toList.isEmpty = l.isEmpty := by
  rw [show (str l).toList = l from by rw [Lib.toList_data]; rfl]
theorem str_cut (c : UInt8) (t : List UInt8) : (str (c :: t)).extract 1 (t.length + 1) = str t := by
  apply ByteArray.ext
  apply Array.toList_inj.1
  rw [Lib.extract_data]
  simp [str]
theorem wrap_byte (c : UInt8) : wrap64 (c.toNat : Int) = (c.toNat : Int) := by
  have := c.toNat_lt
  unfold wrap64
  omega

/-- A reader at block c. -/
def RdAt (w : World) (c : Nat) (r : Rd) : Prop := ∃ t, w.heap[c]? = some (.cells #[.string (str r.rest), .bool r.short] t (0, 0))
theorem RdAt.rest {w : World} {c : Nat} {r : Rd} (h : RdAt w c r) : w.cell? ⟨c, 0, none⟩ = some (.string (str r.rest)) := by
  obtain ⟨t, h⟩ := h
  rw [cell_of_row w c 0 _ t _ h]
  rfl
theorem RdAt.short {w : World} {c : Nat} {r : Rd} (h : RdAt w c r) : w.cell? ⟨c, 1, none⟩ = some (.bool r.short) := by
  obtain ⟨t, h⟩ := h
  rw [cell_of_row w c 1 _ t _ h]
  rfl
theorem RdAt.frozen {w : World} {c : Nat} {r : Rd} (h : RdAt w c r) (i : Nat) : w.frozen? ⟨c, i, none⟩ = false := by
  obtain ⟨t, h⟩ := h
  exact frozen_of_row w c i _ t h
theorem RdAt.putShort {w : World} {c : Nat} {r : Rd} (h : RdAt w c r) (b : Bool) : RdAt (w.setCell ⟨c, 1, none⟩ (.bool b)) c ⟨r.rest, b⟩ := by
  obtain ⟨t, h⟩ := h
  exact ⟨t, by rw [heap_setCell_same w c 1 _ t _ h]; rfl⟩
theorem RdAt.putRest {w : World} {c : Nat} {r : Rd} (h : RdAt w c r) (l : List UInt8) : RdAt (w.setCell ⟨c, 0, none⟩ (.string (str l))) c ⟨l, r.short⟩ := by
  obtain ⟨t, h⟩ := h
  exact ⟨t, by rw [heap_setCell_same w c 0 _ t _ h]; rfl⟩

set_option maxRecDepth 100000 in
set_option maxHeartbeats 400000 in
theorem small_any (c : Nat) (r : Rd) (w : World) (hr : RdAt w c r) :
    Calls Try.prog 101 #[.pointer (some ⟨c, 0, none⟩)] w fun e w' => e = .returned (.int .i64 r.one) ∧ RdAt w' c r.next ∧ Beside c w w' := by
  obtain ⟨l, b⟩ := r
  have c0 := hr.rest
  have f0 := hr.frozen 0
  have f1 := hr.frozen 1
  have c1 := hr.short
  cases l with
  | nil =>
    have H : Hid (RdAt w c ⟨[], b⟩) := hr
    have e0 := str_empty []
    clear hr
    go_enter Try.func101, Try.ntmps101
    go_wp2
    go_ret
    exact ⟨rfl, H.out.putShort true, (Beside.refl _ _).setCell _ _⟩
  | cons x t =>
    have H : Hid (RdAt w c ⟨x :: t, b⟩) := hr
    have e0 := str_empty (x :: t)
    have e1 := str_size (x :: t)
    clear hr
    go_enter Try.func101, Try.ntmps101
    go_wp2
    go_ret
    rw [str_cut]
    exact ⟨ret_int (wrap_byte x), H.out.putRest t, (Beside.refl _ _).setCell _ _⟩

theorem wraps_i64 (n : Int) (h₀ : 0 ≤ n) (h₁ : n < 2 ^ 63) : IntKind.i64.wrap n = n := by rw [IntKind.wrap_i64]; omega
theorem or_byte {n c : Int} (h : 0 ≤ n) (h' : n < 1099511627776) (h0 : 0 ≤ c) (h1 : c < 256) : bits .or .i64 (n * 256) c = n * 256 + c :=
  bits_join .i64 63 (by decide) wraps_i64 8 (n * 256) c (by omega) (by omega) (by omega) h0 (by omega) (by omega)
theorem pow_five : ∀ k : Nat, k < 6 → (256 : Int) ^ k ≤ 1099511627776 := by decide

set_option maxRecDepth 100000 in
set_option maxHeartbeats 400000 in
theorem wide_any (c : Nat) (r : Rd) (w : World) (hr : RdAt w c r) :
    Calls Try.prog 102 #[.pointer (some ⟨c, 0, none⟩)] w fun e w' => e = .returned (.int .i64 r.wide) ∧ RdAt w' c r.next6 ∧ Beside c w w' := by
  go_enter Try.func102, Try.ntmps102
  go_wp2
  go_loopw [3, 4] (fun v i wr => ∃ (k : Nat) (n : Int) (rk : Rd), k ≤ 6 ∧ i = .int .i64 k ∧ v = .int .i64 n ∧ 0 ≤ n ∧ n < 256 ^ k ∧ Hid (Rd.num 6 0 r = Rd.num (6 - k) n rk) ∧ Hid (Rd.after 6 r = Rd.after (6 - k) rk) ∧ RdAt wr c rk ∧ Beside c w wr) (fun _ i _ => 6 - (intOf i).toNat)
  case atStart => exact ⟨0, 0, r, by omega, rfl, rfl, by omega, by omega, rfl, rfl, hr, Beside.refl _ _⟩
  case round =>
    obtain ⟨k, n, rk, hk, rfl, rfl, hn0, hn1, H1, H2, hrk, hB⟩ := hrel
    by_cases hlt : k < 6
    · have hp := pow_five k hlt
      go_wp2_with fail
      refine (small_any c rk wr hrk).mono ?_
      rintro e w1 ⟨rfl, hr1, hb1⟩
      go_wp2
      go_roundw
      case rel =>
        rw [or_byte hn0 (by omega) rk.one_lo rk.one_hi]
        have o1 := rk.one_lo
        have o2 := rk.one_hi
        refine ⟨k + 1, n * 256 + rk.one, rk.next, by omega, by go_num, rfl, by omega, by rw [Int.pow_succ]; omega, ?_, ?_, hr1, hB.trans hb1⟩
        · obtain ⟨j, hj⟩ : ∃ j, 6 - k = j + 1 := ⟨5 - k, by omega⟩
          have hj' : 6 - (k + 1) = j := by omega
          unfold Hid at *
          rw [hj', H1, hj]
          rfl
        · obtain ⟨j, hj⟩ : ∃ j, 6 - k = j + 1 := ⟨5 - k, by omega⟩
          have hj' : 6 - (k + 1) = j := by omega
          unfold Hid at *
          rw [hj', H2, hj]
          rfl
      case measure => simp [intOf]; omega
    · go_wp2
      go_ret
      obtain rfl : k = 6 := by omega
      have e1 : Rd.num 6 0 r = n := H1.out
      have e2 : Rd.after 6 r = rk := H2.out
      refine ⟨ret_int ?_, by unfold Rd.next6; rw [e2]; exact hrk, hB⟩
      unfold Rd.wide wrap64
      rw [e1]
      omega

end Go.Proofs.Ytgdkjjmnoikhdab

namespace Go.Proofs.Ytgdkjjmnoikhdab
open Go.ChangeShapes Go.WideShapes Go.ChangeAt Go.RowKit Go.Deep

theorem own : ownKnob Try.prog.godebug = none := by kernel_rfl
theorem laidOut : laidOutB Try.prog = true := by kernel_rfl
theorem Try.cellsInt : Try.prog.cellsOf 3 = 1 := by kernel_rfl
theorem Try.bytesInt : Try.prog.bytesOf 3 = 8 := by kernel_rfl

def Fits (x : Int) : Prop := (Lit.int .i64 x).wf = true

theorem add_none {b off j : Nat} : (⟨b, off, none⟩ : Addr).add j = ⟨b, off + j, none⟩ := by
  unfold Addr.add
  split
  · subst_vars; simp
  · simp

theorem lt_of_cell {w : World} {a : Addr} {v : Value} (h : w.cell? a = some v) : a.block < w.heap.size := by
  by_cases hq : a.block < w.heap.size
  · exact hq
  · have hn : w.heap[a.block]? = none := Array.getElem?_eq_none (by omega)
    simp [World.cell?, hn] at h

section
variable {H : Type} {enc : TypeId × Value → H} {P : Program} {w : World} {base : Nat} {spare : Nat → Bool} {held : Bool}

/-- A slice of ints that came in. -/
theorem open_intsAt {t e : TypeId} {fuel : Nat} {a : Option Addr} {len cap : Nat} {x : DataW H × List MemPlace} (ht : P.underlying t = some (.slice e)) (he : P.underlying e = some (.int .i64)) (hc : P.cellsOf e = 1)
    (h : DataW.trod enc P w base spare held fuel t [.slice a len cap] = some x) :
    len ≤ maxLen ∧ ∃ zs : List Int, zs.length = len ∧ IntsAt w.heap.size w a zs ∧ (∀ n ∈ zs, Fits n) ∧ (a = none → len = 0 ∧ cap = 0) ∧ len ≤ cap := by
  rcases open_ints ht he hc h with ⟨hcs, _⟩ | ⟨x, l, c, zs, hcs, _, hl, hm, hz, _, hcell, hwz⟩
  · simp at hcs
    obtain ⟨rfl, rfl, rfl⟩ := hcs
    exact ⟨Nat.zero_le _, [], rfl, Or.inl rfl, by simp, fun _ => ⟨rfl, rfl⟩, Nat.le_refl _⟩
  · simp at hcs
    obtain ⟨rfl, rfl, rfl⟩ := hcs
    have hlen : len ≤ zs.length := by rw [hz]; split <;> omega
    refine ⟨by omega, zs.take len, by simp; omega, ?_, fun n hn => hwz n (List.mem_of_mem_take hn), fun h => by simp at h, hl⟩
    by_cases h0 : len = 0
    · left
      simp [h0]
    · right
      obtain ⟨b, off, spot⟩ := x
      have hc0 := hcell 0 (by omega)
      have hs : spot = none := by simpa [Addr.add] using World.cell?_spot hc0
      subst hs
      refine ⟨b, off, rfl, by simpa [Addr.add] using lt_of_cell hc0, fun i hi => ?_⟩
      have hi' : i < len := by simp at hi; omega
      have := hcell i (by omega)
      rw [add_none] at this
      rw [this]
      simp [List.getD, hi']

/-- What a slice that came in reads as: as many elements as its length. -/
theorem slice_datum {t e : TypeId} {fuel : Nat} {a : Option Addr} {len cap : Nat} {d : DataW H} {p : List MemPlace} (ht : P.underlying t = some (.slice e)) (h : DataW.trod enc P w base spare held fuel t [.slice a len cap] = some (d, p)) :
    len = 0 ∨ ∃ elems sp, d = .slice elems sp ∧ elems.length = len := by
  rcases open_slice ht h with ⟨hcs, _⟩ | ⟨x, l, c, m, n, D, Pl, hcs, hb, hl, hm, hmm, hx, _⟩
  · simp at hcs
    exact Or.inl hcs.2.1
  · simp at hcs
    obtain ⟨rfl, rfl, rfl⟩ := hcs
    simp only [Prod.mk.injEq] at hx
    exact Or.inr ⟨_, _, hx.1, by simp⟩

end

end Go.Proofs.Ytgdkjjmnoikhdab

namespace Go.Proofs.Ytgdkjjmnoikhdab
open Go.ChangeShapes Go.WideShapes Go.ChangeAt Go.RowKit Go.Deep

theorem Try.cellsOp : Try.prog.cellsOf 88 = 3 := by kernel_rfl

theorem Try.bytesOp : Try.prog.bytesOf 88 = 24 := by kernel_rfl

def FitsOp (o : OpL) : Prop := Fits o.1 ∧ Fits o.2.1 ∧ Fits o.2.2

section
variable {H : Type} {enc : TypeId × Value → H} {P : Program} {w : World} {base : Nat} {spare : Nat → Bool} {held : Bool}

/-- A slice of operations that came in. -/
theorem open_opsAt {t e f : TypeId} {fuel : Nat} {a : Option Addr} {len cap : Nat} {x : DataW H × List MemPlace} {f0 f1 f2 : Field} (ht : P.underlying t = some (.slice e)) (he : P.underlying e = some (.struct #[f0, f1, f2])) (hf : P.underlying f = some (.int .i64))
    (hc : P.cellsOf e = 3) (hcf : P.cellsOf f = 1) (y0 : f0.type = f) (y1 : f1.type = f) (y2 : f2.type = f) (o0 : f0.offset = 0) (o1 : f1.offset = 1) (o2 : f2.offset = 2)
    (h : DataW.trod enc P w base spare held fuel t [.slice a len cap] = some x) :
    len ≤ maxLen ∧ ∃ zs : List OpL, zs.length = len ∧ OpsAt w a zs ∧ (∀ o ∈ zs, FitsOp o) ∧ (a = none → len = 0 ∧ cap = 0) ∧ len ≤ cap := by
  rcases open_slice ht h with ⟨hcs, _⟩ | ⟨x, l, c, m, n, D, Pl, hcs, hb, hl, hm, hmm, _, hx⟩
  · simp at hcs
    obtain ⟨rfl, rfl, rfl⟩ := hcs
    exact ⟨Nat.zero_le _, [], rfl, Or.inl rfl, by simp, fun _ => ⟨rfl, rfl⟩, Nat.le_refl _⟩
  · simp at hcs
    obtain ⟨rfl, rfl, rfl⟩ := hcs
    have hlm : len ≤ m := by rw [hmm]; split <;> omega
    have each : ∀ i, i < len → ∃ q : OpL, w.cell? (x.add (i * 3)) = some (.int .i64 q.1) ∧ w.cell? (x.add (i * 3 + 1)) = some (.int .i64 q.2.1) ∧ w.cell? (x.add (i * 3 + 2)) = some (.int .i64 q.2.2) ∧ FitsOp q := by
      intro i hi
      obtain ⟨cs', h1, h2⟩ := hx i (by omega)
      rw [hc] at h1
      obtain ⟨_, hlen, hcell⟩ := World.cells?_some h1
      obtain ⟨xs, k, hk, hxy, _, hxl, hfs⟩ := DataW.trod_struct he h2
      match xs, hxl, cs', hlen with
      | [z0, z1, z2], _, [v0, v1, v2], _ =>
        have g0 := hfs 0 f0 rfl
        have g1 := hfs 1 f1 rfl
        have g2 := hfs 2 f2 rfl
        simp [y0, y1, y2, o0, o1, o2, hcf] at g0 g1 g2
        obtain ⟨n0, r0, _, q0⟩ := DataW.trod_int hf g0
        obtain ⟨n1, r1, _, q1⟩ := DataW.trod_int hf g1
        obtain ⟨n2, r2, _, q2⟩ := DataW.trod_int hf g2
        simp at r0 r1 r2
        subst r0 r1 r2
        have e0 := hcell 0 (by omega)
        have e1 := hcell 1 (by omega)
        have e2 := hcell 2 (by omega)
        rw [add_add] at e0 e1 e2
        exact ⟨(n0, n1, n2), by simpa using e0, by simpa using e1, by simpa using e2, q0, q1, q2⟩
    obtain ⟨Q, hQ⟩ := choose_lt each
    refine ⟨by omega, (List.range len).map Q, by simp, ?_, ?_, fun h => by simp at h, hl⟩
    · by_cases h0 : len = 0
      · left
        simp [h0]
      · right
        obtain ⟨b, off, spot⟩ := x
        have hc0 := (hQ 0 (by omega)).1
        have hs : spot = none := by simpa [Addr.add] using World.cell?_spot hc0
        subst hs
        refine ⟨b, off, rfl, by simpa [Addr.add] using lt_of_cell hc0, fun i hi => ?_⟩
        have hi' : i < len := by simpa using hi
        obtain ⟨t0, t1, t2, _⟩ := hQ i hi'
        rw [add_none] at t0 t1 t2
        have hg : ((List.range len).map Q).getD i (0, 0, 0) = Q i := by simp [List.getD, hi']
        rw [hg]
        exact ⟨t0, t1, t2⟩
    · intro o ho
      obtain ⟨i, hi, rfl⟩ := List.mem_map.1 ho
      exact (hQ i (List.mem_range.1 hi)).2.2.2

end

end Go.Proofs.Ytgdkjjmnoikhdab
