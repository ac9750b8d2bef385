/-
  Plain mathematics of the whole, 7: all that holds behind every act, kept by every step; what it says of the whole.
  Plain mathematics of the whole, 8: what all this says: of two in one another's way, of one order, as if one after the other, of time.
  Plain mathematics of the whole, 9: all that is sent is good frames.
  Plain mathematics of a node, more: behind every message nothing that is Committed is ready; so all are Executed once all that they hang on are Committed.
  Plain mathematics of the whole, 14: what more holds behind every act (for: behind everything all are told).
  Plain mathematics of the whole, 15: what more holds behind every act, part 2: who has a transaction.
  The contracts of slices.Clone over ints and over operations.
  Frames in memory: where their lists lie; lists of frames that a call made.
  Loads of whole rows in a walk, guarded or not: to be used as 'with_reducible apply' (so that an operation of another kind is passed by at once).
  A whole row is stored: as Wpl's, its premises in the order in which a walk can show them.
-/
import Derived.Test.YtkoefoccbjhoiacGreatNil7
import Derived.Test.YtkoefoccbjhoiacGreatNil2
import Derived.OwnWalk
import Derived.ArgAppend
import Derived.Lib.SliceRun
namespace Go.Proofs.YtkoefoccbjhoiacGreat
open Go.RowKit

/-- What is known of an operation was known, or it is one of what came. -/
theorem dones_has (sh : Int) : ∀ (l : List (Int × Int)) (c : CaseL) (k : Nat), (c.dones sh l).has k = true → c.has k = true ∨ ∃ p ∈ l, p.1.toNat = k ∧ (c.dones sh l).vals k = p.2
  | [], _, _, h => Or.inl h
  | p :: l, c, k, h => by
    have e : c.dones sh (p :: l) = (CaseL.done1 sh c p).dones sh l := rfl
    rw [e] at h ⊢
    rcases dones_has sh l (CaseL.done1 sh c p) k h with h1 | ⟨q, hq, h1, h2⟩
    · by_cases hc : c.has k = true
      · exact Or.inl hc
      · right
        refine ⟨p, by simp, ?_⟩
        have kv := ((dones_keeps sh l (CaseL.done1 sh c p)).2 k h1).2
        rw [kv]
        unfold CaseL.done1 at h1 ⊢
        split at h1
        · rename_i hp
          rw [if_pos hp]
          have h1 : upd c.has p.1.toNat true k = true := h1
          by_cases ek : k = p.1.toNat
          · refine ⟨ek.symm, ?_⟩
            show upd c.vals p.1.toNat p.2 k = p.2
            rw [ek, upd_same]
          · rw [upd_other _ _ ek] at h1
            exact absurd h1 hc
        · exact absurd h1 hc
    · exact Or.inr ⟨q, by simp [hq], h1, h2⟩
theorem ats_from : ∀ (l : Int) (n : Nat) (zs : List Int), atsFrom l n zs = true → ∀ z ∈ zs, l < z
  | _, _, [], _ => by simp
  | l, n, k :: r, h => by
    unfold atsFrom at h
    simp only [Bool.and_eq_true, decide_eq_true_iff] at h
    intro z hz
    rcases List.mem_cons.1 hz with e | e
    · rw [e]; exact h.1.1
    · have := ats_from k n r h.2 z e
      omega
theorem takeC_has {c : CaseL} {id : Int} {f : FrameL} {k : Nat} (h : (takeC c id f).1.has k = true) : c.has k = true ∨ (f.kind = 5 ∧ ∃ p ∈ f.ats.zip f.vals, p.1.toNat = k ∧ (takeC c id f).1.vals k = p.2) := by
  unfold takeC at *
  split
  · rename_i h1; rw [if_pos h1] at h; exact Or.inl h
  · rename_i h1
    rw [if_neg h1] at h
    split
    · rename_i h2; rw [if_pos h2] at h; exact Or.inl h
    · rename_i h2
      rw [if_neg h2] at h
      split
      · rename_i h3; rw [if_pos h3] at h; exact Or.inl h
      · rename_i h3
        rw [if_neg h3] at h
        split
        · rename_i h4
          rw [if_pos h4] at h
          split at h <;> exact Or.inl h
        · rename_i h4
          rw [if_neg h4] at h
          split
          · rename_i h5; rw [if_pos h5] at h; exact Or.inl h
          · rename_i h5
            rw [if_neg h5] at h
            split
            · rename_i h6; rw [if_pos h6] at h; exact Or.inl h
            · rename_i h6
              rw [if_neg h6] at h
              have hk : f.kind = 5 := by
                have hg : goodL f = 0 := by
                  by_cases e : goodL f = 0
                  · exact e
                  · exact absurd e h2
                unfold goodL at hg
                split at hg
                · exact absurd hg (by decide)
                · rename_i hk
                  omega
              rcases dones_has (ofL f.node) _ c k h with e | e
              · exact Or.inl e
              · exact Or.inr ⟨hk, e⟩

/-- All that holds behind every act. -/
structure InvT (S : Sys) : Prop where
  s : InvS S
  sort : ∀ n, n < 6 → SortN (S.B n)
  val : ∀ n : Nat, n < 6 → ValN (ofL (n : Int)) (S.B n)
  state : ∀ n, n < 6 → ∀ j, 0 ≤ ((S.B n).ent j).state
  case : ∀ i, i < 32 → (S.C i).begun = true → ResInv (S.C i).ops (S.C i)
  zero : ∀ i, i < 32 → (S.C i).begun = false → S.C i = zeroC
  has : ∀ i, i < 32 → ∀ k, (S.C i).has k = true → ∃ m, m < 6 ∧ ((S.B m).ent i).state = 3 ∧ ((k : Int), (S.C i).vals k) ∈ ((S.B m).ent i).ats.zip ((S.B m).ent i).vals
theorem InvT.node {S : Sys} (h : InvT S) {f : FrameL} (hM : S.M f) (hk : f.kind = 1 ∨ f.kind = 3) (h0 : (takeN (S.B f.node.toNat) f.node f).2.2 = 0) :
    InvT ⟨upd S.B f.node.toNat (takeN (S.B f.node.toNat) f.node f).1, S.C, fun g => S.M g ∨ g ∈ (takeN (S.B f.node.toNat) f.node f).2.1⟩ := by
  obtain ⟨hr1, hr2⟩ := h.s.rng f hM
  have hn6 : f.node.toNat < 6 := by omega
  have hnat : (f.node.toNat : Int) = f.node := by omega
  have K := take_keeps (S.B f.node.toNat) f.node f (h.state _ hn6)
  refine ⟨h.s.node hM hk h0, fun n hn => ?_, fun n hn => ?_, fun n hn j => ?_, h.case, h.zero, fun i hi k hh => ?_⟩
  · show SortN (upd S.B f.node.toNat _ n)
    by_cases e : n = f.node.toNat
    · rw [e, upd_same]; exact take_sort (h.sort _ hn6)
    · rw [upd_other _ _ e]; exact h.sort n hn
  · show ValN (ofL (n : Int)) (upd S.B f.node.toNat _ n)
    by_cases e : n = f.node.toNat
    · rw [e, upd_same, hnat]
      have := h.val _ hn6
      rw [hnat] at this
      exact val_take this
    · rw [upd_other _ _ e]; exact h.val n hn
  · show 0 ≤ ((upd S.B f.node.toNat _ n).ent j).state
    by_cases e : n = f.node.toNat
    · rw [e, upd_same]
      exact Int.le_trans (h.state _ hn6 j) (K.state j)
    · rw [upd_other _ _ e]; exact h.state n hn j
  · obtain ⟨m, hm, h3, hz⟩ := h.has i hi k hh
    refine ⟨m, hm, ?_⟩
    show ((upd S.B f.node.toNat (takeN (S.B f.node.toNat) f.node f).1 m).ent i).state = 3 ∧ _ ∈ ((upd S.B f.node.toNat (takeN (S.B f.node.toNat) f.node f).1 m).ent i).ats.zip ((upd S.B f.node.toNat (takeN (S.B f.node.toNat) f.node f).1 m).ent i).vals
    by_cases e : m = f.node.toNat
    · subst e
      rw [upd_same]
      have same := K.done i h3
      rw [same]
      exact ⟨h3, hz⟩
    · rw [upd_other _ _ e]
      exact ⟨h3, hz⟩
theorem upd_two (C : Nat → CaseL) (i : Nat) (c : CaseL) : ∀ j, (j = i ∧ upd C i c j = c) ∨ (j ≠ i ∧ upd C i c j = C j) := by
  intro j
  by_cases e : j = i
  · exact Or.inl ⟨e, by rw [e, upd_same]⟩
  · exact Or.inr ⟨e, upd_other _ _ e⟩
/-- An answer comes to who has the transaction. -/
theorem InvT.answer {S : Sys} (h : InvT S) {f : FrameL} (hM : S.M f) (h0 : (takeC (S.C f.id.toNat) f.id f).2.2 = 0) :
    InvT ⟨S.B, upd S.C f.id.toNat (takeC (S.C f.id.toNat) f.id f).1, fun g => S.M g ∨ g ∈ (takeC (S.C f.id.toNat) f.id f).2.1⟩ := by
  obtain ⟨hr1, hr2⟩ := h.s.rng f hM
  have hi32 : f.id.toNat < 32 := by omega
  have hn6 : f.node.toNat < 6 := by omega
  obtain ⟨hb, _⟩ := takeC_begun h0
  obtain ⟨rs, kv⟩ := res_step (id := f.id) (f := f) (h.case _ hi32 hb)
  refine ⟨h.s.case hM h0, h.sort, h.val, h.state, fun i hi e => ?_, fun i hi e => ?_, fun i hi k hh => ?_⟩
  · have e : (upd S.C f.id.toNat (takeC (S.C f.id.toNat) f.id f).1 i).begun = true := e
    show ResInv (upd S.C f.id.toNat (takeC (S.C f.id.toNat) f.id f).1 i).ops (upd S.C f.id.toNat (takeC (S.C f.id.toNat) f.id f).1 i)
    rcases upd_two S.C f.id.toNat (takeC (S.C f.id.toNat) f.id f).1 i with ⟨_, e2⟩ | ⟨_, e2⟩
    · rw [e2, rs.eops]; exact rs
    · rw [e2] at e ⊢; exact h.case i hi e
  · have e : (upd S.C f.id.toNat (takeC (S.C f.id.toNat) f.id f).1 i).begun = false := e
    show upd S.C f.id.toNat (takeC (S.C f.id.toNat) f.id f).1 i = zeroC
    rcases upd_two S.C f.id.toNat (takeC (S.C f.id.toNat) f.id f).1 i with ⟨_, e2⟩ | ⟨_, e2⟩
    · rw [e2, rs.begun] at e; cases e
    · rw [e2] at e ⊢; exact h.zero i hi e
  · have hh : (upd S.C f.id.toNat (takeC (S.C f.id.toNat) f.id f).1 i).has k = true := hh
    show ∃ m, m < 6 ∧ ((S.B m).ent i).state = 3 ∧ ((k : Int), (upd S.C f.id.toNat (takeC (S.C f.id.toNat) f.id f).1 i).vals k) ∈ ((S.B m).ent i).ats.zip ((S.B m).ent i).vals
    rcases upd_two S.C f.id.toNat (takeC (S.C f.id.toNat) f.id f).1 i with ⟨e1, e2⟩ | ⟨_, e2⟩
    · rw [e2] at hh ⊢
      clear e2
      subst e1
      rename (takeC (S.C f.id.toNat) f.id f).1.has k = true => hh2
      rcases takeC_has hh2 with e | ⟨hk, p, hp, h1, h2⟩
      · rw [(kv k e).2]
        exact h.has _ hi32 k e
      · obtain ⟨d1, d2, d3⟩ := h.s.don f hM hk
        refine ⟨f.node.toNat, hn6, d1, ?_⟩
        rw [← d2, ← d3, h2]
        have F := (h.s.good _ hn6).fine hi32 (by rw [d1]; decide)
        have hz : p.1 ∈ f.ats := (List.of_mem_zip (a := p.1) (b := p.2) hp).1
        rw [d2] at hz
        have := ats_from _ _ _ F.ats _ hz
        have e : (k : Int) = p.1 := by omega
        rw [e]
        exact hp
    · rw [e2] at hh ⊢; exact h.has i hi k hh
theorem InvT.again {S : Sys} (h : InvT S) {i : Nat} (hi : i < 32) : InvT ⟨S.B, S.C, fun g => S.M g ∨ g ∈ againC (S.C i) (i : Int)⟩ :=
  ⟨h.s.again hi, h.sort, h.val, h.state, h.case, h.zero, h.has⟩
end Go.Proofs.YtkoefoccbjhoiacGreat

namespace Go.Proofs.YtkoefoccbjhoiacGreat
open Go.RowKit

theorem goodOps_keys {zs : List OpL} (h : goodOpsL zs = true) : ∀ o ∈ zs, 0 ≤ o.2.1 ∧ o.2.1 < 8 := by
  intro o ho
  unfold goodOpsL at h
  rw [Bool.and_eq_true] at h
  obtain ⟨i, hi, e⟩ := List.getElem_of_mem ho
  have := List.all_eq_true.1 h.2 i (List.mem_range.2 hi)
  unfold goodAt at this
  rw [Bool.and_eq_true] at this
  have g := this.1
  rw [List.getD_eq_getElem?_getD, List.getElem?_eq_getElem hi, Option.getD_some, e] at g
  unfold goodB at g
  have := of_decide_eq_true g
  exact ⟨this.1, this.2.1⟩
theorem InvT.ops {S : Sys} (h : InvT S) {i : Nat} (hi : i < 32) (hb : (S.C i).begun = true) : goodOpsL (S.C i).ops = true := by
  have g := (h.case i hi hb).good
  rw [good_parts hb, Bool.and_eq_true] at g
  exact g.1
theorem InvT.keys {S : Sys} (h : InvT S) : ∀ y, y < 32 → (S.C y).fixed = true → ∀ o ∈ (S.C y).ops, 0 ≤ o.2.1 :=
  fun y hy fy o ho => (goodOps_keys (h.ops hy (h.s.most y hy fy).1) o ho).1

/-- AS IF ONE AFTER THE OTHER: what was told of an operation is what it comes to. -/
theorem InvT.told {S : Sys} (h : InvT S) {x : Nat} (hx : x < 32) {k : Nat} (hk : (S.C x).has k = true) :
    ∃ pre post, orderAll S.graph 32 = pre ++ x :: post ∧ k < (S.C x).ops.length ∧ (runAll (S.C x).ops (serial (fun y => (S.C y).ops) pre fun _ => 0)).2[k]? = some ((S.C x).vals k) := by
  obtain ⟨m, hm, h3, hz⟩ := h.has x hx k hk
  have hd := (did_iff (h.s.good m hm) hx).2 h3
  obtain ⟨pre, post, e, ha⟩ := h.s.serial_all hm (h.sort m hm) (h.val m hm) h.keys hd
  obtain ⟨p, h1, h2, h4⟩ := ha _ _ hz
  have : p = k := by omega
  subst this
  exact ⟨pre, post, e, h1, h4⟩
/-- Who has a result was executed somewhere. -/
theorem InvT.somewhere {S : Sys} (h : InvT S) {x : Nat} (hx : x < 32) (hb : (S.C x).begun = true) (hr : (resultC (S.C x)).2 = true) : ∃ m, m < 6 ∧ x ∈ (S.B m).did := by
  have hg := h.ops hx hb
  have hp : 0 < (S.C x).ops.length := by
    unfold goodOpsL at hg
    simp at hg
    omega
  obtain ⟨m, hm, h3, _⟩ := h.has x hx 0 ((res_ok (h.case x hx hb) hr).1 0 hp)
  exact ⟨m, hm, (did_iff (h.s.good m hm) hx).2 h3⟩

/-! ### Time -/
theorem Late.node {S : Sys} (h : InvT S) {a b : Nat} (ha : a < 32) (hb : b < 32) (L : Late S a b) {f : FrameL} (hM : S.M f) (hk : f.kind = 1 ∨ f.kind = 3) (h0 : (takeN (S.B f.node.toNat) f.node f).2.2 = 0) (N : FrameL → Prop) :
    Late ⟨upd S.B f.node.toNat (takeN (S.B f.node.toNat) f.node f).1, S.C, N⟩ a b := by
  obtain ⟨hr1, hr2⟩ := h.s.rng f hM
  have hn6 : f.node.toNat < 6 := by omega
  have hnat : (f.node.toNat : Int) = f.node := by omega
  have K := take_keeps (S.B f.node.toNat) f.node f (h.state _ hn6)
  obtain ⟨fb, hne⟩ := L.self hb
  refine L.later h.s ha hb (fun d _ hf => ⟨hf, rfl, rfl⟩) (fun d _ hf => ⟨hf, rfl⟩) (fun n hn h1 => ?_) (fun n hn h1 h2 h3 hc => ?_)
  · show ((upd S.B f.node.toNat _ n).ent a).first = _
    by_cases e : n = f.node.toNat
    · rw [e] at h1 ⊢
      rw [upd_same]
      exact K.first a (by omega)
    · rw [upd_other _ _ e]
  · have h2 : 1 ≤ ((upd S.B f.node.toNat (takeN (S.B f.node.toNat) f.node f).1 n).ent a).state := h2
    show (b : Int) ∈ ((upd S.B f.node.toNat (takeN (S.B f.node.toNat) f.node f).1 n).ent a).first
    by_cases e : n = f.node.toNat
    · rw [e] at h1 h2 h3 hc ⊢
      rw [upd_same] at h2 ⊢
      rw [hnat] at hc
      have ea : a = f.id.toNat := by
        by_cases ea : a = f.id.toNat
        · exact ea
        · have := congrArg (fun c => c.2.2.2.1) (take_core_other (s := S.B f.node.toNat) (who := f.node) (f := f) ea)
          have this : decide (1 ≤ ((takeN (S.B f.node.toNat) f.node f).1.ent a).state) = decide (1 ≤ ((S.B f.node.toNat).ent a).state) := this
          rw [decide_eq_true h2, decide_eq_false (by omega)] at this
          cases this
      have hs0 := h.state _ hn6 a
      have first : ((takeN (S.B f.node.toNat) f.node f).1.ent a).first = (S.B f.node.toNat).ahead a f.ops (ofL f.node) ∧ f.ops = (S.C a).ops := by
        rw [ea] at h1 hs0 ⊢
        rcases hk with hk | hk
        · refine ⟨?_, (h.s.ask f hM hk).2⟩
          rw [take_core_ask h0 hk, if_pos (by omega)]
        · refine ⟨?_, (h.s.com f hM hk).2.1⟩
          have := take_core_com h0 hk
          rw [if_pos (by omega), if_pos (by omega)] at this
          exact congrArg (fun c => c.2.1) this
      rw [first.1, first.2]
      exact mem_ahead.2 ⟨hb, hne, by omega, by rw [(h.s.ent1 _ hn6 b hb h3).2]; exact hc⟩
    · rw [upd_other _ _ e] at h2
      omega
/-- A case becomes another: what is fixed stays. -/
theorem Late.setC {S : Sys} (h : InvT S) {a b : Nat} (ha : a < 32) (hb : b < 32) (L : Late S a b) {i : Nat} (c : CaseL) (hf : (S.C i).fixed = true → c.fixed = true ∧ c.deps = (S.C i).deps ∧ c.told = (S.C i).told) (hg : (S.C i).begun = true → c.begun = true ∧ c.ops = (S.C i).ops) (N : FrameL → Prop) :
    Late ⟨S.B, upd S.C i c, N⟩ a b := by
  refine L.later h.s ha hb (fun d _ e => ?_) (fun d _ e => ?_) (fun n hn h1 => rfl) (fun n hn h1 h2 h3 hc => absurd h2 (by show ¬ 1 ≤ ((S.B n).ent a).state; omega))
  · show (upd S.C i c d).fixed = true ∧ (upd S.C i c d).deps = _ ∧ (upd S.C i c d).told = _
    rcases upd_two S.C i c d with ⟨e1, e2⟩ | ⟨_, e2⟩
    · rw [e2]
      subst e1
      exact hf e
    · rw [e2]
      exact ⟨e, rfl, rfl⟩
  · show (upd S.C i c d).begun = true ∧ (upd S.C i c d).ops = _
    rcases upd_two S.C i c d with ⟨e1, e2⟩ | ⟨_, e2⟩
    · rw [e2]
      subst e1
      exact hg e
    · rw [e2]
      exact ⟨e, rfl⟩
theorem Late.answer {S : Sys} (h : InvT S) {a b : Nat} (ha : a < 32) (hb : b < 32) (L : Late S a b) (f : FrameL) (N : FrameL → Prop) : Late ⟨S.B, upd S.C f.id.toNat (takeC (S.C f.id.toNat) f.id f).1, N⟩ a b := by
  refine L.setC h ha hb _ (fun e => ?_) (fun e => ?_) N
  · rcases takeC_cases (S.C f.id.toNat) f.id f with ⟨_, h1, _⟩ | ⟨_, _, _, hf, _⟩ | ⟨_, _, _, hs, _⟩
    · rw [h1]; exact ⟨e, rfl, rfl⟩
    · rw [hf] at e; cases e
    · exact ⟨by rw [hs.fixed]; exact e, hs.deps, hs.told⟩
  · rcases takeC_cases (S.C f.id.toNat) f.id f with ⟨_, h1, _⟩ | ⟨_, _, _, _, _, _, he, _⟩ | ⟨_, _, _, hs, _⟩
    · rw [h1]; exact ⟨e, rfl⟩
    · rw [he]; exact ⟨e, rfl⟩
    · exact ⟨by rw [hs.begun]; exact e, hs.ops⟩
theorem Late.sent {S : Sys} {a b : Nat} (L : Late S a b) (N : FrameL → Prop) : Late ⟨S.B, S.C, N⟩ a b := ⟨L.fixed, L.begun, L.first⟩
/-- It begins, when another one had been told. -/
theorem InvT.late {S : Sys} (h : InvT S) {a b : Nat} (ha : a < 32) (hb : b < 32) (hz : (S.C a).begun = false) (hbb : (S.C b).begun = true) (hr : (resultC (S.C b)).2 = true) (c : CaseL) (hc : c.begun = true) (N : FrameL → Prop) : Late ⟨S.B, upd S.C a c, N⟩ a b := by
  obtain ⟨m, hm, hd⟩ := h.somewhere hb hbb hr
  exact Late.new h.s ha hz hm (h.sort m hm) hd c hc N

end Go.Proofs.YtkoefoccbjhoiacGreat

namespace Go.Proofs.YtkoefoccbjhoiacGreat
open Go.RowKit

/-- What a node told is within bounds. -/
def WithN (s : NodeL) : Prop := ∀ i, ∀ v ∈ (s.ent i).vals, Within v
theorem run_within (sh : Int) : ∀ (ops : List OpL) (i : Nat) (v : Nat → Int), ∀ w ∈ (runOps sh i ops v).2.2, Within w
  | [], _, _, w, h => by simp [runOps] at h
  | o :: r, i, v, w, h => by
    unfold runOps at h
    split at h
    · rcases List.mem_cons.1 h with e | e
      · rw [e]; exact do_within _ _ _
      · exact run_within sh r (i + 1) _ w e
    · exact run_within sh r (i + 1) _ w h
theorem with_exec {s : NodeL} (h : WithN s) (sh : Int) (n : Nat) : WithN (s.exec sh n) := by
  intro i v hv
  by_cases e : i = n
  · subst e
    have : ((s.exec sh i).ent i).vals = (runOps sh 0 (s.ent i).ops s.vals).2.2 := congrArg EntryL.vals (upd_same _ _ _)
    rw [this] at hv
    exact run_within _ _ _ _ v hv
  · have : (s.exec sh n).ent i = s.ent i := upd_other _ _ e
    rw [this] at hv
    exact h i v hv
theorem with_execs (sh : Int) : ∀ (l : List Nat) {s : NodeL}, WithN s → WithN (s.execs sh l)
  | [], _, h => h
  | a :: l, s, h => by
    have h1 : WithN (NodeL.execIf sh s a) := by
      unfold NodeL.execIf
      split
      · exact with_exec h sh a
      · exact h
    exact with_execs (s := NodeL.execIf sh s a) sh l h1
theorem with_settle {s : NodeL} (h : WithN s) (sh : Int) : WithN (s.settle sh) := by
  have : ∀ (l : List Nat) (t : NodeL), WithN t → WithN (l.foldl (NodeL.round s.graph sh) t) := by
    intro l
    induction l with
    | nil => exact fun t ht => ht
    | cons a l ih =>
      intro t ht
      refine ih _ ?_
      unfold NodeL.round
      split
      · exact with_execs (s := t) sh _ ht
      · exact ht
  exact this _ s h
theorem with_take {s : NodeL} {who : Int} {f : FrameL} (h : WithN s) : WithN (takeN s who f).1 := by
  rcases take_cases s who f with ⟨_, h1, _⟩ | ⟨_, _, _, _, _, _, ⟨_, _, e⟩ | ⟨_, e⟩⟩
  · rw [h1]; exact h
  · rw [e]
    show WithN (s.asked (ofL who) f)
    unfold NodeL.asked
    split
    · intro i v hv
      by_cases ei : i = f.id.toNat
      · rw [ei, heard_same] at hv
        simp at hv
      · rw [heard_other s _ f ei] at hv
        exact h i v hv
    · exact h
  · rw [e]
    show WithN (s.commit (ofL who) f)
    unfold NodeL.commit
    split
    · refine with_settle (fun i v hv => ?_) _
      by_cases ei : i = f.id.toNat
      · rw [ei, placed_same] at hv
        exact h _ v hv
      · have : (s.placed (ofL who) f).ent i = s.ent i := upd_other _ _ ei
        rw [this] at hv
        exact h i v hv
    · exact h

theorem told_good : ∀ (xs vs : List Int) (l : Int) (n : Nat), n ≤ 4 → atsFrom l n xs = true → (∀ v ∈ vs, Within v) → toldFrom l xs vs = true
  | [], _, _, _, _, _, _ => by unfold toldFrom; rfl
  | _ :: _, [], _, _, _, _, _ => by unfold toldFrom; rfl
  | a :: xs, v :: vs, l, n, hn, ha, hv => by
    unfold atsFrom at ha
    simp only [Bool.and_eq_true, decide_eq_true_iff] at ha
    unfold toldFrom
    have hw := hv v (by simp)
    rw [told_good xs vs a n hn ha.2 (fun w h => hv w (by simp [h])), show decide (-1099511627776 ≤ v ∧ v ≤ 1099511627776) = true from decide_eq_true hw]
    have : (decide (a ≤ l) || decide (4 ≤ a)) = false := by
      rw [Bool.or_eq_false_iff]
      exact ⟨decide_eq_false (by omega), decide_eq_false (by omega)⟩
    rw [this]
    rfl
theorem good_len4 {zs : List OpL} (h : goodOpsL zs = true) : zs.length ≤ 4 := (ops_in h).1
/-- What a node answers is good. -/
theorem take_sends_good {s : NodeL} {who : Int} {f : FrameL} (hw : WithN s) : ∀ g ∈ (takeN s who f).2.1, goodL g = 0 ∧ g.kind ≠ 1 ∧ g.kind ≠ 3 := by
  intro g hg
  have hw' := with_take (who := who) (f := f) hw
  have hgood : (takeN s who f).2.2 = 0 → GoodN (takeN s who f).1 := take_good
  rcases take_cases s who f with ⟨_, _, h1⟩ | ⟨_, hf, h0, hn, w0, w5, ⟨_, _, e⟩ | ⟨_, e⟩⟩
  · rw [h1] at hg; simp at hg
  · have G := hgood h0
    obtain ⟨i1, i2, _⟩ := frame_has hf
    rw [e] at hg G
    have hg : g ∈ [(⟨2, who, f.id, [], ((s.asked (ofL who) f).ent f.id.toNat).first, [], []⟩ : FrameL)] := hg
    rw [List.mem_singleton] at hg
    subst hg
    have G : GoodN (s.asked (ofL who) f) := G
    have hfi : risingFrom (-1) ((s.asked (ofL who) f).ent f.id.toNat).first = true ∧ hasL ((s.asked (ofL who) f).ent f.id.toNat).first f.id = false := by
      rcases G.ent f.id.toNat (by omega) with e | F
      · rw [e]; exact ⟨rfl, rfl⟩
      · have := F.first
        rw [show ((f.id.toNat : Nat) : Int) = f.id by omega] at this
        exact this
    refine ⟨?_, (show (2 : Int) ≠ 1 by decide), (show (2 : Int) ≠ 3 by decide)⟩
    unfold goodL goodOpsF goodDepsF goodToldF
    simp only [hfi.1, hfi.2]
    rw [if_neg (by decide), if_neg (by omega)]
    rfl
  · have G := hgood h0
    obtain ⟨i1, i2, _⟩ := frame_has hf
    rw [e] at hg G hw'
    have hg : g ∈ (s.commit (ofL who) f).answers (ofL who) who f.id := hg
    have G : GoodN (s.commit (ofL who) f) := G
    have hw' : WithN (s.commit (ofL who) f) := hw'
    unfold NodeL.answers at hg
    rcases List.mem_cons.1 hg with hg | hg
    · subst hg
      refine ⟨?_, (show (4 : Int) ≠ 1 by decide), (show (4 : Int) ≠ 3 by decide)⟩
      unfold goodL goodOpsF goodDepsF goodToldF
      simp only
      rw [if_neg (by decide), if_neg (by omega)]
      rfl
    · split at hg
      · rename_i h3
        rw [List.mem_singleton] at hg
        subst hg
        refine ⟨?_, (show (5 : Int) ≠ 1 by decide), (show (5 : Int) ≠ 3 by decide)⟩
        have F := G.fine (n := f.id.toNat) (by omega) (by rw [h3.1]; decide)
        have t := told_good _ ((s.commit (ofL who) f).ent f.id.toNat).vals (-1) _ (good_len4 F.ops) F.ats (hw' _)
        unfold goodL goodOpsF goodDepsF goodToldF
        simp only [t, F.vals]
        rw [if_neg (by decide), if_neg (by omega)]
        simp
      · simp at hg
/-- What who has a transaction sends is good. -/
theorem again_good {c : CaseL} {id : Int} {g : FrameL} (h : g ∈ againC c id) : goodL g = 0 := by
  obtain ⟨hb, hid, hn, eid, eops, _⟩ := mem_again h
  unfold againC at h
  split at h
  · simp at h
  · rename_i hno
    have hg : goodCB c = true := by
      cases e : goodCB c
      · exact absurd (Or.inl e) hno
      · rfl
    have hd : hasL c.deps id = false := by
      cases e : hasL c.deps id
      · rfl
      · exact absurd (Or.inr (Or.inr (Or.inr (Or.inr e)))) hno
    rw [good_parts hb, Bool.and_eq_true] at hg
    obtain ⟨n, hn6, hg1⟩ := List.mem_flatMap.1 h
    have hn6 := List.mem_range.1 hn6
    unfold CaseL.send at hg1
    split at hg1
    · split at hg1
      · rw [List.mem_singleton] at hg1
        subst hg1
        unfold goodL goodOpsF goodDepsF goodToldF
        simp only [hg.1, hg.2, hd]
        rw [if_neg (by decide), if_neg (by omega)]
        rfl
      · simp at hg1
    · split at hg1
      · rw [List.mem_singleton] at hg1
        subst hg1
        unfold goodL goodOpsF goodDepsF goodToldF
        simp only [hg.1]
        rw [if_neg (by decide), if_neg (by omega)]
        rfl
      · simp at hg1

end Go.Proofs.YtkoefoccbjhoiacGreat

namespace Go.Proofs.YtkoefoccbjhoiacGreat
open Go.RowKit

/-- Nothing that is Committed is ready. -/
def SettledN (s : NodeL) : Prop := ∀ i, i < 32 → (s.ent i).state = 2 → readyI s.graph (i : Int) = false
theorem execIf_graph (s : NodeL) (sh : Int) (n : Nat) : (NodeL.execIf sh s n).graph = s.graph := by
  unfold NodeL.execIf
  split
  · rename_i h; exact graph_exec s sh n h
  · rfl
theorem execs_graph (sh : Int) : ∀ (l : List Nat) (s : NodeL), (s.execs sh l).graph = s.graph
  | [], _ => rfl
  | a :: l, s => (execs_graph sh l (NodeL.execIf sh s a)).trans (execIf_graph s sh a)
theorem execIf_two {s : NodeL} {sh : Int} {n i : Nat} (h : ((NodeL.execIf sh s n).ent i).state = 2) : (s.ent i).state = 2 ∧ i ≠ n := by
  unfold NodeL.execIf at h
  split at h
  · rename_i e
    by_cases ei : i = n
    · subst ei
      have : ((s.exec sh i).ent i).state = 3 := congrArg EntryL.state (upd_same _ _ _)
      rw [this] at h
      exact absurd h (by decide)
    · have : (s.exec sh n).ent i = s.ent i := upd_other _ _ ei
      rw [this] at h
      exact ⟨h, ei⟩
  · rename_i e
    exact ⟨h, fun k => e (k ▸ h)⟩
theorem execs_two (sh : Int) : ∀ (l : List Nat) {s : NodeL} {i : Nat}, ((s.execs sh l).ent i).state = 2 → (s.ent i).state = 2 ∧ i ∉ l
  | [], _, _, h => ⟨h, by simp⟩
  | a :: l, s, i, h => by
    obtain ⟨h1, h2⟩ := execs_two sh l (s := NodeL.execIf sh s a) h
    obtain ⟨h3, h4⟩ := execIf_two h1
    exact ⟨h3, by simp [h2, h4]⟩
theorem round_graph (g : GraphL) (sh : Int) (t : NodeL) (n : Nat) : (NodeL.round g sh t n).graph = t.graph := by
  unfold NodeL.round
  split
  · exact execs_graph sh _ t
  · rfl
theorem round_two {g : GraphL} {sh : Int} {t : NodeL} {n i : Nat} (h : ((NodeL.round g sh t n).ent i).state = 2) : (t.ent i).state = 2 := by
  unfold NodeL.round at h
  split at h
  · exact (execs_two sh _ h).1
  · exact h
theorem order_self {g : GraphL} {n : Nat} (hn : n < 32) (hr : readyI g (n : Int) = true) : n ∈ orderI g (n : Int) := by
  rw [orderI_spec hn, if_pos hr]
  exact (outS_all (clo_hang g hn) n).2 ((hangB_iff g hn n).2 (.refl n))
theorem round_self {g : GraphL} {sh : Int} {t : NodeL} {n : Nat} (hn : n < 32) (hr : readyI g (n : Int) = true) : ((NodeL.round g sh t n).ent n).state ≠ 2 := by
  intro h
  have h2 := round_two h
  unfold NodeL.round at h
  rw [if_pos h2] at h
  exact (execs_two sh _ h).2 (order_self hn hr)
theorem settle_ready (s : NodeL) (sh : Int) : SettledN (s.settle sh) ∧ (s.settle sh).graph = s.graph := by
  have : ∀ k, k ≤ 32 → (∀ i, i < k → (((List.range k).foldl (NodeL.round s.graph sh) s).ent i).state = 2 → readyI s.graph (i : Int) = false) ∧ ((List.range k).foldl (NodeL.round s.graph sh) s).graph = s.graph := by
    intro k
    induction k with
    | zero => exact fun _ => ⟨fun i hi => absurd hi (Nat.not_lt_zero i), rfl⟩
    | succ k ih =>
      intro hk
      obtain ⟨i1, i2⟩ := ih (by omega)
      rw [List.range_succ, List.foldl_append]
      refine ⟨fun i hi h => ?_, ?_⟩
      · have h : ((NodeL.round s.graph sh ((List.range k).foldl (NodeL.round s.graph sh) s) k).ent i).state = 2 := h
        by_cases e : i < k
        · exact i1 i e (round_two h)
        · obtain rfl : i = k := by omega
          cases hr : readyI s.graph (i : Int)
          · rfl
          · exact absurd h (round_self (by omega) hr)
      · exact (round_graph s.graph sh _ k).trans i2
  obtain ⟨h1, h2⟩ := this 32 (Nat.le_refl _)
  refine ⟨fun i hi h => ?_, h2⟩
  have e : (s.settle sh).graph = s.graph := h2
  rw [e]
  exact h1 i hi h
theorem settled_take {s : NodeL} {who : Int} {f : FrameL} (h : SettledN s) : SettledN (takeN s who f).1 := by
  rcases take_cases s who f with ⟨_, h1, _⟩ | ⟨hg, hf, _, _, _, _, ⟨hk, _, e⟩ | ⟨hk, e⟩⟩
  · rw [h1]; exact h
  · rw [e]
    show SettledN (s.asked (ofL who) f)
    intro i hi h2
    rw [graph_asked hg (ofL who) hf]
    refine h i hi ?_
    unfold NodeL.asked at h2
    split at h2
    · by_cases ei : i = f.id.toNat
      · rw [ei, heard_same] at h2
        exact absurd h2 (show (1 : Int) ≠ 2 by decide)
      · rw [heard_other s _ f ei] at h2
        exact h2
    · exact h2
  · rw [e]
    show SettledN (s.commit (ofL who) f)
    unfold NodeL.commit
    split
    · exact (settle_ready _ _).1
    · exact h
/-- Who is Committed, with all that it hangs on, is Executed. -/
theorem SettledN.done {s : NodeL} (h : SettledN s) (hg : GoodN s) {i : Nat} (hi : i < 32) (hc : ∀ d, d < 32 → hangB s.graph i d = true → 2 ≤ (s.ent d).state) : (s.ent i).state = 3 := by
  have h2 := hc i hi ((hangB_iff _ hi i).2 (.refl i))
  have h3 := (hg.state hi).2
  by_cases e : (s.ent i).state = 2
  · have := h i hi e
    rw [(ready_iff hi).2 fun d hd hid => by simpa [NodeL.graph] using hc d hd hid] at this
    cases this
  · omega

end Go.Proofs.YtkoefoccbjhoiacGreat

namespace Go.Proofs.YtkoefoccbjhoiacGreat
open Go.RowKit

/-- The system when a node has taken a frame. -/
def Sys.took (S : Sys) (f : FrameL) : Sys := ⟨upd S.B f.node.toNat (takeN (S.B f.node.toNat) f.node f).1, S.C, fun g => S.M g ∨ g ∈ (takeN (S.B f.node.toNat) f.node f).2.1⟩
structure InvU (S : Sys) : Prop where
  own : ∀ i : Nat, i < 32 → hasL (S.C i).deps (i : Int) = false
  most : ∀ i, i < 32 → (S.C i).begun = true → (S.C i).fixed = false → mostB (S.C i).ops (S.C i).told = false
  kn : ∀ f, S.M f → f.kind = 4 → 2 ≤ ((S.B f.node.toNat).ent f.id.toNat).state
  known : ∀ i, i < 32 → ∀ k, k < 6 → (S.C i).known k = true → 2 ≤ ((S.B k).ent i).state
  settled : ∀ n, n < 6 → SettledN (S.B n)
  ask : ∀ f, S.M f → f.kind = 1 → touchesL f.ops (ofL f.node) = true
  first : ∀ n, n < 6 → ∀ i, i < 32 → ∀ d : Nat, (d : Int) ∈ ((S.B n).ent i).first → (S.C d).begun = true
  deps : ∀ i, i < 32 → ∀ d : Nat, (d : Int) ∈ (S.C i).deps → (S.C d).begun = true
theorem take_state {s : NodeL} {who : Int} {f : FrameL} (h0 : ∀ n, 0 ≤ (s.ent n).state) (i : Nat) : (s.ent i).state ≤ ((takeN s who f).1.ent i).state := (take_keeps s who f h0).state i
theorem InvU.node {S : Sys} (h : InvT S) (u : InvU S) {f : FrameL} (hM : S.M f) (hk : f.kind = 1 ∨ f.kind = 3) (h0 : (takeN (S.B f.node.toNat) f.node f).2.2 = 0) : InvU (S.took f) := by
  obtain ⟨hr1, hr2⟩ := h.s.rng f hM
  have hn6 : f.node.toNat < 6 := by omega
  have hnat : (f.node.toNat : Int) = f.node := by omega
  have st : ∀ n, n < 6 → ∀ i, ((S.B n).ent i).state ≤ (((S.took f).B n).ent i).state := fun n hn i => by
    show _ ≤ ((upd S.B f.node.toNat (takeN (S.B f.node.toNat) f.node f).1 n).ent i).state
    by_cases e : n = f.node.toNat
    · subst e
      rw [upd_same]; exact take_state (h.state _ hn6) i
    · rw [upd_other _ _ e]; exact Int.le_refl _
  have K := take_keeps (S.B f.node.toNat) f.node f (h.state _ hn6)
  refine ⟨u.own, u.most, fun g hg hg4 => ?_, fun i hi k hk6 hkn => Int.le_trans (u.known i hi k hk6 hkn) (st k hk6 i), fun n hn => ?_, fun g hg hg1 => ?_, fun n hn i hi d hd => ?_, u.deps⟩
  · rcases hg with hg | hg
    · obtain ⟨q1, q2⟩ := h.s.rng g hg
      exact Int.le_trans (u.kn g hg hg4) (st _ (by omega) _)
    · rcases take_cases (S.B f.node.toNat) f.node f with ⟨hh, _⟩ | ⟨_, hf, _, _, _, _, ⟨_, _, e⟩ | ⟨hk3, e⟩⟩
      · exact absurd h0 hh
      · rw [e] at hg
        have hg : g ∈ [(⟨2, f.node, f.id, [], _, [], []⟩ : FrameL)] := hg
        rw [List.mem_singleton] at hg
        rw [hg] at hg4
        exact absurd hg4 (show (2 : Int) ≠ 4 by decide)
      · have hgg : g.node = f.node ∧ g.id = f.id := by
          rw [e] at hg
          have hg : g ∈ ((S.B f.node.toNat).commit (ofL f.node) f).answers (ofL f.node) f.node f.id := hg
          unfold NodeL.answers at hg
          rcases List.mem_cons.1 hg with hg | hg
          · rw [hg]; exact ⟨rfl, rfl⟩
          · split at hg
            · rw [List.mem_singleton] at hg
              rw [hg]; exact ⟨rfl, rfl⟩
            · simp at hg
        rw [hgg.1, hgg.2]
        show 2 ≤ ((upd S.B f.node.toNat (takeN (S.B f.node.toNat) f.node f).1 f.node.toNat).ent f.id.toNat).state
        rw [upd_same]
        have := congrArg (fun c => c.2.2.2.2) (take_core_com h0 hk3)
        have this : decide (2 ≤ ((takeN (S.B f.node.toNat) f.node f).1.ent f.id.toNat).state) = _ := this
        by_cases hlt : ((S.B f.node.toNat).ent f.id.toNat).state < 2
        · rw [if_pos hlt] at this
          exact of_decide_eq_true this
        · exact Int.le_trans (by omega) (K.state f.id.toNat)
  · show SettledN (upd S.B f.node.toNat _ n)
    by_cases e : n = f.node.toNat
    · rw [e, upd_same]; exact settled_take (u.settled _ hn6)
    · rw [upd_other _ _ e]; exact u.settled n hn
  · rcases hg with hg | hg
    · exact u.ask g hg hg1
    · rcases take_cases (S.B f.node.toNat) f.node f with ⟨hh, _⟩ | ⟨_, hf, _, _, _, _, ⟨_, _, e⟩ | ⟨hk3, e⟩⟩
      · exact absurd h0 hh
      · rw [e] at hg
        have hg : g ∈ [(⟨2, f.node, f.id, [], _, [], []⟩ : FrameL)] := hg
        rw [List.mem_singleton] at hg
        rw [hg] at hg1
        exact absurd hg1 (show (2 : Int) ≠ 1 by decide)
      · rw [e] at hg
        have hg : g ∈ ((S.B f.node.toNat).commit (ofL f.node) f).answers (ofL f.node) f.node f.id := hg
        unfold NodeL.answers at hg
        rcases List.mem_cons.1 hg with hg | hg
        · rw [hg] at hg1
          exact absurd hg1 (show (4 : Int) ≠ 1 by decide)
        · split at hg
          · rw [List.mem_singleton] at hg
            rw [hg] at hg1
            exact absurd hg1 (show (5 : Int) ≠ 1 by decide)
          · simp at hg
  · have hd : (d : Int) ∈ ((upd S.B f.node.toNat (takeN (S.B f.node.toNat) f.node f).1 n).ent i).first := hd
    show (S.C d).begun = true
    by_cases e : n = f.node.toNat
    · rw [e, upd_same] at hd
      have old : (d : Int) ∈ ((S.B f.node.toNat).ent i).first → (S.C d).begun = true := fun h1 => u.first _ hn6 i hi d h1
      have new : ∀ ops sh, (d : Int) ∈ (S.B f.node.toNat).ahead i ops sh → (S.C d).begun = true := fun ops sh h1 => by
        obtain ⟨d32, _, ds, _⟩ := mem_ahead.1 h1
        exact (h.s.ent1 _ hn6 d d32 (by omega)).1
      by_cases ei : i = f.id.toNat
      · subst ei
        rcases hk with hk | hk
        · rw [take_core_ask h0 hk] at hd
          split at hd
          · exact new _ _ hd
          · exact old hd
        · have := congrArg (fun c => c.2.1) (take_core_com h0 hk)
          have this : ((takeN (S.B f.node.toNat) f.node f).1.ent f.id.toNat).first = _ := this
          rw [this] at hd
          split at hd
          · have hd : (d : Int) ∈ (if ((S.B f.node.toNat).ent f.id.toNat).state = 0 then (S.B f.node.toNat).ahead f.id.toNat f.ops (ofL f.node) else ((S.B f.node.toNat).ent f.id.toNat).first) := hd
            split at hd
            · exact new _ _ hd
            · exact old hd
          · exact old hd
      · have := congrArg (fun c => c.2.1) (take_core_other (s := S.B f.node.toNat) (who := f.node) (f := f) ei)
        have this : ((takeN (S.B f.node.toNat) f.node f).1.ent i).first = ((S.B f.node.toNat).ent i).first := this
        rw [this] at hd
        exact old hd
    · rw [upd_other _ _ e] at hd
      exact u.first n hn i hi d hd

end Go.Proofs.YtkoefoccbjhoiacGreat

namespace Go.Proofs.YtkoefoccbjhoiacGreat
open Go.RowKit

theorem dones_known (sh : Int) : ∀ (l : List (Int × Int)) (c : CaseL), (c.dones sh l).known = c.known
  | [], _ => rfl
  | p :: l, c => by
    show ((CaseL.done1 sh c p).dones sh l).known = c.known
    rw [dones_known sh l]
    unfold CaseL.done1
    split <;> rfl
theorem takeC_known {c : CaseL} {id : Int} {f : FrameL} {k : Nat} (h : (takeC c id f).1.known k = true) : c.known k = true ∨ (f.kind = 4 ∧ k = f.node.toNat) := by
  unfold takeC at h
  split at h
  · exact Or.inl h
  · split at h
    · exact Or.inl h
    · split at h
      · exact Or.inl h
      · split at h
        · split at h <;> exact Or.inl h
        · split at h
          · exact Or.inl h
          · split at h
            · rename_i h4
              have h : upd c.known f.node.toNat true k = true := h
              by_cases e : k = f.node.toNat
              · exact Or.inr ⟨h4, e⟩
              · rw [upd_other _ _ e] at h; exact Or.inl h
            · have h : (c.dones (ofL f.node) (f.ats.zip f.vals)).known k = true := h
              rw [dones_known] at h
              exact Or.inl h
theorem again_touches {c : CaseL} {id : Int} {g : FrameL} (h : g ∈ againC c id) : (g.kind = 1 → touchesL g.ops (ofL g.node) = true) ∧ g.kind ≠ 4 := by
  unfold againC at h
  split at h
  · simp at h
  · obtain ⟨n, _, hg⟩ := List.mem_flatMap.1 h
    unfold CaseL.send at hg
    split at hg
    · split at hg
      · rw [List.mem_singleton] at hg
        rw [hg]
        exact ⟨fun e => absurd e (show (3 : Int) ≠ 1 by decide), (show (3 : Int) ≠ 4 by decide)⟩
      · simp at hg
    · split at hg
      · rename_i ht
        rw [List.mem_singleton] at hg
        rw [hg]
        rw [Bool.and_eq_true] at ht
        exact ⟨fun _ => ht.1, (show (1 : Int) ≠ 4 by decide)⟩
      · simp at hg
theorem takeC_begun_same (c : CaseL) (id : Int) (f : FrameL) : (takeC c id f).1.begun = c.begun := by
  rcases takeC_cases c id f with ⟨_, h1, _⟩ | ⟨_, _, _, _, _, _, he, _⟩ | ⟨_, _, _, hs, _⟩
  · rw [h1]
  · rw [he]; rfl
  · exact hs.begun
theorem hasL_mem {zs : List Int} {n : Int} : hasL zs n = true ↔ n ∈ zs := by
  unfold hasL eqB
  simp
theorem InvU.answer {S : Sys} (h : InvT S) (u : InvU S) {f : FrameL} (hM : S.M f) (h0 : (takeC (S.C f.id.toNat) f.id f).2.2 = 0) :
    InvU ⟨S.B, upd S.C f.id.toNat (takeC (S.C f.id.toNat) f.id f).1, fun g => S.M g ∨ g ∈ (takeC (S.C f.id.toNat) f.id f).2.1⟩ := by
  obtain ⟨hr1, hr2⟩ := h.s.rng f hM
  have hi32 : f.id.toNat < 32 := by omega
  have hn6 : f.node.toNat < 6 := by omega
  have hnat : (f.id.toNat : Int) = f.id := by omega
  have beg : ∀ d, (upd S.C f.id.toNat (takeC (S.C f.id.toNat) f.id f).1 d).begun = (S.C d).begun := fun d => by
    rcases upd_two S.C f.id.toNat (takeC (S.C f.id.toNat) f.id f).1 d with ⟨e1, e2⟩ | ⟨_, e2⟩
    · rw [e2, takeC_begun_same, e1]
    · rw [e2]
  have D : ∀ d : Nat, (d : Int) ∈ (takeC (S.C f.id.toNat) f.id f).1.deps → (S.C d).begun = true := by
    intro d hd
    rcases takeC_cases (S.C f.id.toNat) f.id f with ⟨h1, _⟩ | ⟨_, _, hk, _, _, _, he, _⟩ | ⟨_, _, _, hs, _⟩
    · exact absurd h0 h1
    · rw [he] at hd
      have hd : (d : Int) ∈ joinL (S.C f.id.toNat).deps f.deps := hd
      rcases (mem_join.1 hd).2 with e | e
      · exact u.deps _ hi32 d e
      · rw [(h.s.tel f hM hk).2] at e
        exact u.first _ hn6 _ hi32 d e
    · rw [hs.deps] at hd
      exact u.deps _ hi32 d hd
  have O : hasL (takeC (S.C f.id.toNat) f.id f).1.deps (f.id.toNat : Int) = false := by
    have old := u.own _ hi32
    rcases takeC_cases (S.C f.id.toNat) f.id f with ⟨h1, _⟩ | ⟨_, hg, hk, _, _, _, he, _⟩ | ⟨_, _, _, hs, _⟩
    · exact absurd h0 h1
    · rw [he]
      show hasL (joinL (S.C f.id.toNat).deps f.deps) (f.id.toNat : Int) = false
      cases e : hasL (joinL (S.C f.id.toNat).deps f.deps) (f.id.toNat : Int)
      · rfl
      · rcases (mem_join.1 (hasL_mem.1 e)).2 with e | e
        · rw [hasL_mem.2 e] at old; cases old
        · have F := h.s.tel f hM hk
          rw [F.2] at e
          have := ((h.s.good _ hn6).fine hi32 (by have := F.1; omega)).first.2
          rw [hasL_mem.2 e] at this; cases this
    · rw [hs.deps]; exact old
  refine ⟨fun i hi => ?_, fun i hi hb hf => ?_, fun g hg hg4 => ?_, fun i hi k hk hkn => ?_, u.settled, fun g hg hg1 => ?_, fun n hn i hi d hd => ?_, fun i hi d hd => ?_⟩
  · show hasL (upd S.C f.id.toNat (takeC (S.C f.id.toNat) f.id f).1 i).deps (i : Int) = false
    rcases upd_two S.C f.id.toNat (takeC (S.C f.id.toNat) f.id f).1 i with ⟨e1, e2⟩ | ⟨_, e2⟩
    · rw [e2, e1]; exact O
    · rw [e2]; exact u.own i hi
  · have hb : (upd S.C f.id.toNat (takeC (S.C f.id.toNat) f.id f).1 i).begun = true := hb
    have hf : (upd S.C f.id.toNat (takeC (S.C f.id.toNat) f.id f).1 i).fixed = false := hf
    show mostB (upd S.C f.id.toNat (takeC (S.C f.id.toNat) f.id f).1 i).ops (upd S.C f.id.toNat (takeC (S.C f.id.toNat) f.id f).1 i).told = false
    rw [beg] at hb
    rcases upd_two S.C f.id.toNat (takeC (S.C f.id.toNat) f.id f).1 i with ⟨e1, e2⟩ | ⟨_, e2⟩
    · rw [e2] at hf ⊢
      rcases takeC_cases (S.C f.id.toNat) f.id f with ⟨h1, _⟩ | ⟨_, _, _, _, _, _, he, _⟩ | ⟨_, _, _, hs, _⟩
      · exact absurd h0 h1
      · rw [he] at hf ⊢
        exact hf
      · rw [hs.ops, hs.told]
        rw [hs.fixed] at hf
        rw [e1] at hb
        exact u.most _ hi32 hb hf
    · rw [e2] at hf ⊢
      exact u.most i hi hb hf
  · rcases hg with hg | hg
    · exact u.kn g hg hg4
    · exact absurd hg4 (again_touches (takeC_sends hg).1).2
  · have hkn : (upd S.C f.id.toNat (takeC (S.C f.id.toNat) f.id f).1 i).known k = true := hkn
    show 2 ≤ ((S.B k).ent i).state
    rcases upd_two S.C f.id.toNat (takeC (S.C f.id.toNat) f.id f).1 i with ⟨e1, e2⟩ | ⟨_, e2⟩
    · rw [e2] at hkn
      rw [e1]
      rcases takeC_known hkn with e | ⟨e, ek⟩
      · exact u.known _ hi32 k hk e
      · rw [ek]
        exact u.kn f hM e
    · rw [e2] at hkn
      exact u.known i hi k hk hkn
  · rcases hg with hg | hg
    · exact u.ask g hg hg1
    · exact (again_touches (takeC_sends hg).1).1 hg1
  · exact (beg d).trans (u.first n hn i hi d hd)
  · have hd : (d : Int) ∈ (upd S.C f.id.toNat (takeC (S.C f.id.toNat) f.id f).1 i).deps := hd
    refine (beg d).trans ?_
    rcases upd_two S.C f.id.toNat (takeC (S.C f.id.toNat) f.id f).1 i with ⟨e1, e2⟩ | ⟨_, e2⟩
    · rw [e2] at hd; exact D d hd
    · rw [e2] at hd; exact u.deps i hi d hd
theorem InvU.again {S : Sys} (u : InvU S) (i : Nat) : InvU ⟨S.B, S.C, fun g => S.M g ∨ g ∈ againC (S.C i) (i : Int)⟩ := by
  refine ⟨u.own, u.most, fun g hg hg4 => ?_, u.known, u.settled, fun g hg hg1 => ?_, u.first, u.deps⟩
  · rcases hg with hg | hg
    · exact u.kn g hg hg4
    · exact absurd hg4 (again_touches hg).2
  · rcases hg with hg | hg
    · exact u.ask g hg hg1
    · exact (again_touches hg).1 hg1
end Go.Proofs.YtkoefoccbjhoiacGreat

namespace Go.Proofs.YtkoefoccbjhoiacGreat
open Go.RowKit

/-- A clone: a row of the call's own; of nothing no room. -/
def CloneI (w w' : World) (v : Value) (zs : List Int) : Prop := w'.ownsRow w.heap.size 3 1 v zs.length (intCells zs) ∧ (zs.length = 0 → ∃ a, v = .slice a 0 0) ∧ Below w.heap.size w w'
def CloneO (w w' : World) (v : Value) (zs : List OpL) : Prop := w'.ownsRow w.heap.size 69 3 v zs.length (opsCells zs) ∧ (zs.length = 0 → ∃ a, v = .slice a 0 0) ∧ Below w.heap.size w w'


/-- The cells of a list that lay there lie there still. -/
theorem IntsAt.news {w w1 : World} {ad : Addr} {zs : List Int} (h : IntsAt w.heap.size w (some ad) zs) (hb : Below w.heap.size w w1) : ∀ j u, (intCells zs)[j]? = some u → w1.cell? (ad.add j) = some u := by
  intro j u hu
  rcases h with rfl | ⟨b, off, hb', hlt, hc⟩
  · simp [intCells] at hu
  · obtain rfl : ad = ⟨b, off, none⟩ := by simpa using hb'
    have hj : j < zs.length := by
      obtain ⟨hj, _⟩ := List.getElem?_eq_some_iff.1 hu
      simpa [intCells] using hj
    rw [add_none, hb.cell (p := ⟨b, off + j, none⟩) hlt, hc j hj]
    simp [intCells, hj] at hu
    simp [List.getD, hj, hu]
theorem OpsAt.news {w w1 : World} {ad : Addr} {zs : List OpL} (h : OpsAt w (some ad) zs) (hb : Below w.heap.size w w1) : ∀ j u, (opsCells zs)[j]? = some u → w1.cell? (ad.add j) = some u := by
  intro j u hu
  rcases h with rfl | ⟨b, off, hb', hlt, hc⟩
  · simp [opsCells] at hu
  · obtain rfl : ad = ⟨b, off, none⟩ := by simpa using hb'
    have hj : j < zs.length * 3 := by
      obtain ⟨hj, _⟩ := List.getElem?_eq_some_iff.1 hu
      rw [opsCells_len] at hj
      exact hj
    obtain ⟨g0, g1, g2⟩ := opsCells_get zs (j / 3) (by omega)
    obtain ⟨c0, c1, c2⟩ := hc (j / 3) (by omega)
    rw [add_none, hb.cell (p := ⟨b, off + j, none⟩) hlt]
    have h3 : j = j / 3 * 3 ∨ j = j / 3 * 3 + 1 ∨ j = j / 3 * 3 + 2 := by omega
    rcases h3 with e | e | e
    · rw [e] at hu ⊢; rw [c0]; rw [g0] at hu; exact hu
    · rw [e] at hu ⊢; rw [← Nat.add_assoc, c1]; rw [g1] at hu; exact hu
    · rw [e] at hu ⊢; rw [← Nat.add_assoc, c2]; rw [g2] at hu; exact hu

end Go.Proofs.YtkoefoccbjhoiacGreat

namespace Go.Proofs.YtkoefoccbjhoiacGreat
open Go.RowKit

theorem setRow_other (w : World) {g k : Nat} (cs : Array Value) (h : k ≠ g) : (w.setRow g cs).heap[k]? = w.heap[k]? := by
  simp [World.setRow, Array.getElem?_modify]
  intro e; omega
theorem own_same {w w' : World} {b : Nat} {e : TypeId} {size : Nat} {v : Value} {n : Nat} {xs : List Value} (h : w.ownsRow b e size v n xs) (hs : ∀ k, v.ownBlock = some k → w'.heap[k]? = w.heap[k]?) : w'.ownsRow b e size v n xs :=
  ⟨h.1, h.2.imp id fun ⟨g, cap, cur, h1, h2, h3, h4⟩ => ⟨g, cap, cur, h1, h2, by rw [hs g (by rw [h1]; rfl)]; exact h3, h4⟩⟩

/-- A frame whose lists lie below B. -/
def FrameB (B : Nat) (w : World) (v : Value) (f : FrameL) : Prop := ∃ a3 c3 a4 c4 a5 c5 a6 c6,
  v = .agg #[.int .i64 f.kind, .int .i64 f.node, .int .i64 f.id, .slice a3 f.ops.length c3, .slice a4 f.deps.length c4, .slice a5 f.ats.length c5, .slice a6 f.vals.length c6] ∧
  (SlOps w a3 c3 f.ops ∧ OpsIn (· < B) w a3 f.ops) ∧ (SlInts w a4 c4 f.deps ∧ IntsIn (· < B) w a4 f.deps) ∧ (SlInts w a5 c5 f.ats ∧ IntsIn (· < B) w a5 f.ats) ∧ (SlInts w a6 c6 f.vals ∧ IntsIn (· < B) w a6 f.vals)
theorem FrameB.v {B : Nat} {w : World} {v : Value} {f : FrameL} (h : FrameB B w v f) : FrameV w v f := by
  obtain ⟨a3, c3, a4, c4, a5, c5, a6, c6, e, h3, h4, h5, h6⟩ := h
  exact ⟨a3, c3, a4, c4, a5, c5, a6, c6, e, h3.1, h4.1, h5.1, h6.1⟩
theorem slI_later {B : Nat} {w w' : World} {a : Option Addr} {cap : Nat} {zs : List Int} (h : SlInts w a cap zs ∧ IntsIn (· < B) w a zs) (hb : Below B w w') : SlInts w' a cap zs ∧ IntsIn (· < B) w' a zs := by
  have h2 := h.2.later (w' := w') (fun k _ hk => hb.block k hk)
  exact ⟨⟨h2.at, h.1.2⟩, h2⟩
theorem slO_later {B : Nat} {w w' : World} {a : Option Addr} {cap : Nat} {zs : List OpL} (h : SlOps w a cap zs ∧ OpsIn (· < B) w a zs) (hb : Below B w w') : SlOps w' a cap zs ∧ OpsIn (· < B) w' a zs := by
  have h2 := h.2.later (w' := w') (fun k _ hk => hb.block k hk)
  exact ⟨⟨h2.at, h.1.2⟩, h2⟩
theorem FrameB.later {B : Nat} {w w' : World} {v : Value} {f : FrameL} (h : FrameB B w v f) (hb : Below B w w') : FrameB B w' v f := by
  obtain ⟨a3, c3, a4, c4, a5, c5, a6, c6, e, h3, h4, h5, h6⟩ := h
  exact ⟨a3, c3, a4, c4, a5, c5, a6, c6, e, slO_later h3 hb, slI_later h4 hb, slI_later h5 hb, slI_later h6 hb⟩
theorem FrameB.mono {B B' : Nat} {w : World} {v : Value} {f : FrameL} (h : FrameB B w v f) (hB : B ≤ B') : FrameB B' w v f := by
  obtain ⟨a3, c3, a4, c4, a5, c5, a6, c6, e, h3, h4, h5, h6⟩ := h
  have m : ∀ k, k < w.heap.size → k < B → k < B' := fun k _ (h : k < B) => by omega
  exact ⟨a3, c3, a4, c4, a5, c5, a6, c6, e, ⟨h3.1, h3.2.mono m⟩, ⟨h4.1, h4.2.mono m⟩, ⟨h5.1, h5.2.mono m⟩, ⟨h6.1, h6.2.mono m⟩⟩

/-- A frame whose lists lie from B on. -/
def FrameG (B : Nat) (w : World) (v : Value) (f : FrameL) : Prop := ∃ a3 c3 a4 c4 a5 c5 a6 c6,
  v = .agg #[.int .i64 f.kind, .int .i64 f.node, .int .i64 f.id, .slice a3 f.ops.length c3, .slice a4 f.deps.length c4, .slice a5 f.ats.length c5, .slice a6 f.vals.length c6] ∧
  (SlOps w a3 c3 f.ops ∧ OpsIn (B ≤ ·) w a3 f.ops) ∧ (SlInts w a4 c4 f.deps ∧ IntsIn (B ≤ ·) w a4 f.deps) ∧ (SlInts w a5 c5 f.ats ∧ IntsIn (B ≤ ·) w a5 f.ats) ∧ (SlInts w a6 c6 f.vals ∧ IntsIn (B ≤ ·) w a6 f.vals)
theorem FrameG.v {B : Nat} {w : World} {v : Value} {f : FrameL} (h : FrameG B w v f) : FrameV w v f := by
  obtain ⟨a3, c3, a4, c4, a5, c5, a6, c6, e, h3, h4, h5, h6⟩ := h
  exact ⟨a3, c3, a4, c4, a5, c5, a6, c6, e, h3.1, h4.1, h5.1, h6.1⟩
theorem slI_same {ok : Nat → Prop} {w w' : World} {a : Option Addr} {cap : Nat} {zs : List Int} (h : SlInts w a cap zs ∧ IntsIn ok w a zs) (hb : SameOn ok w w') : SlInts w' a cap zs ∧ IntsIn ok w' a zs := by
  have h2 := h.2.later hb
  exact ⟨⟨h2.at, h.1.2⟩, h2⟩
theorem slO_same {ok : Nat → Prop} {w w' : World} {a : Option Addr} {cap : Nat} {zs : List OpL} (h : SlOps w a cap zs ∧ OpsIn ok w a zs) (hb : SameOn ok w w') : SlOps w' a cap zs ∧ OpsIn ok w' a zs := by
  have h2 := h.2.later hb
  exact ⟨⟨h2.at, h.1.2⟩, h2⟩
theorem FrameG.same {B : Nat} {w w' : World} {v : Value} {f : FrameL} (h : FrameG B w v f) (hb : SameOn (B ≤ ·) w w') : FrameG B w' v f := by
  obtain ⟨a3, c3, a4, c4, a5, c5, a6, c6, e, h3, h4, h5, h6⟩ := h
  exact ⟨a3, c3, a4, c4, a5, c5, a6, c6, e, slO_same h3 hb, slI_same h4 hb, slI_same h5 hb, slI_same h6 hb⟩
theorem FrameG.mono {B B' : Nat} {w : World} {v : Value} {f : FrameL} (h : FrameG B w v f) (hB : B' ≤ B) : FrameG B' w v f := by
  obtain ⟨a3, c3, a4, c4, a5, c5, a6, c6, e, h3, h4, h5, h6⟩ := h
  have m : ∀ k, k < w.heap.size → B ≤ k → B' ≤ k := fun k _ (h : B ≤ k) => by omega
  exact ⟨a3, c3, a4, c4, a5, c5, a6, c6, e, ⟨h3.1, h3.2.mono m⟩, ⟨h4.1, h4.2.mono m⟩, ⟨h5.1, h5.2.mono m⟩, ⟨h6.1, h6.2.mono m⟩⟩
/-- A list of frames that the call made. -/
def FramesV (B : Nat) (w : World) (v : Value) (fs : List FrameL) : Prop := ∃ css : List (List Value), css.length = fs.length ∧ w.ownsRow B 123 7 v fs.length css.flatten ∧
  (∀ i (h : i < fs.length), (css.getD i []).length = 7 ∧ FrameG B w (.agg (css.getD i []).toArray) fs[i])
theorem FramesV.same {B : Nat} {w w' : World} {v : Value} {fs : List FrameL} (h : FramesV B w v fs) (hb : SameOn (B ≤ ·) w w') : FramesV B w' v fs := by
  obtain ⟨css, h1, h2, h3⟩ := h
  exact ⟨css, h1, own_same h2 (fun k hk => hb k (World.ownsRow.lt h2 k hk).2 (World.ownsRow.lt h2 k hk).1), fun i hi => ⟨(h3 i hi).1, (h3 i hi).2.same hb⟩⟩
theorem FramesV.later {B : Nat} {w w' : World} {v : Value} {fs : List FrameL} (h : FramesV B w v fs) (hb : Below w.heap.size w w') : FramesV B w' v fs := h.same (SameOn.of_size hb)
theorem FramesV.mono {B B' : Nat} {w : World} {v : Value} {fs : List FrameL} (h : FramesV B w v fs) (hB : B' ≤ B) : FramesV B' w v fs := by
  obtain ⟨css, h1, h2, h3⟩ := h
  exact ⟨css, h1, own_mono h2 hB, fun i hi => ⟨(h3 i hi).1, (h3 i hi).2.mono hB⟩⟩
theorem FramesV.nil (B : Nat) (w : World) : FramesV B w (.slice none 0 0) [] := ⟨[], rfl, World.ownsRow_nil _ _ _ _, fun _ h => by simp at h⟩

end Go.Proofs.YtkoefoccbjhoiacGreat

namespace Go.Proofs.YtkoefoccbjhoiacGreat
open Go.RowKit

/-- A type of rows of n cells. -/
def RowT (P : Program) (ty : TypeId) (n : Nat) : Prop := ∃ d, P.underlying ty = some d ∧ d.isRow = true ∧ (P.info? ty).map (·.size) = some n
theorem wpl_mid {P : Program} {ops : Array Oper} {Q : Exit → Act → World → Prop} {rest : List Oper} {a : Act} {w : World} {dst : Option Tmp} {type : TypeId} {pos : String} {after : Array Edge} {guard : Option (Nat × Bool)} {x : Operand} {ty : TypeId} {b o : Nat} {cs : Array Value}
    (hc : w.rangeAt b o cs.toList) (hx : a.eval x = .pointer (some ⟨b, o, none⟩)) (hr : RowT P ty cs.toList.length)
    (hw : Region.wanted ⟨dst, .load ty x, type, pos, after, guard⟩ (yielded ops a.tmps) = true) (h : wpList P ops Q rest (a.put dst (.agg cs)) w) : wpList P ops Q (⟨dst, .load ty x, type, pos, after, guard⟩ :: rest) a w := by
  obtain ⟨d, hu, hd, hi⟩ := hr
  exact wpList_wanted hw fun K hK => wp_load_mid ty x rfl b o hx cs.toList d hc hu hd hi (hK _ _ (by simpa using h))
theorem wpl_row {P : Program} {ops : Array Oper} {Q : Exit → Act → World → Prop} {rest : List Oper} {a : Act} {w : World} {dst : Option Tmp} {type : TypeId} {pos : String} {after : Array Edge} {guard : Option (Nat × Bool)} {x : Operand} {ty t : TypeId} {g : Nat} {cs : Array Value} {fr : Nat × Nat}
    (hg : w.heap[g]? = some (.cells cs t fr)) (hx : a.eval x = .pointer (some ⟨g, 0, none⟩)) (hr : RowT P ty cs.size)
    (hw : Region.wanted ⟨dst, .load ty x, type, pos, after, guard⟩ (yielded ops a.tmps) = true) (h : wpList P ops Q rest (a.put dst (.agg cs)) w) : wpList P ops Q (⟨dst, .load ty x, type, pos, after, guard⟩ :: rest) a w := by
  obtain ⟨d, hu, hd, hi⟩ := hr
  refine wpList_wanted hw fun K hK => wp_load_row ty x rfl g hx t cs fr d hg hu ?_ hi (hK _ _ h)
  cases d <;> first | rfl | cases hd

end Go.Proofs.YtkoefoccbjhoiacGreat

namespace Go.Proofs.YtkoefoccbjhoiacGreat
open Go.RowKit

/-- A new variable of a type whose zero value is known. -/
theorem wpList_alloc_as {P : Program} {w : World} {ops : Array Oper} {rest : List Oper} {o : Oper} {a : Act} {Q : Exit → Act → World → Prop} (hg : o.guard = none) (ty : TypeId) (ho : o.op = .alloc ty) (cs : Array Value) (hz : (P.info? ty).map (·.zero) = some (some (.agg cs)))
    (h : wpList P ops Q rest (a.put o.dst (.pointer (some ⟨w.heap.size, 0, none⟩))) (w.alloc (.cells cs ty))) : wpList P ops Q (o :: rest) a w := by
  refine wpList_plain hg fun K hK => ?_
  cases hq : P.info? ty with
  | none => simp [hq] at hz
  | some i =>
    have hzz : i.zero = some (.agg cs) := by simpa [hq] using hz
    unfold Oper.wp execOp
    simp [ho, Instr.alloc, zeroValue, typeInfo, hq, hzz, newVar, newRow, Value.cells, go_sem]
    exact hK _ _ h

end Go.Proofs.YtkoefoccbjhoiacGreat
