/-
  Plain mathematics of the whole, 3: what who has a transaction does keeps what holds; of two that are fixed and in one another's way one stands ahead of the other.
  Plain mathematics of the whole, 4: what the nodes have executed, by what is fixed: no two of them the one so and the other so.
  Plain mathematics of a node, more: what it has told of each transaction, and its values, are what the ones it has executed come to, one after the other.
  Plain mathematics of the whole, 5: as if one after the other: what a node told of a transaction is what it comes to in any order by what is fixed.
  Plain mathematics of the whole, 6: the order of all that are fixed with all that they hang on; who began when another one had been told stands behind it.
-/
import Derived.Test.YtkoefoccbjhoiacGreatNil6
namespace Go.Proofs.YtkoefoccbjhoiacGreat
open Go.RowKit

theorem mem_again {c : CaseL} {id : Int} {g : FrameL} (h : g ∈ againC c id) : c.begun = true ∧ (0 ≤ id ∧ id < 32) ∧ (0 ≤ g.node ∧ g.node < 6) ∧ g.id = id ∧ g.ops = c.ops ∧ ((c.fixed = true ∧ g.kind = 3 ∧ g.deps = c.deps) ∨ (c.fixed = false ∧ g.kind = 1)) := by
  unfold againC at h
  split at h
  · simp at h
  · rename_i hn
    obtain ⟨n, hn6, hg⟩ := List.mem_flatMap.1 h
    have hn6 := List.mem_range.1 hn6
    have hb : c.begun = true := by
      cases e : c.begun
      · exact absurd (Or.inr (Or.inl e)) hn
      · rfl
    have hi0 : 0 ≤ id := by
      by_cases e : id < 0
      · exact absurd (Or.inr (Or.inr (Or.inl e))) hn
      · omega
    have hi1 : id < 32 := by
      by_cases e : 32 ≤ id
      · exact absurd (Or.inr (Or.inr (Or.inr (Or.inl e)))) hn
      · omega
    unfold CaseL.send at hg
    cases hf : c.fixed
    · rw [hf] at hg
      simp only [Bool.false_eq_true, if_false] at hg
      split at hg
      · simp at hg
        subst hg
        exact ⟨hb, ⟨hi0, hi1⟩, ⟨by show (0 : Int) ≤ (n : Int); omega, by show (n : Int) < 6; omega⟩, rfl, rfl, Or.inr ⟨rfl, rfl⟩⟩
      · simp at hg
    · rw [hf] at hg
      simp only [if_true] at hg
      split at hg
      · simp at hg
        subst hg
        exact ⟨hb, ⟨hi0, hi1⟩, ⟨by show (0 : Int) ≤ (n : Int); omega, by show (n : Int) < 6; omega⟩, rfl, rfl, Or.inl ⟨rfl, rfl, rfl⟩⟩
      · simp at hg
theorem takeC_sends {c : CaseL} {id : Int} {f g : FrameL} (hg : g ∈ (takeC c id f).2.1) : g ∈ againC (takeC c id f).1 id ∧ (takeC c id f).1.fixed = true := by
  unfold takeC at *
  split at hg
  · simp at hg
  · rename_i h1
    rw [if_neg h1]
    split at hg
    · simp at hg
    · rename_i h2
      rw [if_neg h2]
      split at hg
      · simp at hg
      · rename_i h3
        rw [if_neg h3]
        split at hg
        · rename_i h4
          rw [if_pos h4]
          split at hg
          · simp at hg
          · rename_i h5
            rw [if_neg h5]
            have hg : g ∈ if (c.hear f).fixed = true then againC (c.hear f) id else [] := hg
            split at hg
            · rename_i h6; exact ⟨hg, h6⟩
            · simp at hg
        · split at hg
          · simp at hg
          · split at hg <;> simp at hg
theorem takeC_begun {c : CaseL} {id : Int} {f : FrameL} (h : (takeC c id f).2.2 = 0) : c.begun = true ∧ f.id = id := by
  unfold takeC at h
  split at h
  · exact absurd h (show (2 : Int) ≠ 0 by decide)
  · rename_i h1
    constructor
    · cases e : c.begun
      · exact absurd (Or.inr (Or.inl e)) h1
      · rfl
    · by_cases e : f.id = id
      · exact e
      · exact absurd (Or.inr (Or.inr (Or.inl e))) h1

/-- The case i is another one: what must be said of it. -/
theorem InvS.setC {S : Sys} (h : InvS S) {i : Nat} (_hi : i < 32) (c : CaseL) (N : FrameL → Prop)
    (hb : (S.C i).begun = true → c.begun = true ∧ c.ops = (S.C i).ops) (hf : (S.C i).fixed = true → c.fixed = true ∧ c.deps = (S.C i).deps)
    (ht : ∀ n, n < 6 → c.told n = true → 1 ≤ ((S.B n).ent i).state ∧ ∀ d ∈ ((S.B n).ent i).first, d ∈ c.deps) (hm : c.fixed = true → c.begun = true ∧ mostB c.ops c.told = true)
    (hN : ∀ g, N g → InRange g ∧ g.id.toNat = i ∧ c.begun = true ∧ g.ops = c.ops ∧ ((c.fixed = true ∧ g.kind = 3 ∧ g.deps = c.deps) ∨ g.kind = 1)) :
    InvS ⟨S.B, upd S.C i c, fun g => S.M g ∨ N g⟩ := by
  have at_ : ∀ m, upd S.C i c m = if m = i then c else S.C m := fun m => rfl
  refine ⟨h.good, fun g hg => ?_, fun g hg hk => ?_, fun g hg hk => ?_, fun g hg hk => ?_, fun g hg hk => ?_, fun n hn j hj h1 => ?_, fun n hn j hj h2 => ?_, fun j hj n hn htl => ?_, fun n hn x y hx hy hxy h1 h2 hc => ?_, fun j hj hfx => ?_⟩
  · rcases hg with hg | hg
    · exact h.rng g hg
    · exact (hN g hg).1
  · show (upd S.C i c g.id.toNat).begun = true ∧ g.ops = (upd S.C i c g.id.toNat).ops
    rw [at_]
    rcases hg with hg | hg
    · obtain ⟨a1, a2⟩ := h.ask g hg hk
      split
      · rename_i e
        rw [e] at a1 a2
        obtain ⟨b1, b2⟩ := hb a1
        exact ⟨b1, by rw [b2]; exact a2⟩
      · exact ⟨a1, a2⟩
    · obtain ⟨_, e, b1, b2, _⟩ := hN g hg
      rw [if_pos e]
      exact ⟨b1, b2⟩
  · show ((upd S.C i c g.id.toNat).begun = true ∧ (upd S.C i c g.id.toNat).fixed = true) ∧ g.ops = (upd S.C i c g.id.toNat).ops ∧ g.deps = (upd S.C i c g.id.toNat).deps
    rw [at_]
    rcases hg with hg | hg
    · obtain ⟨⟨a1, a2⟩, a3, a4⟩ := h.com g hg hk
      split
      · rename_i e
        rw [e] at a1 a2 a3 a4
        obtain ⟨b1, b2⟩ := hb a1
        obtain ⟨b3, b4⟩ := hf a2
        exact ⟨⟨b1, b3⟩, by rw [b2]; exact a3, by rw [b4]; exact a4⟩
      · exact ⟨⟨a1, a2⟩, a3, a4⟩
    · obtain ⟨_, e, b1, b2, b3⟩ := hN g hg
      rw [if_pos e]
      rcases b3 with ⟨b3, _, b4⟩ | b3
      · exact ⟨⟨b1, b3⟩, b2, b4⟩
      · omega
  · rcases hg with hg | hg
    · exact h.tel g hg hk
    · obtain ⟨_, _, _, _, b⟩ := hN g hg
      rcases b with ⟨_, b, _⟩ | b <;> omega
  · rcases hg with hg | hg
    · exact h.don g hg hk
    · obtain ⟨_, _, _, _, b⟩ := hN g hg
      rcases b with ⟨_, b, _⟩ | b <;> omega
  · obtain ⟨a1, a2⟩ := h.ent1 n hn j hj h1
    show (upd S.C i c j).begun = true ∧ ((S.B n).ent j).ops = (upd S.C i c j).ops
    rw [at_]
    split
    · rename_i e
      rw [e] at a1 a2 ⊢
      obtain ⟨b1, b2⟩ := hb a1
      exact ⟨b1, by rw [b2]; exact a2⟩
    · exact ⟨a1, a2⟩
  · obtain ⟨a1, a2⟩ := h.ent2 n hn j hj h2
    show (upd S.C i c j).fixed = true ∧ ((S.B n).ent j).deps = (upd S.C i c j).deps
    rw [at_]
    split
    · rename_i e
      rw [e] at a1 a2 ⊢
      obtain ⟨b1, b2⟩ := hf a1
      exact ⟨b1, by rw [b2]; exact a2⟩
    · exact ⟨a1, a2⟩
  · have htl : (upd S.C i c j).told n = true := htl
    show 1 ≤ ((S.B n).ent j).state ∧ ∀ d ∈ ((S.B n).ent j).first, d ∈ (upd S.C i c j).deps
    rw [at_] at htl ⊢
    split
    · rename_i e
      rw [if_pos e] at htl
      rw [e]
      exact ht n hn htl
    · rename_i e
      rw [if_neg e] at htl
      exact h.told j hj n hn htl
  · have hops : ∀ z, z < 32 → 1 ≤ ((S.B n).ent z).state → (upd S.C i c z).ops = (S.C z).ops := fun z hz hz1 => by
      rw [at_]
      split
      · rename_i e
        rw [e]
        exact (hb (by rw [← e]; exact (h.ent1 n hn z hz hz1).1)).2
      · rfl
    have hc : conflictL (upd S.C i c x).ops (upd S.C i c y).ops (ofL n) = true := hc
    rw [hops x hx h1, hops y hy h2] at hc
    exact h.conf n hn x y hx hy hxy h1 h2 hc
  · have hfx : (upd S.C i c j).fixed = true := hfx
    show (upd S.C i c j).begun = true ∧ mostB (upd S.C i c j).ops (upd S.C i c j).told = true
    rw [at_] at hfx ⊢
    split
    · rename_i e
      rw [if_pos e] at hfx
      exact hm hfx
    · rename_i e
      rw [if_neg e] at hfx
      exact h.most j hj hfx

/-- Who has a transaction takes an answer that was sent. -/
theorem InvS.case {S : Sys} (h : InvS S) {f : FrameL} (hM : S.M f) (h0 : (takeC (S.C f.id.toNat) f.id f).2.2 = 0) :
    InvS ⟨S.B, upd S.C f.id.toNat (takeC (S.C f.id.toNat) f.id f).1, fun g => S.M g ∨ g ∈ (takeC (S.C f.id.toNat) f.id f).2.1⟩ := by
  obtain ⟨hr1, hr2⟩ := h.rng f hM
  have hi32 : f.id.toNat < 32 := by omega
  have hn6 : f.node.toNat < 6 := by omega
  have hsend : ∀ g, g ∈ (takeC (S.C f.id.toNat) f.id f).2.1 → InRange g ∧ g.id.toNat = f.id.toNat ∧ (takeC (S.C f.id.toNat) f.id f).1.begun = true ∧ g.ops = (takeC (S.C f.id.toNat) f.id f).1.ops ∧
      (((takeC (S.C f.id.toNat) f.id f).1.fixed = true ∧ g.kind = 3 ∧ g.deps = (takeC (S.C f.id.toNat) f.id f).1.deps) ∨ g.kind = 1) := fun g hg => by
    obtain ⟨h1, h2⟩ := takeC_sends hg
    obtain ⟨b1, b2, b3, b4, b5, b6⟩ := mem_again h1
    refine ⟨⟨b3, by rw [b4]; exact b2⟩, by rw [b4], b1, b5, ?_⟩
    rcases b6 with b6 | b6
    · exact Or.inl b6
    · exact Or.inr b6.2
  rcases takeC_cases (S.C f.id.toNat) f.id f with ⟨h1, _⟩ | ⟨_, _, hk, hf, _, _, he, _⟩ | ⟨_, _, _, hs, _, _⟩
  · exact absurd h0 h1
  · refine h.setC hi32 _ _ ?_ ?_ ?_ ?_ hsend
    · rw [he]; exact fun e => ⟨e, rfl⟩
    · intro e; rw [hf] at e; cases e
    · rw [he]
      intro n hn ht
      have ht : upd (S.C f.id.toNat).told f.node.toNat true n = true := ht
      show _ ∧ ∀ d ∈ ((S.B n).ent f.id.toNat).first, d ∈ joinL (S.C f.id.toNat).deps f.deps
      by_cases e : n = f.node.toNat
      · subst e
        obtain ⟨t1, t2⟩ := h.tel f hM hk
        refine ⟨t1, fun d hd => join_right (by rw [t2]; exact hd) (first_in (h.good _ hn) hi32 d hd)⟩
      · rw [upd_other _ _ e] at ht
        obtain ⟨t1, t2⟩ := h.told _ hi32 n hn ht
        exact ⟨t1, fun d hd => join_left (t2 d hd) (first_in (h.good _ hn) hi32 d hd)⟩
    · rw [he]
      intro e
      exact ⟨(takeC_begun h0).1, e⟩
  · refine h.setC hi32 _ _ ?_ ?_ ?_ ?_ hsend
    · exact fun e => ⟨by rw [hs.begun]; exact e, hs.ops⟩
    · exact fun e => ⟨by rw [hs.fixed]; exact e, hs.deps⟩
    · intro n hn ht
      rw [hs.told] at ht
      rw [hs.deps]
      exact h.told _ hi32 n hn ht
    · intro e
      rw [hs.fixed] at e
      obtain ⟨m1, m2⟩ := h.most _ hi32 e
      exact ⟨by rw [hs.begun]; exact m1, by rw [hs.ops, hs.told]; exact m2⟩
/-- Who has a transaction sends again. -/
theorem InvS.again {S : Sys} (h : InvS S) {i : Nat} (hi : i < 32) : InvS ⟨S.B, S.C, fun g => S.M g ∨ g ∈ againC (S.C i) (i : Int)⟩ := by
  have e : upd S.C i (S.C i) = S.C := by
    funext j
    unfold upd
    split
    · rename_i e; rw [e]
    · rfl
  have := h.setC hi (S.C i) (fun g => g ∈ againC (S.C i) (i : Int)) (fun e => ⟨e, rfl⟩) (fun e => ⟨e, rfl⟩) (fun n hn ht => h.told i hi n hn ht) (fun e => h.most i hi e) (fun g hg => by
    obtain ⟨b1, b2, b3, b4, b5, b6⟩ := mem_again hg
    refine ⟨⟨b3, by rw [b4]; exact b2⟩, by rw [b4]; omega, b1, b5, ?_⟩
    rcases b6 with b6 | b6
    · exact Or.inl b6
    · exact Or.inr b6.2)
  rw [e] at this
  exact this
/-- At the beginning. -/
theorem InvS.zero : InvS ⟨fun _ => zeroN, fun _ => zeroC, fun _ => False⟩ := by
  refine ⟨fun _ _ => good_zero, fun _ h => h.elim, fun _ h => h.elim, fun _ h => h.elim, fun _ h => h.elim, fun _ h => h.elim, fun n _ i _ h => ?_, fun n _ i _ h => ?_, fun i _ n _ h => ?_, fun n _ x y _ _ _ h => ?_, fun i _ h => ?_⟩
  · exact absurd h (show ¬ (1 : Int) ≤ 0 by decide)
  · exact absurd h (show ¬ (2 : Int) ≤ 0 by decide)
  · cases h
  · exact absurd h (show ¬ (1 : Int) ≤ 0 by decide)
  · cases h

theorem told_sum (t : Nat → Bool) (sh : Nat) : toldOf t sh = (t (sh * 3 + 0)).toNat + (t (sh * 3 + 1)).toNat + (t (sh * 3 + 2)).toNat := by
  unfold toldOf
  rw [show List.range 3 = [0, 1, 2] from rfl]
  simp only [List.filter_cons, List.filter_nil]
  generalize t (sh * 3 + 0) = a
  generalize t (sh * 3 + 1) = b
  generalize t (sh * 3 + 2) = c
  cases a <;> cases b <;> cases c <;> rfl
/-- Any two sets of most of a shard meet. -/
theorem most_meet {t u : Nat → Bool} {sh : Nat} (h1 : 2 ≤ toldOf t sh) (h2 : 2 ≤ toldOf u sh) : ∃ k, k < 3 ∧ t (sh * 3 + k) = true ∧ u (sh * 3 + k) = true := by
  rw [told_sum] at h1 h2
  by_cases e0 : t (sh * 3 + 0) = true ∧ u (sh * 3 + 0) = true
  · exact ⟨0, by omega, e0⟩
  by_cases e1 : t (sh * 3 + 1) = true ∧ u (sh * 3 + 1) = true
  · exact ⟨1, by omega, e1⟩
  by_cases e2 : t (sh * 3 + 2) = true ∧ u (sh * 3 + 2) = true
  · exact ⟨2, by omega, e2⟩
  exfalso
  generalize t (sh * 3 + 0) = a0 at *
  generalize t (sh * 3 + 1) = a1 at *
  generalize t (sh * 3 + 2) = a2 at *
  generalize u (sh * 3 + 0) = b0 at *
  generalize u (sh * 3 + 1) = b1 at *
  generalize u (sh * 3 + 2) = b2 at *
  cases a0 <;> cases a1 <;> cases a2 <;> cases b0 <;> cases b1 <;> cases b2 <;> simp_all
theorem most_told {ops : List OpL} {t : Nat → Bool} (h : mostB ops t = true) {sh : Nat} (hs : sh < 2) (ht : touchesL ops (sh : Int) = true) : 2 ≤ toldOf t sh := by
  unfold mostB at h
  simp only [Bool.and_eq_true, Bool.or_eq_true, Bool.not_eq_true', decide_eq_true_iff] at h
  match sh, hs with
  | 0, _ =>
    rcases h.1 with e | e
    · have ht : touchesL ops 0 = true := ht
      rw [e] at ht; cases ht
    · exact e
  | 1, _ =>
    rcases h.2 with e | e
    · have ht : touchesL ops 1 = true := ht
      rw [e] at ht; cases ht
    · exact e
/-- TopAhead: of any two that are fixed, and in one another's way at a shard, one stands ahead of the other. -/
theorem InvS.ahead {S : Sys} (h : InvS S) {x y sh : Nat} (hx : x < 32) (hy : y < 32) (hxy : x ≠ y) (fx : (S.C x).fixed = true) (fy : (S.C y).fixed = true) (hs : sh < 2) (hc : conflictL (S.C x).ops (S.C y).ops (sh : Int) = true) :
    (y : Int) ∈ (S.C x).deps ∨ (x : Int) ∈ (S.C y).deps := by
  obtain ⟨t1, t2⟩ := conflict_touches hc
  obtain ⟨k, hk, a, b⟩ := most_meet (most_told (h.most x hx fx).2 hs t1) (most_told (h.most y hy fy).2 hs t2)
  have hn : sh * 3 + k < 6 := by omega
  obtain ⟨a1, a2⟩ := h.told x hx _ hn a
  obtain ⟨b1, b2⟩ := h.told y hy _ hn b
  have ho : ofL ((sh * 3 + k : Nat) : Int) = (sh : Int) := by
    rw [ofL_nat]
    split
    · rename_i e
      have : sh = 0 := by omega
      subst this; rfl
    · rename_i e
      have : sh = 1 := by omega
      subst this; rfl
  rcases h.conf _ hn x y hx hy hxy a1 b1 (by rw [ho]; exact hc) with e | e
  · exact Or.inl (a2 _ e)
  · exact Or.inr (b2 _ e)

end Go.Proofs.YtkoefoccbjhoiacGreat

namespace Go.Proofs.YtkoefoccbjhoiacGreat
open Go.RowKit

/-- What is fixed, by those who have the transactions. -/
def Sys.graph (S : Sys) : GraphL := ⟨fun i => (S.C i).fixed, fun i => (S.C i).deps⟩

theorem hangs_over {A A' : Nat → Nat → Bool} {P : Nat → Prop} (hs : ∀ x, P x → ∀ y, A x y = A' x y) (hc : ∀ x y, P x → A x y = true → P y) {x y : Nat} (h : Hangs A x y) : P x → Hangs A' x y := by
  induction h using Hangs.ind with
  | refl x => exact fun _ => .refl x
  | step a h ih => exact fun hx => .step (by rw [← hs _ hx]; exact a) (ih (hc _ _ hx a))
/-- Two graphs that say the same of all that one hangs on. -/
theorem hangB_over {g g' : GraphL} {P : Nat → Prop} (h32 : ∀ x, P x → x < 32) (hs : ∀ x, P x → ∀ y, g.adj x y = g'.adj x y) (hc : ∀ x y, P x → g.adj x y = true → P y) {x : Nat} (hx : P x) (y : Nat) : hangB g x y = hangB g' x y := by
  rw [Bool.eq_iff_iff, hangB_iff g (h32 x hx), hangB_iff g' (h32 x hx)]
  exact ⟨fun h => hangs_over hs hc h hx, fun h => hangs_over (fun x hx y => (hs x hx y).symm) (fun x y hx a => hc x y hx (by rw [hs x hx]; exact a)) h hx⟩

/-- What a node has executed, by what is fixed. -/
theorem InvS.sorted {S : Sys} (h : InvS S) {n : Nat} (hn : n < 6) (hS : SortN (S.B n)) : Sorted (hangB S.graph) (S.B n).did := by
  refine hS.sorted.later fun x hx y _ => ?_
  refine hangB_over (P := fun x => x ∈ (S.B n).did) hS.sorted.lt (fun x hx y => ?_) (fun x y hx a => ?_) hx y
  · have hx32 := hS.sorted.lt x hx
    have h3 := (did_iff (h.good n hn) hx32).1 hx
    obtain ⟨e1, e2⟩ := h.ent2 n hn x hx32 (by rw [h3]; decide)
    have k : (S.B n).graph.known x = S.graph.known x := by
      show decide (2 ≤ ((S.B n).ent x).state) = (S.C x).fixed
      rw [h3, e1]; rfl
    have d : (S.B n).graph.deps x = S.graph.deps x := e2
    unfold GraphL.adj
    rw [k, d]
  · exact hS.sorted.closed x hx y (GraphL.adj_lt _ x y a) ((hangB_iff _ (hS.sorted.lt x hx) y).2 (.one a))

theorem idx_pre {pre post : List Nat} {x y : Nat} : y ∈ pre ↔ (pre ++ x :: post).idxOf y < pre.length := by
  rw [List.idxOf_append]
  split
  · rename_i h
    exact ⟨fun _ => List.idxOf_lt_length_of_mem h, fun _ => h⟩
  · rename_i h
    exact ⟨fun k => absurd k h, fun k => by omega⟩
theorem idx_at {pre post : List Nat} {x : Nat} (h : x ∉ pre) : (pre ++ x :: post).idxOf x = pre.length := by
  rw [List.idxOf_append, if_neg h]
  simp
theorem split_of {L : List Nat} (hd : L.Nodup) {x : Nat} (hx : x ∈ L) : ∃ pre post, L = pre ++ x :: post ∧ x ∉ pre := by
  obtain ⟨pre, post, e⟩ := List.append_of_mem hx
  refine ⟨pre, post, e, fun hp => ?_⟩
  rw [e, List.nodup_append] at hd
  exact hd.2.2 x hp x (by simp) rfl
/-- Who hangs on another stands behind it, but in a ring: there by number. -/
theorem Sorted.place {H : Nat → Nat → Bool} {L : List Nat} (h : Sorted H L) {x y : Nat} (hx : x ∈ L) (hy : y < 32) (hxy : x ≠ y) (hH : H x y = true) : L.idxOf y < L.idxOf x ↔ (H y x = false ∨ y < x) := by
  obtain ⟨pre, post, e, hn⟩ := split_of h.nodup hx
  have e1 : L.idxOf x = pre.length := by rw [e]; exact idx_at hn
  have e2 : y ∈ pre ↔ L.idxOf y < L.idxOf x := by rw [e1, e]; exact idx_pre
  rw [← e2]
  cases hb : H y x
  · exact ⟨fun _ => Or.inl rfl, fun _ => h.behind pre x post e y hy hH hb⟩
  · rw [h.ring pre x post e y hy hH hb (fun e => hxy e.symm)]
    exact ⟨fun k => Or.inr k, fun k => k.resolve_left (by simp)⟩
theorem idx_ne {L : List Nat} {x y : Nat} (hx : x ∈ L) (hy : y ∈ L) (hxy : x ≠ y) : L.idxOf x ≠ L.idxOf y := by
  intro e
  have h1 := List.getElem_idxOf (List.idxOf_lt_length_of_mem hx)
  have h2 := List.getElem_idxOf (List.idxOf_lt_length_of_mem hy)
  apply hxy
  rw [← h1, ← h2]
  congr 1
/-- Two lists sorted by one hanging: who stands in both, and the one hangs on the other, stand alike. -/
theorem Sorted.alike {H : Nat → Nat → Bool} {L L' : List Nat} (h : Sorted H L) (h' : Sorted H L') {x y : Nat} (hx : x ∈ L) (hy : y ∈ L) (hx' : x ∈ L') (hy' : y ∈ L') (hxy : x ≠ y) (hH : H x y = true ∨ H y x = true) : L.idxOf y < L.idxOf x ↔ L'.idxOf y < L'.idxOf x := by
  rcases hH with e | e
  · rw [h.place hx (h.lt y hy) hxy e, h'.place hx' (h.lt y hy) hxy e]
  · have a := h.place hy (h.lt x hx) (Ne.symm hxy) e
    have b := h'.place hy' (h.lt x hx) (Ne.symm hxy) e
    have n1 := idx_ne hx hy hxy
    have n2 := idx_ne hx' hy' hxy
    have : L.idxOf x < L.idxOf y ↔ L'.idxOf x < L'.idxOf y := by rw [a, b]
    omega
theorem hang_dep {g : GraphL} {x y : Nat} (hx : x < 32) (hy : y < 32) (hk : g.known x = true) (hd : (y : Int) ∈ g.deps x) : hangB g x y = true := by
  rw [hangB_iff g hx]
  refine .one ?_
  unfold GraphL.adj
  simp [hx, hy, hk, hd]
theorem InvS.hang {S : Sys} (h : InvS S) {x y sh : Nat} (hx : x < 32) (hy : y < 32) (hxy : x ≠ y) (fx : (S.C x).fixed = true) (fy : (S.C y).fixed = true) (hs : sh < 2) (hc : conflictL (S.C x).ops (S.C y).ops (sh : Int) = true) : hangB S.graph x y = true ∨ hangB S.graph y x = true := by
  rcases h.ahead hx hy hxy fx fy hs hc with e | e
  · exact Or.inl (hang_dep hx hy fx e)
  · exact Or.inr (hang_dep hy hx fy e)
theorem InvS.did_fixed {S : Sys} (h : InvS S) {n : Nat} (hn : n < 6) {x : Nat} (hx : x < 32) (hd : x ∈ (S.B n).did) : (S.C x).fixed = true :=
  (h.ent2 n hn x hx (by rw [(did_iff (h.good n hn) hx).1 hd]; decide)).1
/-- TopSame: no two nodes have executed two that are in one another's way the one so and the other so. -/
theorem InvS.same {S : Sys} (h : InvS S) {n m : Nat} (hn : n < 6) (hm : m < 6) (sn : SortN (S.B n)) (sm : SortN (S.B m)) {x y sh : Nat} (hxy : x ≠ y) (hs : sh < 2) (hc : conflictL (S.C x).ops (S.C y).ops (sh : Int) = true)
    (xn : x ∈ (S.B n).did) (yn : y ∈ (S.B n).did) (xm : x ∈ (S.B m).did) (ym : y ∈ (S.B m).did) : (S.B n).did.idxOf y < (S.B n).did.idxOf x ↔ (S.B m).did.idxOf y < (S.B m).did.idxOf x := by
  have hx := sn.sorted.lt x xn
  have hy := sn.sorted.lt y yn
  exact (h.sorted hn sn).alike (h.sorted hm sm) xn yn xm ym hxy (h.hang hx hy hxy (h.did_fixed hn hx xn) (h.did_fixed hn hy yn) hs hc)
/-- What was executed first stands as it stood. -/
theorem idx_prefix {L M : List Nat} {x y : Nat} (hx : x ∈ L) (hy : y ∈ L) : (L ++ M).idxOf y < (L ++ M).idxOf x ↔ L.idxOf y < L.idxOf x := by
  rw [List.idxOf_append, List.idxOf_append, if_pos hx, if_pos hy]

end Go.Proofs.YtkoefoccbjhoiacGreat

namespace Go.Proofs.YtkoefoccbjhoiacGreat
open Go.RowKit

/-- The values behind a list of transactions, one after the other, at a shard. -/
def after (sh : Int) (ops : Nat → List OpL) : List Nat → (Nat → Int) → (Nat → Int)
  | [], v => v
  | x :: l, v => after sh ops l (runOps sh 0 (ops x) v).1
theorem after_append (sh : Int) (ops : Nat → List OpL) : ∀ (l m : List Nat) (v : Nat → Int), after sh ops (l ++ m) v = after sh ops m (after sh ops l v)
  | [], _, _ => rfl
  | x :: l, m, v => after_append sh ops l m (runOps sh 0 (ops x) v).1
theorem after_congr (sh : Int) {ops ops' : Nat → List OpL} : ∀ (l : List Nat) (v : Nat → Int), (∀ x ∈ l, ops x = ops' x) → after sh ops l v = after sh ops' l v
  | [], _, _ => rfl
  | x :: l, v, h => by
    show after sh ops l (runOps sh 0 (ops x) v).1 = after sh ops' l (runOps sh 0 (ops' x) v).1
    rw [h x (by simp), after_congr sh l _ fun y hy => h y (by simp [hy])]

/-- Its values, and what it told of each. -/
structure ValN (sh : Int) (s : NodeL) : Prop where
  all : s.vals = after sh (fun x => (s.ent x).ops) s.did fun _ => 0
  each : ∀ pre x post, s.did = pre ++ x :: post → (s.ent x).ats = (runOps sh 0 (s.ent x).ops (after sh (fun x => (s.ent x).ops) pre fun _ => 0)).2.1 ∧ (s.ent x).vals = (runOps sh 0 (s.ent x).ops (after sh (fun x => (s.ent x).ops) pre fun _ => 0)).2.2
/-- What is not executed may become another. -/
theorem ValN.same {sh : Int} {s t : NodeL} (V : ValN sh s) (hd : t.did = s.did) (hv : t.vals = s.vals) (he : ∀ x ∈ s.did, t.ent x = s.ent x) : ValN sh t := by
  refine ⟨?_, fun pre x post e => ?_⟩
  · rw [hv, hd, V.all]
    exact after_congr sh _ _ fun x hx => by rw [he x hx]
  · rw [hd] at e
    have hx : x ∈ s.did := by rw [e]; simp
    rw [he x hx]
    have : after sh (fun x => (t.ent x).ops) pre (fun _ => 0) = after sh (fun x => (s.ent x).ops) pre (fun _ => 0) := after_congr sh _ _ fun y hy => by rw [he y (by rw [e]; simp [hy])]
    rw [this]
    exact V.each pre x post e
theorem val_exec {sh : Int} {s : NodeL} (h : GoodN s) (V : ValN sh s) {n : Nat} (hn : n < 32) (hs : (s.ent n).state = 2) : ValN sh (s.exec sh n) := by
  have ops : (fun x => ((s.exec sh n).ent x).ops) = fun x => (s.ent x).ops := by
    funext x
    exact congrArg Prod.fst (exec_core s sh hs x)
  have did : (s.exec sh n).did = s.did ++ [n] := by unfold NodeL.did NodeL.exec; simp
  have no : n ∉ s.did := fun e => by
    have := (did_iff h hn).1 e
    omega
  have same : (s.exec sh n).ent n = ⟨3, (s.ent n).ops, (s.ent n).first, (s.ent n).deps, (runOps sh 0 (s.ent n).ops s.vals).2.1, (runOps sh 0 (s.ent n).ops s.vals).2.2⟩ := upd_same _ _ _
  refine ⟨?_, fun pre x post e => ?_⟩
  · rw [ops, did, after_append]
    show (runOps sh 0 (s.ent n).ops s.vals).1 = (runOps sh 0 (s.ent n).ops (after sh (fun x => (s.ent x).ops) s.did fun _ => 0)).1
    rw [← V.all]
  · rw [ops]
    rw [did] at e
    rw [List.append_eq_append_iff] at e
    have last : ∀ p q, [n] = p ++ x :: q → s.did ++ p = pre → ((s.exec sh n).ent x).ats = (runOps sh 0 ((s.exec sh n).ent x).ops (after sh (fun x => (s.ent x).ops) pre fun _ => 0)).2.1 ∧ ((s.exec sh n).ent x).vals = (runOps sh 0 ((s.exec sh n).ent x).ops (after sh (fun x => (s.ent x).ops) pre fun _ => 0)).2.2 := by
      intro p q e1 e2
      cases p with
      | nil =>
        simp at e1 e2
        obtain ⟨rfl, _⟩ := e1
        rw [same, ← e2, ← V.all]
        exact ⟨rfl, rfl⟩
      | cons a p => simp at e1
    rcases e with ⟨qs, e1, e2⟩ | ⟨bs, e1, e2⟩
    · exact last qs post e2 e1.symm
    · cases bs with
      | nil => exact last [] post (by simpa using e2.symm) (by simpa using e1)
      | cons b bs =>
        simp only [List.cons_append, List.cons.injEq] at e2
        obtain ⟨rfl, _⟩ := e2
        have hx : x ∈ s.did := by rw [e1]; simp
        have : (s.exec sh n).ent x = s.ent x := upd_other _ _ (fun e => no (e ▸ hx))
        rw [this]
        exact V.each pre x bs e1
theorem val_execs (sh : Int) : ∀ (l : List Nat) {s : NodeL}, (∀ x ∈ l, x < 32) → GoodN s → ValN sh s → ValN sh (s.execs sh l)
  | [], _, _, _, V => V
  | a :: l, s, hl, h, V => by
    have h1 : GoodN (NodeL.execIf sh s a) ∧ ValN sh (NodeL.execIf sh s a) := by
      unfold NodeL.execIf
      split
      · rename_i e; exact ⟨good_exec h sh (hl a (by simp)) e, val_exec h V (hl a (by simp)) e⟩
      · exact ⟨h, V⟩
    exact val_execs (s := NodeL.execIf sh s a) sh l (fun x hx => hl x (by simp [hx])) h1.1 h1.2
theorem val_settle {sh : Int} {s : NodeL} (h : GoodN s) (V : ValN sh s) : ValN sh (s.settle sh) := by
  have : ∀ (l : List Nat) (t : NodeL), GoodN t → ValN sh t → ValN sh (l.foldl (NodeL.round s.graph sh) t) := by
    intro l
    induction l with
    | nil => exact fun t _ ht => ht
    | cons a l ih =>
      intro t ht hv
      have h1 : GoodN (NodeL.round s.graph sh t a) ∧ ValN sh (NodeL.round s.graph sh t a) := by
        unfold NodeL.round
        split
        · exact ⟨good_execs (s := t) sh _ (order_below _ _) ht, val_execs (s := t) sh _ (order_below _ _) ht hv⟩
        · exact ⟨ht, hv⟩
      exact ih _ h1.1 h1.2
  exact this _ s h V
theorem val_take {s : NodeL} {who : Int} {f : FrameL} (V : ValN (ofL who) s) : ValN (ofL who) (takeN s who f).1 := by
  rcases take_cases s who f with ⟨_, h1, _⟩ | ⟨hg, hf, _, _, _, _, ⟨hk, _, e⟩ | ⟨hk, e⟩⟩
  · rw [h1]; exact V
  · rw [e]
    obtain ⟨i1, i2, _⟩ := frame_has hf
    show ValN _ (s.asked (ofL who) f)
    unfold NodeL.asked
    split
    · rename_i h0
      refine V.same rfl rfl fun x hx => heard_other s _ f fun e => ?_
      subst e
      have := (did_iff hg (by omega)).1 hx
      omega
    · exact V
  · rw [e]
    obtain ⟨i1, i2, _⟩ := frame_has hf
    show ValN _ (s.commit (ofL who) f)
    unfold NodeL.commit
    split
    · rename_i h0
      refine val_settle (good_placed hg _ hf hk h0) (V.same rfl rfl fun x hx => upd_other _ _ fun e => ?_)
      subst e
      have := (did_iff hg (by omega)).1 hx
      omega
    · exact V

end Go.Proofs.YtkoefoccbjhoiacGreat

namespace Go.Proofs.YtkoefoccbjhoiacGreat
open Go.RowKit

def Within (a : Int) : Prop := -1099511627776 ≤ a ∧ a ≤ 1099511627776
theorem near_same {a : Int} (h : Within a) : near a = a := by
  unfold near
  rw [if_neg (by have := h.1; omega), if_neg (by have := h.2; omega)]
theorem do_within (v kind n : Int) : Within (doL v kind n) := by
  unfold doL
  split
  · exact ⟨near_lo _, near_hi _⟩
  · split <;> exact ⟨near_lo _, near_hi _⟩
theorem do_read {v : Int} (h : Within v) (n : Int) : doL v 1 n = v := by
  unfold doL
  rw [if_neg (by decide), if_neg (by decide), near_same h]

/-! ### One key -/
def keyRun (k : Nat) : List OpL → Int → Int
  | [], a => a
  | o :: r, a => keyRun k r (if o.2.1.toNat = k then doL a o.1 o.2.2 else a)
def writesB (k : Nat) (ops : List OpL) : Bool := ops.any fun o => o.2.1.toNat == k && o.1 != 1
theorem keyRun_within (k : Nat) : ∀ (ops : List OpL) (a : Int), Within a → Within (keyRun k ops a)
  | [], _, h => h
  | o :: r, a, h => by
    refine keyRun_within k r _ ?_
    split
    · exact do_within _ _ _
    · exact h
theorem keyRun_quiet (k : Nat) : ∀ (ops : List OpL) (a : Int), writesB k ops = false → Within a → keyRun k ops a = a
  | [], _, _, _ => rfl
  | o :: r, a, h, ha => by
    unfold writesB at h
    rw [List.any_cons, Bool.or_eq_false_iff] at h
    have h2 : writesB k r = false := h.2
    show keyRun k r (if o.2.1.toNat = k then doL a o.1 o.2.2 else a) = a
    have e : (if o.2.1.toNat = k then doL a o.1 o.2.2 else a) = a := by
      split
      · rename_i hk
        have : o.1 = 1 := by
          have h1 := h.1
          rw [hk] at h1
          simpa using h1
        rw [this]
        exact do_read ha _
      · rfl
    rw [e]
    exact keyRun_quiet k r a h2 ha
/-- A transaction as a whole: the values then, and what it tells. -/
def runAll : List OpL → (Nat → Int) → (Nat → Int) × List Int
  | [], v => (v, [])
  | o :: r, v => ((runAll r (upd v o.2.1.toNat (doL (v o.2.1.toNat) o.1 o.2.2))).1, doL (v o.2.1.toNat) o.1 o.2.2 :: (runAll r (upd v o.2.1.toNat (doL (v o.2.1.toNat) o.1 o.2.2))).2)
theorem runAll_key (k : Nat) : ∀ (ops : List OpL) (v : Nat → Int), (runAll ops v).1 k = keyRun k ops (v k)
  | [], _ => rfl
  | o :: r, v => by
    show (runAll r (upd v o.2.1.toNat (doL (v o.2.1.toNat) o.1 o.2.2))).1 k = keyRun k r (if o.2.1.toNat = k then doL (v k) o.1 o.2.2 else v k)
    rw [runAll_key k r]
    congr 1
    by_cases e : o.2.1.toNat = k
    · rw [if_pos e, ← e, upd_same]
    · rw [if_neg e, upd_other _ _ (fun h => e h.symm)]
theorem runOps_key (sh : Int) (k : Nat) (hk : (k : Int) % 2 = sh) : ∀ (ops : List OpL) (i : Nat) (v : Nat → Int), (∀ o ∈ ops, 0 ≤ o.2.1) → (runOps sh i ops v).1 k = keyRun k ops (v k)
  | [], _, _, _ => rfl
  | o :: r, i, v, h => by
    have h0 := h o (by simp)
    have hr : ∀ p ∈ r, 0 ≤ p.2.1 := fun p hp => h p (by simp [hp])
    show _ = keyRun k r (if o.2.1.toNat = k then doL (v k) o.1 o.2.2 else v k)
    unfold runOps
    split
    · rw [runOps_key sh k hk r (i + 1) _ hr]
      congr 1
      by_cases e : o.2.1.toNat = k
      · rw [if_pos e, ← e, upd_same]
      · rw [if_neg e, upd_other _ _ (fun h => e h.symm)]
    · rename_i hs
      rw [runOps_key sh k hk r (i + 1) _ hr]
      congr 1
      rw [if_neg]
      intro e
      apply hs
      have : o.2.1 = (k : Int) := by omega
      rw [this, hk]
      simp
/-- What a shard tells of a transaction is what it tells as a whole, where the values ahead of it are the same. -/
theorem told_same (sh : Int) : ∀ (ops : List OpL) (i : Nat) (v u : Nat → Int), (∀ o ∈ ops, 0 ≤ o.2.1) → (∀ o ∈ ops, o.2.1 % 2 = sh → v o.2.1.toNat = u o.2.1.toNat) →
    ∀ a w, (a, w) ∈ (runOps sh i ops v).2.1.zip (runOps sh i ops v).2.2 → ∃ p : Nat, p < ops.length ∧ a = (i : Int) + p ∧ (runAll ops u).2[p]? = some w
  | [], _, _, _, _, _, a, w, h => by simp [runOps] at h
  | o :: r, i, v, u, h0, hv, a, w, h => by
    have hr : ∀ p ∈ r, 0 ≤ p.2.1 := fun p hp => h0 p (by simp [hp])
    have ho := h0 o (by simp)
    have next : ∀ (v' : Nat → Int), (∀ p ∈ r, p.2.1 % 2 = sh → v' p.2.1.toNat = upd u o.2.1.toNat (doL (u o.2.1.toNat) o.1 o.2.2) p.2.1.toNat) → (a, w) ∈ (runOps sh (i + 1) r v').2.1.zip (runOps sh (i + 1) r v').2.2 →
        ∃ p : Nat, p < (o :: r).length ∧ a = (i : Int) + p ∧ (runAll (o :: r) u).2[p]? = some w := by
      intro v' hv' hm
      obtain ⟨p, h1, h2, h3⟩ := told_same sh r (i + 1) v' _ hr hv' a w hm
      refine ⟨p + 1, by simp; exact h1, by rw [h2]; push_cast; omega, ?_⟩
      show (_ :: (runAll r _).2)[p + 1]? = some w
      rw [List.getElem?_cons_succ]
      exact h3
    unfold runOps at h
    split at h
    · rename_i hs
      have hs' : o.2.1 % 2 = sh := by simpa using hs
      have e := hv o (by simp) hs'
      rw [List.zip_cons_cons, List.mem_cons] at h
      rcases h with h | h
      · obtain ⟨rfl, rfl⟩ := Prod.mk.inj h
        exact ⟨0, by simp, by simp, by show some (doL (u o.2.1.toNat) o.1 o.2.2) = _; rw [e]⟩
      · refine next _ (fun p hp hps => ?_) h
        rw [e]
        by_cases ek : p.2.1.toNat = o.2.1.toNat
        · rw [ek, upd_same, upd_same]
        · rw [upd_other _ _ ek, upd_other _ _ ek]
          exact hv p (by simp [hp]) hps
    · rename_i hs
      refine next v (fun p hp hps => ?_) h
      have hp0 := hr p hp
      rw [upd_other _ _ (fun ek => ?_)]
      · exact hv p (by simp [hp]) hps
      · apply hs
        have : o.2.1 = p.2.1 := by omega
        rw [this, hps]
        simp

/-! ### One key over a list of transactions -/
def keyFold (k : Nat) (ops : Nat → List OpL) : List Nat → Int → Int
  | [], a => a
  | x :: l, a => keyFold k ops l (keyRun k (ops x) a)
theorem keyFold_filter (k : Nat) (ops : Nat → List OpL) : ∀ (l : List Nat) (a : Int), Within a → keyFold k ops l a = keyFold k ops (l.filter fun x => writesB k (ops x)) a
  | [], _, _ => rfl
  | x :: l, a, h => by
    show keyFold k ops l (keyRun k (ops x) a) = _
    cases hw : writesB k (ops x)
    · rw [List.filter_cons_of_neg (by simp [hw]), keyRun_quiet k _ a hw h]
      exact keyFold_filter k ops l a h
    · rw [List.filter_cons_of_pos (p := fun x => writesB k (ops x)) hw]
      exact keyFold_filter k ops l _ (keyRun_within k _ a h)
theorem after_key (sh : Int) (k : Nat) (hk : (k : Int) % 2 = sh) (ops : Nat → List OpL) : ∀ (l : List Nat) (v : Nat → Int), (∀ x ∈ l, ∀ o ∈ ops x, 0 ≤ o.2.1) → after sh ops l v k = keyFold k ops l (v k)
  | [], _, _ => rfl
  | x :: l, v, h => by
    show after sh ops l (runOps sh 0 (ops x) v).1 k = keyFold k ops l (keyRun k (ops x) (v k))
    rw [after_key sh k hk ops l _ (fun y hy => h y (by simp [hy])), runOps_key sh k hk _ 0 v (h x (by simp))]
/-- One after the other, as a whole. -/
def serial (ops : Nat → List OpL) : List Nat → (Nat → Int) → (Nat → Int)
  | [], v => v
  | x :: l, v => serial ops l (runAll (ops x) v).1
theorem serial_key (k : Nat) (ops : Nat → List OpL) : ∀ (l : List Nat) (v : Nat → Int), serial ops l v k = keyFold k ops l (v k)
  | [], _ => rfl
  | x :: l, v => by
    show serial ops l (runAll (ops x) v).1 k = keyFold k ops l (keyRun k (ops x) (v k))
    rw [serial_key k ops l, runAll_key]

/-! ### Lists in which the same stand alike -/
theorem idx_cons {a y : Nat} {l : List Nat} (h : y ≠ a) : (a :: l).idxOf y = l.idxOf y + 1 := by
  rw [List.idxOf_cons]
  have : (a == y) = false := by simpa using fun e => h e.symm
  rw [this]
  rfl
theorem idx_head (a : Nat) (l : List Nat) : (a :: l).idxOf a = 0 := by simp
theorem same_list : ∀ {l m : List Nat}, l.Nodup → m.Nodup → (∀ x, x ∈ l ↔ x ∈ m) → (∀ x ∈ l, ∀ y ∈ l, x ≠ y → (l.idxOf y < l.idxOf x ↔ m.idxOf y < m.idxOf x)) → l = m
  | [], [], _, _, _, _ => rfl
  | [], b :: m, _, _, h, _ => by have := (h b).2 (by simp); simp at this
  | a :: l, [], _, _, h, _ => by have := (h a).1 (by simp); simp at this
  | a :: l, b :: m, h1, h2, h, ho => by
    have hab : a = b := by
      cases Classical.em (a = b) with
      | inl e => exact e
      | inr e =>
        have hb : b ∈ a :: l := (h b).2 (by simp)
        have := (ho b hb a (by simp) (fun k => e k.symm)).1 (by rw [idx_head, idx_cons (fun k => e k.symm)]; omega)
        rw [idx_head] at this
        omega
    subst hab
    rw [List.nodup_cons] at h1 h2
    have na : ∀ x ∈ l, x ≠ a := fun x hx e => h1.1 (e ▸ hx)
    have : l = m := by
      refine same_list h1.2 h2.2 (fun x => ?_) (fun x hx y hy hxy => ?_)
      · constructor
        · intro hx
          have := (h x).1 (by simp [hx])
          rcases List.mem_cons.1 this with e | e
          · exact absurd e (na x hx)
          · exact e
        · intro hx
          have := (h x).2 (by simp [hx])
          rcases List.mem_cons.1 this with e | e
          · exact absurd (e ▸ hx) h2.1
          · exact e
      · have := ho x (by simp [hx]) y (by simp [hy]) hxy
        rw [idx_cons (na x hx), idx_cons (na y hy), idx_cons (na x hx), idx_cons (na y hy)] at this
        omega
    rw [this]
theorem idx_filter {p : Nat → Bool} : ∀ {l : List Nat} {x y : Nat}, x ∈ l.filter p → y ∈ l.filter p → ((l.filter p).idxOf y < (l.filter p).idxOf x ↔ l.idxOf y < l.idxOf x)
  | [], x, y, hx, _ => by simp at hx
  | a :: l, x, y, hx, hy => by
    cases hp : p a
    · rw [List.filter_cons_of_neg (by simp [hp])] at hx hy ⊢
      have nx : x ≠ a := fun e => by
        have := (List.mem_filter.1 hx).2
        rw [e, hp] at this; cases this
      have ny : y ≠ a := fun e => by
        have := (List.mem_filter.1 hy).2
        rw [e, hp] at this; cases this
      rw [idx_filter hx hy, idx_cons nx, idx_cons ny]
      omega
    · rw [List.filter_cons_of_pos hp] at hx hy ⊢
      by_cases ex : x = a
      · subst ex
        rw [idx_head, idx_head]
        omega
      · by_cases ey : y = a
        · subst ey
          rw [idx_head, idx_head, idx_cons ex, idx_cons ex]
          omega
        · rw [idx_cons ex, idx_cons ey, idx_cons ex, idx_cons ey]
          have := idx_filter (p := p) (l := l) (x := x) (y := y) ((List.mem_cons.1 hx).resolve_left ex) ((List.mem_cons.1 hy).resolve_left ey)
          omega

/-! ### What was told is what it comes to -/
theorem meets_at {a b : List OpL} {o : OpL} (ho : o ∈ a) (h0 : 0 ≤ o.2.1) (hb : ∀ p ∈ b, 0 ≤ p.2.1) (hw : writesB o.2.1.toNat b = true) : conflictL a b (o.2.1 % 2) = true := by
  unfold writesB at hw
  obtain ⟨p, hp, h⟩ := List.any_eq_true.1 hw
  simp at h
  have := hb p hp
  refine (conflict_iff _ _ _).2 ⟨o, ho, p, hp, rfl, ?_⟩
  have e : o.2.1 = p.2.1 := by omega
  unfold meetB
  simp [e, h.2]
theorem write_has {k : Nat} {b : List OpL} (hw : writesB k b = true) : ∃ p ∈ b, p.2.1.toNat = k := by
  unfold writesB at hw
  obtain ⟨p, hp, h⟩ := List.any_eq_true.1 hw
  simp at h
  exact ⟨p, hp, h.1⟩
theorem InvS.serial {S : Sys} (h : InvS S) {n : Nat} (hn : n < 6) (sn : SortN (S.B n)) (vn : ValN (ofL n) (S.B n)) (hkeys : ∀ y, y < 32 → (S.C y).fixed = true → ∀ o ∈ (S.C y).ops, 0 ≤ o.2.1)
    {L : List Nat} (hL : Sorted (hangB S.graph) L) (hall : ∀ y, y < 32 → (∀ d, d < 32 → hangB S.graph y d = true → (S.C d).fixed = true) → y ∈ L) (hfix : ∀ y ∈ L, (S.C y).fixed = true)
    {x : Nat} (hx : x ∈ (S.B n).did) {pre post : List Nat} (e : L = pre ++ x :: post) (a w : Int) (hm : (a, w) ∈ ((S.B n).ent x).ats.zip ((S.B n).ent x).vals) :
    ∃ p : Nat, p < (S.C x).ops.length ∧ a = (p : Int) ∧ (runAll (S.C x).ops (serial (fun y => (S.C y).ops) pre fun _ => 0)).2[p]? = some w := by
  have hD := h.sorted hn sn
  have x32 := hD.lt x hx
  have fx := h.did_fixed hn x32 hx
  have inL : ∀ y ∈ (S.B n).did, y ∈ L := fun y hy => hall y (hD.lt y hy) fun d hd hyd => h.did_fixed hn hd (hD.closed y hy d hd hyd)
  have opsE : ∀ y ∈ (S.B n).did, ((S.B n).ent y).ops = (S.C y).ops := fun y hy => (h.ent1 n hn y (hD.lt y hy) (by rw [(did_iff (h.good n hn) (hD.lt y hy)).1 hy]; decide)).2
  obtain ⟨pn, qn, en, xpn⟩ := split_of hD.nodup hx
  have xpre : x ∉ pre := fun hp => by
    have := hL.nodup
    rw [e, List.nodup_append] at this
    exact this.2.2 x hp x (by simp) rfl
  obtain ⟨v1, v2⟩ := vn.each pn x qn en
  rw [v1, v2, opsE x hx, after_congr (ops' := fun y => (S.C y).ops) _ pn _ (fun y hy => opsE y (by rw [en]; simp [hy]))] at hm
  have kx := hkeys x x32 fx
  have iN : ∀ y, y ∈ pn ↔ (S.B n).did.idxOf y < (S.B n).did.idxOf x := fun y => by rw [en, idx_at xpn]; exact idx_pre
  have iL : ∀ y, y ∈ pre ↔ L.idxOf y < L.idxOf x := fun y => by rw [e, idx_at xpre]; exact idx_pre
  have xL := inL x hx
  have sh2 : ∃ sh : Nat, sh < 2 ∧ ofL n = (sh : Int) := by
    rw [ofL_nat]
    split
    · exact ⟨0, by omega, rfl⟩
    · exact ⟨1, by omega, rfl⟩
  obtain ⟨sh, hsh, esh⟩ := sh2
  have key : ∀ o ∈ (S.C x).ops, o.2.1 % 2 = ofL n → after (ofL n) (fun y => (S.C y).ops) pn (fun _ => 0) o.2.1.toNat = Go.Proofs.YtkoefoccbjhoiacGreat.serial (fun y => (S.C y).ops) pre (fun _ => 0) o.2.1.toNat := by
    intro o ho hos
    obtain ⟨k, hk⟩ : ∃ k, k = o.2.1.toNat := ⟨_, rfl⟩
    have o0 := kx o ho
    have hk2 : (k : Int) % 2 = ofL n := by rw [hk, ← hos]; congr 1; omega
    rw [← hk, after_key _ k hk2 _ pn _ (fun y hy => hkeys y (hD.lt y (by rw [en]; simp [hy])) (h.did_fixed hn (hD.lt y (by rw [en]; simp [hy])) (by rw [en]; simp [hy]))), serial_key,
      keyFold_filter k _ pn _ (by unfold Within; decide), keyFold_filter k _ pre _ (by unfold Within; decide)]
    congr 1
    -- who writes the key, and x
    have hang : ∀ y, y < 32 → y ≠ x → (S.C y).fixed = true → writesB k (S.C y).ops = true → hangB S.graph x y = true ∨ hangB S.graph y x = true := by
      intro y hy hne fy hw
      refine h.hang x32 hy (Ne.symm hne) fx fy hsh ?_
      rw [← esh, ← hos]
      exact meets_at ho o0 (hkeys y hy fy) (hk ▸ hw)
    -- two who write it
    have hang2 : ∀ y z, y < 32 → z < 32 → y ≠ z → (S.C y).fixed = true → (S.C z).fixed = true → writesB k (S.C y).ops = true → writesB k (S.C z).ops = true → hangB S.graph y z = true ∨ hangB S.graph z y = true := by
      intro y z hy hz hne fy fz wy wz
      obtain ⟨q, hq, eq⟩ := write_has wy
      have q0 := hkeys y hy fy q hq
      refine h.hang hy hz hne fy fz hsh ?_
      have : (sh : Int) = q.2.1 % 2 := by
        rw [← esh, ← hk2]
        congr 1
        omega
      rw [this]
      exact meets_at hq q0 (hkeys z hz fz) (eq ▸ wz)
    refine same_list (List.Pairwise.filter _ ?_) (List.Pairwise.filter _ ?_) (fun y => ?_) (fun y hy z hz hyz => ?_)
    · have := hD.nodup
      rw [en, List.nodup_append] at this
      exact this.1
    · have := hL.nodup
      rw [e, List.nodup_append] at this
      exact this.1
    · rw [List.mem_filter, List.mem_filter]
      constructor
      · rintro ⟨hp, hw⟩
        have yd : y ∈ (S.B n).did := by rw [en]; simp [hp]
        have hne : y ≠ x := fun k => xpn (k ▸ hp)
        have y32 := hD.lt y yd
        refine ⟨(iL y).2 ?_, hw⟩
        rw [← hD.alike hL hx yd xL (inL y yd) (Ne.symm hne) (hang y y32 hne (h.did_fixed hn y32 yd) hw)]
        exact (iN y).1 hp
      · rintro ⟨hp, hw⟩
        have yL : y ∈ L := by rw [e]; simp [hp]
        have hne : y ≠ x := fun k => xpre (k ▸ hp)
        have y32 := hL.lt y yL
        have H := hang y y32 hne (hfix y yL) hw
        have hlt := (iL y).1 hp
        have hxy : hangB S.graph x y = true := by
          cases hb : hangB S.graph x y
          · have := (hL.place yL x32 hne (H.resolve_left (by rw [hb]; simp))).2 (Or.inl hb)
            omega
          · rfl
        have yd := hD.closed x hx y y32 hxy
        refine ⟨(iN y).2 ?_, hw⟩
        rw [hD.alike hL hx yd xL yL (Ne.symm hne) H]
        exact hlt
    · rw [idx_filter hy hz]
      have hy1 := (List.mem_filter.1 hy).1
      have hz1 := (List.mem_filter.1 hz).1
      have yd : y ∈ (S.B n).did := by rw [en]; simp [hy1]
      have zd : z ∈ (S.B n).did := by rw [en]; simp [hz1]
      have y32 := hD.lt y yd
      have z32 := hD.lt z zd
      have wy := (List.mem_filter.1 hy).2
      have wz := (List.mem_filter.1 hz).2
      have fy := h.did_fixed hn y32 yd
      have fz := h.did_fixed hn z32 zd
      have up : ∀ y ∈ pn, writesB k (S.C y).ops = true → y ∈ pre := by
        intro y hp hw
        have yd : y ∈ (S.B n).did := by rw [en]; simp [hp]
        have hne : y ≠ x := fun k => xpn (k ▸ hp)
        have y32 := hD.lt y yd
        refine (iL y).2 ?_
        rw [← hD.alike hL hx yd xL (inL y yd) (Ne.symm hne) (hang y y32 hne (h.did_fixed hn y32 yd) hw)]
        exact (iN y).1 hp
      have yp := up y hy1 wy
      have zp := up z hz1 wz
      rw [idx_filter (List.mem_filter.2 ⟨yp, wy⟩) (List.mem_filter.2 ⟨zp, wz⟩)]
      have A := hD.alike hL yd zd (inL y yd) (inL z zd) hyz (hang2 y z y32 z32 hyz fy fz wy wz)
      rw [en, e, idx_prefix hy1 hz1, idx_prefix yp zp] at A
      exact A
  obtain ⟨p, h1, h2, h3⟩ := told_same (ofL n) (S.C x).ops 0 _ _ kx key a w hm
  exact ⟨p, h1, by rw [h2]; simp, h3⟩

end Go.Proofs.YtkoefoccbjhoiacGreat

namespace Go.Proofs.YtkoefoccbjhoiacGreat
open Go.RowKit

/-- The orders of the first k, one behind the other, each once. -/
def orderAll (g : GraphL) (k : Nat) : List Nat := (List.range k).foldl (fun L (n : Nat) => L ++ (orderI g (n : Int)).filter fun x => !L.contains x) []
theorem orderAll_succ (g : GraphL) (k : Nat) : orderAll g (k + 1) = orderAll g k ++ (orderI g (k : Int)).filter fun x => !(orderAll g k).contains x := by
  unfold orderAll
  rw [List.range_succ, List.foldl_append]
  rfl
theorem ready_iff {g : GraphL} {n : Nat} (hn : n < 32) : readyI g (n : Int) = true ↔ ∀ d, d < 32 → hangB g n d = true → g.known d = true := by
  unfold readyI
  have : txnB' (n : Int) = true := by unfold txnB'; simp; omega
  rw [this, Bool.true_and]
  exact knowsB_iff
theorem orderI_spec {g : GraphL} {n : Nat} (hn : n < 32) : orderI g (n : Int) = if readyI g (n : Int) = true then outS (hangB g) (hangB g n) 32 else [] := by
  cases hr : readyI g (n : Int)
  · rw [if_neg (by simp)]
    unfold orderI
    rw [hr]
    rfl
  · rw [if_pos rfl, ← order_spec g hn]
    unfold orderI
    rw [hr]
    rfl
theorem orderAll_good (g : GraphL) : ∀ k, k ≤ 32 → Sorted (hangB g) (orderAll g k) ∧ (∀ y, y < k → (∀ d, d < 32 → hangB g y d = true → g.known d = true) → y ∈ orderAll g k) ∧ ∀ y ∈ orderAll g k, ∀ d, d < 32 → hangB g y d = true → g.known d = true
  | 0, _ => ⟨sorted_nil _, fun y hy => by omega, fun y hy => by simp [orderAll] at hy⟩
  | k + 1, hk => by
    obtain ⟨i1, i2, i3⟩ := orderAll_good g k (by omega)
    have hk32 : k < 32 := by omega
    have hc := clo_hang g hk32
    rw [orderAll_succ, orderI_spec hk32]
    by_cases hr : readyI g (k : Int) = true
    · rw [if_pos hr]
      have hrd := (ready_iff hk32).1 hr
      refine ⟨sorted_more hc i1, fun y hy hd => ?_, fun y hy d hd hyd => ?_⟩
      · by_cases e : y < k
        · exact List.mem_append_left _ (i2 y e hd)
        · obtain rfl : y = k := by omega
          by_cases hm : y ∈ orderAll g y
          · exact List.mem_append_left _ hm
          · refine List.mem_append_right _ (List.mem_filter.2 ⟨(outS_all hc y).2 ((hangB_iff g hk32 y).2 (.refl y)), by simpa using hm⟩)
      · rcases List.mem_append.1 hy with h | h
        · exact i3 y h d hd hyd
        · have := (outS_all hc y).1 (List.mem_filter.1 h).1
          exact hrd d hd (hc.closed y d this hyd)
    · rw [if_neg hr, List.filter_nil, List.append_nil]
      refine ⟨i1, fun y hy hd => ?_, i3⟩
      by_cases e : y < k
      · exact i2 y e hd
      · obtain rfl : y = k := by omega
        exact absurd ((ready_iff hk32).2 hd) hr
/-- TopSerial: in the order of all, done one after the other as a whole, each tells just what any node told of it. -/
theorem InvS.serial_all {S : Sys} (h : InvS S) {n : Nat} (hn : n < 6) (sn : SortN (S.B n)) (vn : ValN (ofL n) (S.B n)) (hkeys : ∀ y, y < 32 → (S.C y).fixed = true → ∀ o ∈ (S.C y).ops, 0 ≤ o.2.1)
    {x : Nat} (hx : x ∈ (S.B n).did) : ∃ pre post, orderAll S.graph 32 = pre ++ x :: post ∧ ∀ a w, (a, w) ∈ ((S.B n).ent x).ats.zip ((S.B n).ent x).vals →
      ∃ p : Nat, p < (S.C x).ops.length ∧ a = (p : Int) ∧ (runAll (S.C x).ops (Go.Proofs.YtkoefoccbjhoiacGreat.serial (fun y => (S.C y).ops) pre fun _ => 0)).2[p]? = some w := by
  obtain ⟨o1, o2, o3⟩ := orderAll_good S.graph 32 (Nat.le_refl _)
  have hD := h.sorted hn sn
  have hin : x ∈ orderAll S.graph 32 := o2 x (hD.lt x hx) fun d hd hxd => h.did_fixed hn hd (hD.closed x hx d hd hxd)
  obtain ⟨pre, post, e, _⟩ := split_of o1.nodup hin
  refine ⟨pre, post, e, fun a w hm => ?_⟩
  exact h.serial hn sn vn hkeys o1 (fun y hy hd => o2 y hy hd) (fun y hy => o3 y hy y (o1.lt y hy) ((hangB_iff _ (o1.lt y hy) y).2 (.refl y))) hx e a w hm

/-! ### Who began when another one had been told -/
/-- b is fixed with all that it hangs on, and a is none of these; whoever told of b has it ahead of a. -/
structure Late (S : Sys) (a b : Nat) : Prop where
  fixed : ∀ d, d < 32 → hangB S.graph b d = true → (S.C d).fixed = true ∧ d ≠ a
  begun : (S.C a).begun = true
  first : ∀ n, n < 6 → (S.C b).told n = true → 1 ≤ ((S.B n).ent a).state → conflictL (S.C a).ops (S.C b).ops (ofL n) = true → (b : Int) ∈ ((S.B n).ent a).first
theorem Late.self {S : Sys} {a b : Nat} (hb : b < 32) (h : Late S a b) : (S.C b).fixed = true ∧ b ≠ a := h.fixed b hb ((hangB_iff _ hb b).2 (.refl b))
/-- TopTime: who began when another one had been told stands behind it, wherever they are in one another's way. -/
theorem Late.behind {S : Sys} {a b : Nat} (hI : InvS S) (ha : a < 32) (hb : b < 32) (h : Late S a b) {n : Nat} (hn : n < 6) (sn : SortN (S.B n)) (hd : a ∈ (S.B n).did) {sh : Nat} (hs : sh < 2)
    (hc : conflictL (S.C a).ops (S.C b).ops (sh : Int) = true) : b ∈ (S.B n).did ∧ (S.B n).did.idxOf b < (S.B n).did.idxOf a := by
  obtain ⟨fb, hne⟩ := h.self hb
  have fa := hI.did_fixed hn ha hd
  obtain ⟨t1, t2⟩ := conflict_touches hc
  obtain ⟨k, hk, ka, kb⟩ := most_meet (most_told (hI.most a ha fa).2 hs t1) (most_told (hI.most b hb fb).2 hs t2)
  have hm : sh * 3 + k < 6 := by omega
  have ho : ofL ((sh * 3 + k : Nat) : Int) = (sh : Int) := by
    rw [ofL_nat]
    split
    · have : sh = 0 := by omega
      subst this; rfl
    · have : sh = 1 := by omega
      subst this; rfl
  obtain ⟨a1, a2⟩ := hI.told a ha _ hm ka
  have hf := h.first _ hm kb a1 (by rw [ho]; exact hc)
  have H : hangB S.graph a b = true := hang_dep ha hb fa (a2 _ hf)
  have hD := hI.sorted hn sn
  refine ⟨hD.closed a hd b hb H, (hD.place hd hb (Ne.symm hne) H).2 (Or.inl ?_)⟩
  cases e : hangB S.graph b a
  · rfl
  · exact absurd rfl (h.fixed a ha e).2
/-- It begins: a comes anew, when b is executed somewhere. -/
theorem Late.new {S : Sys} {a b : Nat} (hI : InvS S) (ha : a < 32) (hz : (S.C a).begun = false) {m : Nat} (hm : m < 6) (sm : SortN (S.B m)) (hd : b ∈ (S.B m).did) (c : CaseL) (hc : c.begun = true) (N : FrameL → Prop) :
    Late ⟨S.B, upd S.C a c, N⟩ a b := by
  have hD := hI.sorted hm sm
  have hb := hD.lt b hd
  have na : ∀ d, d < 32 → (S.C d).fixed = true → d ≠ a := fun d hd32 hf e => by
    subst e
    rw [(hI.most d hd32 hf).1] at hz; cases hz
  have fixedD : ∀ d ∈ (S.B m).did, (S.C d).fixed = true := fun d hdd => hI.did_fixed hm (hD.lt d hdd) hdd
  have same : ∀ d, hangB S.graph b d = hangB (Sys.graph ⟨S.B, upd S.C a c, N⟩) b d := by
    intro d
    refine hangB_over (P := fun x => x ∈ (S.B m).did) hD.lt (fun x hx y => ?_) (fun x y hx e => hD.closed x hx y (GraphL.adj_lt _ x y e) ((hangB_iff _ (hD.lt x hx) y).2 (.one e))) hd d
    have hne := na x (hD.lt x hx) (fixedD x hx)
    have e : upd S.C a c x = S.C x := upd_other _ _ hne
    unfold GraphL.adj Sys.graph
    simp only [e]
  refine ⟨fun d hd32 hbd => ?_, by show (upd S.C a c a).begun = true; rw [upd_same]; exact hc, fun n hn _ h1 _ => ?_⟩
  · rw [← same] at hbd
    have hdd := hD.closed b hd d hd32 hbd
    have hne := na d hd32 (fixedD d hdd)
    refine ⟨?_, hne⟩
    show (upd S.C a c d).fixed = true
    rw [upd_other _ _ hne]
    exact fixedD d hdd
  · exfalso
    have := (hI.ent1 n hn a ha h1).1
    rw [hz] at this; cases this
/-- What is fixed stays; who told stays; what stood ahead stays. -/
theorem Late.later {S T : Sys} {a b : Nat} (hI : InvS S) (ha : a < 32) (hb : b < 32) (h : Late S a b)
    (hf : ∀ d, d < 32 → (S.C d).fixed = true → (T.C d).fixed = true ∧ (T.C d).deps = (S.C d).deps ∧ (T.C d).told = (S.C d).told)
    (hbg : ∀ d, d < 32 → (S.C d).begun = true → (T.C d).begun = true ∧ (T.C d).ops = (S.C d).ops)
    (hB : ∀ n, n < 6 → 1 ≤ ((S.B n).ent a).state → ((T.B n).ent a).first = ((S.B n).ent a).first)
    (hN : ∀ n, n < 6 → ((S.B n).ent a).state < 1 → 1 ≤ ((T.B n).ent a).state → 1 ≤ ((S.B n).ent b).state → conflictL (S.C b).ops (S.C a).ops (ofL n) = true → (b : Int) ∈ ((T.B n).ent a).first) : Late T a b := by
  obtain ⟨fb, hne⟩ := h.self hb
  have same : ∀ d, hangB S.graph b d = hangB T.graph b d := by
    intro d
    refine hangB_over (P := fun x => x < 32 ∧ hangB S.graph b x = true) (fun x hx => hx.1) (fun x hx y => ?_) (fun x y hx e => ?_) ⟨hb, (hangB_iff _ hb b).2 (.refl b)⟩ d
    · obtain ⟨fx, _⟩ := h.fixed x hx.1 hx.2
      obtain ⟨e1, e2, _⟩ := hf x hx.1 fx
      unfold GraphL.adj Sys.graph
      simp only [fx, e1, e2]
    · have hy := GraphL.adj_lt _ x y e
      exact ⟨hy, (hangB_iff _ hb y).2 (((hangB_iff _ hb x).1 hx.2).trans (.one e))⟩
  have opsa := (hbg a ha h.begun)
  have opsb := (hbg b hb (hI.most b hb fb).1)
  refine ⟨fun d hd hbd => ?_, opsa.1, fun n hn ht h1 hc => ?_⟩
  · rw [← same] at hbd
    obtain ⟨fd, hda⟩ := h.fixed d hd hbd
    exact ⟨(hf d hd fd).1, hda⟩
  · rw [(hf b hb fb).2.2] at ht
    rw [opsa.2, opsb.2] at hc
    by_cases h0 : 1 ≤ ((S.B n).ent a).state
    · rw [hB n hn h0]
      exact h.first n hn ht h0 hc
    · exact hN n hn (by omega) h1 (hI.told b hb n hn ht).1 (by rw [conflict_comm]; exact hc)

end Go.Proofs.YtkoefoccbjhoiacGreat
