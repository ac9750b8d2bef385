/-
  Plain mathematics of a node: Good and Take as the document says them, whole; and what holds of them.
-/
import Derived.Test.YtgdkjjmnoikhdabNodeS
namespace Go.Proofs.Ytgdkjjmnoikhdab
open Go.RowKit

/-- P5.1, of one transaction, as a truth. -/
def entB (e : EntryL) (n : Nat) : Bool :=
  if e.state = 0 then e.ops.isEmpty && e.first.isEmpty && e.deps.isEmpty && e.ats.isEmpty && e.vals.isEmpty
  else decide (1 ≤ e.state ∧ e.state ≤ 3) && goodOpsL e.ops && (risingFrom (-1) e.first && !hasL e.first n) && (risingFrom (-1) e.deps && !hasL e.deps n) && (decide (e.state ≠ 1) || e.deps.isEmpty) &&
    (decide (e.state = 3) || e.ats.isEmpty) && atsFrom (-1) e.ops.length e.ats && decide (e.vals.length = e.ats.length)
def goodNB (s : NodeL) : Bool := ((List.range 32).all fun n => entB (s.ent n) n && decide (s.order.count (n : Int) = if (s.ent n).state = 3 then 1 else 0)) && s.order.all fun x => decide (0 ≤ x ∧ x < 32)

theorem entB_iff {e : EntryL} {n : Nat} : entB e n = true ↔ e = zeroE ∨ Fine e n := by
  obtain ⟨st, ops, fi, de, ats, vals⟩ := e
  unfold entB
  by_cases h : st = 0
  · subst h
    rw [if_pos rfl]
    constructor
    · intro h
      simp at h
      obtain ⟨⟨⟨⟨rfl, rfl⟩, rfl⟩, rfl⟩, rfl⟩ := h
      exact Or.inl rfl
    · rintro (h | h)
      · cases h; rfl
      · have h1 : (1 : Int) ≤ 0 := h.st.1
        omega
  · rw [if_neg h]
    simp only [Bool.and_eq_true, Bool.or_eq_true, decide_eq_true_iff, Bool.not_eq_true', List.isEmpty_iff]
    constructor
    · rintro ⟨⟨⟨⟨⟨⟨⟨h1, h2⟩, h3⟩, h4⟩, h5⟩, h6⟩, h7⟩, h8⟩
      exact Or.inr ⟨h1, h2, h3, h4, fun e => h5.resolve_left (fun h => h e), fun e => h6.resolve_left e, h7, h8⟩
    · rintro (e | F)
      · cases e; exact absurd rfl h
      · refine ⟨⟨⟨⟨⟨⟨⟨F.st, F.ops⟩, F.first⟩, F.deps⟩, ?_⟩, ?_⟩, F.ats⟩, F.vals⟩
        · by_cases e : st = 1
          · exact Or.inr (F.asked e)
          · exact Or.inl e
        · by_cases e : st = 3
          · exact Or.inl e
          · exact Or.inr (F.told e)
theorem goodNB_iff {s : NodeL} : goodNB s = true ↔ GoodN s := by
  unfold goodNB
  simp only [Bool.and_eq_true, List.all_eq_true, List.mem_range, decide_eq_true_iff, entB_iff]
  exact ⟨fun h => ⟨fun n hn => (h.1 n hn).1, fun n hn => (h.1 n hn).2, h.2⟩, fun h => ⟨fun n hn => ⟨h.ent n hn, h.cnt n hn⟩, h.lt⟩⟩

/-- P5.2, P5.3. -/
def takeN (s : NodeL) (who : Int) (f : FrameL) : NodeL × List FrameL × Int :=
  if goodNB s = false ∨ who < 0 ∨ 5 < who ∨ f.node ≠ who then (s, [], 2)
  else if goodL f ≠ 0 then (s, [], goodL f)
  else if f.kind = 1 then
    if touchesL f.ops (ofL who) = false then (s, [], 4)
    else (s.asked (ofL who) f, [⟨2, who, f.id, [], ((s.asked (ofL who) f).ent f.id.toNat).first, [], []⟩], 0)
  else if f.kind = 3 then (s.commit (ofL who) f, (s.commit (ofL who) f).answers (ofL who) who f.id, 0)
  else (s, [], 3)

/-- What a frame that is taken makes of a node: one of two things. -/
theorem take_cases (s : NodeL) (who : Int) (f : FrameL) :
    ((takeN s who f).2.2 ≠ 0 ∧ (takeN s who f).1 = s ∧ (takeN s who f).2.1 = []) ∨
    (GoodN s ∧ goodL f = 0 ∧ (takeN s who f).2.2 = 0 ∧ f.node = who ∧ 0 ≤ who ∧ who ≤ 5 ∧
      ((f.kind = 1 ∧ touchesL f.ops (ofL who) = true ∧ takeN s who f = (s.asked (ofL who) f, [⟨2, who, f.id, [], ((s.asked (ofL who) f).ent f.id.toNat).first, [], []⟩], 0)) ∨
       (f.kind = 3 ∧ takeN s who f = (s.commit (ofL who) f, (s.commit (ofL who) f).answers (ofL who) who f.id, 0)))) := by
  by_cases h1 : goodNB s = false ∨ who < 0 ∨ 5 < who ∨ f.node ≠ who
  · left
    have e : takeN s who f = (s, [], 2) := by unfold takeN; rw [if_pos h1]
    rw [e]
    exact ⟨(show (2 : Int) ≠ 0 by decide), rfl, rfl⟩
  · by_cases h2 : goodL f ≠ 0
    · left
      have e : takeN s who f = (s, [], goodL f) := by unfold takeN; rw [if_neg h1, if_pos h2]
      rw [e]
      exact ⟨h2, rfl, rfl⟩
    · have hg : GoodN s := goodNB_iff.1 (by
        cases h : goodNB s
        · exact absurd (Or.inl h) h1
        · rfl)
      have hn : f.node = who ∧ 0 ≤ who ∧ who ≤ 5 := by
        refine ⟨?_, ?_, ?_⟩
        · by_cases e : f.node = who
          · exact e
          · exact absurd (Or.inr (Or.inr (Or.inr e))) h1
        · by_cases e : who < 0
          · exact absurd (Or.inr (Or.inl e)) h1
          · omega
        · by_cases e : 5 < who
          · exact absurd (Or.inr (Or.inr (Or.inl e))) h1
          · omega
      have h2' : goodL f = 0 := by omega
      by_cases h3 : f.kind = 1
      · by_cases h4 : touchesL f.ops (ofL who) = false
        · left
          have e : takeN s who f = (s, [], 4) := by unfold takeN; rw [if_neg h1, if_neg h2, if_pos h3, if_pos h4]
          rw [e]
          exact ⟨(show (4 : Int) ≠ 0 by decide), rfl, rfl⟩
        · right
          have e : takeN s who f = (s.asked (ofL who) f, [⟨2, who, f.id, [], ((s.asked (ofL who) f).ent f.id.toNat).first, [], []⟩], 0) := by unfold takeN; rw [if_neg h1, if_neg h2, if_pos h3, if_neg h4]
          exact ⟨hg, h2', by rw [e], hn.1, hn.2.1, hn.2.2, Or.inl ⟨h3, by simpa using h4, e⟩⟩
      · by_cases h5 : f.kind = 3
        · right
          have e : takeN s who f = (s.commit (ofL who) f, (s.commit (ofL who) f).answers (ofL who) who f.id, 0) := by unfold takeN; rw [if_neg h1, if_neg h2, if_neg h3, if_pos h5]
          exact ⟨hg, h2', by rw [e], hn.1, hn.2.1, hn.2.2, Or.inr ⟨h5, e⟩⟩
        · left
          have e : takeN s who f = (s, [], 3) := by unfold takeN; rw [if_neg h1, if_neg h2, if_neg h3, if_neg h5]
          rw [e]
          exact ⟨(show (3 : Int) ≠ 0 by decide), rfl, rfl⟩

theorem take_good {s : NodeL} {who : Int} {f : FrameL} (h : (takeN s who f).2.2 = 0) : GoodN (takeN s who f).1 := by
  rcases take_cases s who f with ⟨h1, _⟩ | ⟨hg, hf, _, _, _, _, ⟨hk, _, e⟩ | ⟨hk, e⟩⟩
  · exact absurd h h1
  · rw [e]; exact good_asked hg _ hf hk
  · rw [e]; exact good_commit hg _ hf hk
theorem take_sort {s : NodeL} {who : Int} {f : FrameL} (S : SortN s) : SortN (takeN s who f).1 := by
  rcases take_cases s who f with ⟨_, h1, _⟩ | ⟨hg, hf, _, _, _, _, ⟨hk, _, e⟩ | ⟨hk, e⟩⟩
  · rw [h1]; exact S
  · rw [e]; exact sort_asked hg S _ hf
  · rw [e]; exact sort_commit hg S _ hf hk
/-- P5.2, P5.3: what comes twice is taken once, and answered likewise. -/
theorem take_twice {s : NodeL} {who : Int} {f : FrameL} (h : (takeN s who f).2.2 = 0) (h0 : ∀ n, 0 ≤ (s.ent n).state) : takeN (takeN s who f).1 who f = takeN s who f := by
  have hg' := take_good h
  rcases take_cases s who f with ⟨h1, _⟩ | ⟨hg, hf, _, hn, hw, hw2, ⟨hk, ht, e⟩ | ⟨hk, e⟩⟩
  · exact absurd h h1
  · rw [e] at hg' ⊢
    have hg2 : goodNB (s.asked (ofL who) f) = true := goodNB_iff.2 hg'
    show takeN (s.asked (ofL who) f) who f = _
    unfold takeN
    rw [if_neg (by rintro (h | h | h | h); · rw [hg2] at h; cases h
                   · omega
                   · omega
                   · exact h hn), if_neg (by rw [hf]; decide), if_pos hk, if_neg (by rw [ht]; decide), asked_twice]
  · rw [e] at hg' ⊢
    have hg2 : goodNB (s.commit (ofL who) f) = true := goodNB_iff.2 hg'
    show takeN (s.commit (ofL who) f) who f = _
    unfold takeN
    rw [if_neg (by rintro (h | h | h | h); · rw [hg2] at h; cases h
                   · omega
                   · omega
                   · exact h hn), if_neg (by rw [hf]; decide), if_neg (by rw [hk]; decide), if_pos hk, commit_twice s _ f h0]
theorem take_keeps (s : NodeL) (who : Int) (f : FrameL) (h0 : ∀ n, 0 ≤ (s.ent n).state) : Keeps s (takeN s who f).1 := by
  rcases take_cases s who f with ⟨_, h1, _⟩ | ⟨_, _, _, _, _, _, ⟨_, _, e⟩ | ⟨_, e⟩⟩
  · rw [h1]; exact Keeps.refl s
  · rw [e]; exact keeps_asked s _ f
  · rw [e]; exact keeps_commit s _ f h0

end Go.Proofs.Ytgdkjjmnoikhdab
