/-
  Plain mathematics: what an order is, by what hangs on what alone; that it has all, each behind what it hangs on; that its parts are orders.
  Plain mathematics: what is executed order by order stands behind all that it hangs on, but those that hang on it: these by number.
  What package graph's Order answers, by what hangs on what alone.
  Plain mathematics of a node: what it is told, what it then is, and what it answers.
  Plain mathematics of a node: it stays good; and what it has executed stays sorted.
  Plain mathematics: what comes to be known of what one does not hang on changes nothing for it.
  Plain mathematics of a node: what it has executed stands behind all that it hangs on, but those that hang on it: these by number; whatever it is told.
-/
import Derived.Test.YtkoefoccbjhoiacGreatNil4
import Derived.Test.YtkoefoccbjhoiacGreatNil2
namespace Go.Proofs.YtkoefoccbjhoiacGreat
open Go.RowKit

/-- May x be placed? D: those that are asked for; H: what hangs on what. -/
def mayS (H : Nat → Nat → Bool) (D placed : Nat → Bool) (x : Nat) : Bool := D x && !placed x && (List.range 32).all fun m => !H x m || placed m || H m x
def ringS (H : Nat → Nat → Bool) (x : Nat) : List Nat := (List.range 32).filter fun m => H x m && H m x
def nextS (H : Nat → Nat → Bool) (D placed : Nat → Bool) : List Nat := match (List.range 32).find? (mayS H D placed) with
  | none => []
  | some x => ringS H x
def outS (H : Nat → Nat → Bool) (D : Nat → Bool) : Nat → List Nat
  | 0 => []
  | j + 1 => outS H D j ++ nextS H D (fun i => (outS H D j).contains i)

/-- H goes on, over those of D; D is closed. -/
structure Clo (H : Nat → Nat → Bool) (D : Nat → Bool) : Prop where
  refl : ∀ x, x < 32 → D x = true → H x x = true
  trans : ∀ x y z, D x = true → H x y = true → H y z = true → H x z = true
  closed : ∀ x y, D x = true → H x y = true → D y = true
  lt : ∀ x, D x = true → x < 32

/-- Either nothing may be placed, or the least that may. -/
theorem nextS_cases (H : Nat → Nat → Bool) (D placed : Nat → Bool) : (nextS H D placed = [] ∧ ∀ x, x < 32 → mayS H D placed x = false) ∨ ∃ x, x < 32 ∧ mayS H D placed x = true ∧ (∀ y, y < x → mayS H D placed y = false) ∧ nextS H D placed = ringS H x := by
  cases hq : (List.range 32).find? (mayS H D placed) with
  | none =>
    left
    rw [List.find?_eq_none] at hq
    refine ⟨by unfold nextS; rw [(List.find?_eq_none.2 hq)], fun x hx => by simpa using hq x (List.mem_range.2 hx)⟩
  | some x =>
    right
    have hq' := hq
    rw [List.find?_range_eq_some] at hq
    obtain ⟨h1, h2, h3⟩ := hq
    exact ⟨x, List.mem_range.1 h2, h1, fun y hy => by simpa using h3 y hy, by unfold nextS; rw [hq']⟩
theorem mayS_iff {H : Nat → Nat → Bool} {D placed : Nat → Bool} {x : Nat} : mayS H D placed x = true ↔ D x = true ∧ placed x = false ∧ ∀ m, m < 32 → H x m = true → placed m = true ∨ H m x = true := by
  unfold mayS
  simp only [Bool.and_eq_true, Bool.not_eq_true', List.all_eq_true, List.mem_range, Bool.or_eq_true]
  constructor
  · rintro ⟨⟨h1, h2⟩, h3⟩
    refine ⟨h1, h2, fun m hm hx => ?_⟩
    rcases h3 m hm with (h | h) | h
    · rw [hx] at h; cases h
    · exact Or.inl h
    · exact Or.inr h
  · rintro ⟨h1, h2, h3⟩
    refine ⟨⟨h1, h2⟩, fun m hm => ?_⟩
    cases hx : H x m
    · exact Or.inl (Or.inl rfl)
    · rcases h3 m hm hx with h | h
      · exact Or.inl (Or.inr h)
      · exact Or.inr h
theorem mem_ringS {H : Nat → Nat → Bool} {x m : Nat} : m ∈ ringS H x ↔ m < 32 ∧ H x m = true ∧ H m x = true := by
  unfold ringS
  rw [List.mem_filter, List.mem_range, Bool.and_eq_true]
/-- What holds of all that is placed so far. -/
structure Laid (H : Nat → Nat → Bool) (D : Nat → Bool) (out : List Nat) : Prop where
  nodup : out.Nodup
  inD : ∀ x ∈ out, D x = true
  rings : ∀ x y, y < 32 → H x y = true → H y x = true → x ∈ out → y ∈ out
  behind : ∀ pre x post, out = pre ++ x :: post → ∀ d, d < 32 → H x d = true → d ∈ pre ∨ H d x = true

theorem laid_next {H : Nat → Nat → Bool} {D : Nat → Bool} (hc : Clo H D) {out : List Nat} (h : Laid H D out) : Laid H D (out ++ nextS H D (fun i => out.contains i)) := by
  rcases nextS_cases H D (fun i => out.contains i) with ⟨h1, h2⟩ | ⟨x, h1, h2, h3, h4⟩
  · rw [h1, List.append_nil]; exact h
  · rw [h4]
    obtain ⟨m1, m2, m3⟩ := mayS_iff.1 h2
    have hx : x ∉ out := by simpa using m2
    have inR : ∀ y ∈ ringS H x, D y = true := fun y hy => hc.closed x y m1 (mem_ringS.1 hy).2.1
    refine ⟨?_, ?_, ?_, ?_⟩
    · rw [List.nodup_append]
      refine ⟨h.nodup, List.Pairwise.filter _ List.nodup_range, fun a ha b hb e => ?_⟩
      subst e
      have hb := mem_ringS.1 hb
      exact hx (h.rings a x h1 hb.2.2 hb.2.1 ha)
    · intro y hy
      rcases List.mem_append.1 hy with hy | hy
      · exact h.inD y hy
      · exact inR y hy
    · intro y z hz h5 h6 hy
      rcases List.mem_append.1 hy with hy | hy
      · exact List.mem_append_left _ (h.rings y z hz h5 h6 hy)
      · have hq := mem_ringS.1 hy
        have dy := inR y hy
        have dz := hc.closed y z dy h5
        exact List.mem_append_right _ (mem_ringS.2 ⟨hz, hc.trans x y z m1 hq.2.1 h5, hc.trans z y x dz h6 hq.2.2⟩)
    · intro pre y post e d hd hyd
      rw [List.append_eq_append_iff] at e
      rcases e with ⟨qs, e1, e2⟩ | ⟨bs, e1, e2⟩
      · -- y stands in the ring
        have hy : y ∈ ringS H x := by rw [e2]; simp
        have hq := mem_ringS.1 hy
        have hxd := hc.trans x y d m1 hq.2.1 hyd
        rcases m3 d hd hxd with hp | hp
        · left
          rw [e1]
          exact List.mem_append_left _ (by simpa using hp)
        · right
          exact hc.trans d x y (hc.closed x d m1 hxd) hp hq.2.1
      · cases bs with
        | nil =>
          have e2' : y :: post = ringS H x := by simpa using e2
          have hy : y ∈ ringS H x := by rw [← e2']; simp
          have hq := mem_ringS.1 hy
          have hxd := hc.trans x y d m1 hq.2.1 hyd
          rcases m3 d hd hxd with hp | hp
          · left
            have e1' : out = pre := by simpa using e1
            rw [← e1']
            simpa using hp
          · right
            exact hc.trans d x y (hc.closed x d m1 hxd) hp hq.2.1
        | cons b bs =>
          simp only [List.cons_append, List.cons.injEq] at e2
          obtain ⟨rfl, e3⟩ := e2
          exact h.behind pre y bs e1 d hd hyd
theorem laid_at {H : Nat → Nat → Bool} {D : Nat → Bool} (hc : Clo H D) : ∀ j, Laid H D (outS H D j)
  | 0 => ⟨.nil, by simp [outS], by simp [outS], by simp [outS]⟩
  | j + 1 => laid_next hc (laid_at hc j)
theorem Laid.len {H : Nat → Nat → Bool} {D : Nat → Bool} (hc : Clo H D) {out : List Nat} (h : Laid H D out) : out.length ≤ 32 := len_lt 32 out h.nodup (fun x hx => hc.lt x (h.inD x hx))

theorem outS_stays {H : Nat → Nat → Bool} {D : Nat → Bool} {j : Nat} (h : nextS H D (fun i => (outS H D j).contains i) = []) : ∀ i, outS H D (j + i) = outS H D j
  | 0 => rfl
  | i + 1 => by
    have ih := outS_stays h i
    show outS H D (j + i) ++ nextS H D (fun k => (outS H D (j + i)).contains k) = _
    rw [ih, h, List.append_nil]
theorem outS_grows {H : Nat → Nat → Bool} {D : Nat → Bool} (hc : Clo H D) : ∀ j, j ≤ (outS H D j).length ∨ nextS H D (fun i => (outS H D j).contains i) = []
  | 0 => Or.inl (Nat.zero_le _)
  | j + 1 => by
    rcases nextS_cases H D (fun i => (outS H D j).contains i) with ⟨h1, _⟩ | ⟨x, h1, h2, _, h4⟩
    · right
      rw [outS_stays h1 1]
      exact h1
    · rcases outS_grows hc j with h | h
      · left
        show j + 1 ≤ (outS H D j ++ nextS H D (fun i => (outS H D j).contains i)).length
        have hd := (mayS_iff.1 h2).1
        have : x ∈ ringS H x := mem_ringS.2 ⟨h1, hc.refl x h1 hd, hc.refl x h1 hd⟩
        rw [h4, List.length_append]
        have := List.length_pos_of_mem this
        omega
      · right
        rw [outS_stays h 1]
        exact h
/-- Behind 32 rounds nothing is left. -/
theorem outS_end {H : Nat → Nat → Bool} {D : Nat → Bool} (hc : Clo H D) : nextS H D (fun i => (outS H D 32).contains i) = [] := by
  rcases outS_grows hc 33 with h | h
  · have := (laid_at hc 33).len hc
    omega
  · rcases outS_grows hc 32 with h2 | h2
    · rcases nextS_cases H D (fun i => (outS H D 32).contains i) with ⟨h1, _⟩ | ⟨x, h1, h3, _, h4⟩
      · exact h1
      · have hd := (mayS_iff.1 h3).1
        have hx : x ∈ ringS H x := mem_ringS.2 ⟨h1, hc.refl x h1 hd, hc.refl x h1 hd⟩
        have h5 := (laid_at hc 33).len hc
        have h6 : (outS H D 33).length = (outS H D 32).length + (ringS H x).length := by
          show (outS H D 32 ++ nextS H D (fun i => (outS H D 32).contains i)).length = _
          rw [h4, List.length_append]
        have := List.length_pos_of_mem hx
        omega
    · exact h2

/-- As long as something is left, something may be placed. -/
theorem some_may {H : Nat → Nat → Bool} {D : Nat → Bool} (hc : Clo H D) (placed : Nat → Bool) : ∀ (k x : Nat), (List.range 32).countP (H x) ≤ k → D x = true → placed x = false → ∃ y, y < 32 ∧ mayS H D placed y = true
  | 0, x, hk, hd, hp => by
    have hx := hc.lt x hd
    have : 0 < (List.range 32).countP (H x) := List.countP_pos_iff.2 ⟨x, List.mem_range.2 hx, hc.refl x hx hd⟩
    omega
  | k + 1, x, hk, hd, hp => by
    have hx := hc.lt x hd
    cases hm : mayS H D placed x
    · have : ∃ m, m < 32 ∧ H x m = true ∧ placed m = false ∧ H m x = false := by
        cases Classical.em (∃ m, m < 32 ∧ H x m = true ∧ placed m = false ∧ H m x = false) with
        | inl h => exact h
        | inr h =>
          exfalso
          have : mayS H D placed x = true := mayS_iff.2 ⟨hd, hp, fun m hm' hxm => by
            cases hpm : placed m
            · cases hmx : H m x
              · exact absurd ⟨m, hm', hxm, hpm, hmx⟩ h
              · exact Or.inr rfl
            · exact Or.inl rfl⟩
          rw [this] at hm
          cases hm
      obtain ⟨m, h1, h2, h3, h4⟩ := this
      have hdm := hc.closed x m hd h2
      refine some_may hc placed k m ?_ hdm h3
      have hlt : (List.range 32).countP (H m) < (List.range 32).countP (H x) := by
        have h5 : (List.range 32).countP (H x) = (List.range 32).countP (fun i => H x i && H m i) + (List.range 32).countP (fun i => H x i && !H m i) := by
          generalize List.range 32 = l
          induction l with
          | nil => rfl
          | cons a l ih =>
            simp only [List.countP_cons, ih]
            cases H x a <;> cases H m a <;> simp <;> omega
        have h6 : (List.range 32).countP (fun i => H x i && H m i) = (List.range 32).countP (H m) := by
          refine List.countP_congr fun i _ => ?_
          rw [Bool.and_eq_true]
          exact ⟨fun h => h.2, fun h => ⟨hc.trans x m i hd h2 h, h⟩⟩
        have h7 : 0 < (List.range 32).countP (fun i => H x i && !H m i) := List.countP_pos_iff.2 ⟨x, List.mem_range.2 hx, by rw [hc.refl x hx hd, h4]; rfl⟩
        omega
      omega
    · exact ⟨x, hx, hm⟩
/-- All that is asked for is placed. -/
theorem outS_all {H : Nat → Nat → Bool} {D : Nat → Bool} (hc : Clo H D) (x : Nat) : x ∈ outS H D 32 ↔ D x = true := by
  refine ⟨fun h => (laid_at hc 32).inD x h, fun hd => ?_⟩
  cases Classical.em (x ∈ outS H D 32) with
  | inl h => exact h
  | inr h =>
    exfalso
    obtain ⟨y, hy, hm⟩ := some_may hc (fun i => (outS H D 32).contains i) _ x (Nat.le_refl _) hd (by simpa using h)
    have he := outS_end hc
    rcases nextS_cases H D (fun i => (outS H D 32).contains i) with ⟨_, h2⟩ | ⟨z, h1, h3, _, h4⟩
    · rw [h2 y hy] at hm; cases hm
    · have hdz := (mayS_iff.1 h3).1
      have hz : z ∈ ringS H z := mem_ringS.2 ⟨h1, hc.refl z h1 hdz, hc.refl z h1 hdz⟩
      rw [← h4, he] at hz
      simp at hz

end Go.Proofs.YtkoefoccbjhoiacGreat

namespace Go.Proofs.YtkoefoccbjhoiacGreat
open Go.RowKit

/-- Those of a ring stand by number. -/
def ByNumber (H : Nat → Nat → Bool) (out : List Nat) : Prop :=
  ∀ pre x post, out = pre ++ x :: post → ∀ d, d < 32 → H x d = true → H d x = true → d ≠ x → (d ∈ pre ↔ d < x)

theorem ring_rises (H : Nat → Nat → Bool) (x : Nat) : (ringS H x).Pairwise (· < ·) := List.Pairwise.filter _ List.pairwise_lt_range
theorem split_rises {r1 r2 : List Nat} {x d : Nat} (h : (r1 ++ x :: r2).Pairwise (· < ·)) (hd : d ∈ r1 ++ x :: r2) (hx : d ≠ x) : d ∈ r1 ↔ d < x := by
  rw [List.pairwise_append, List.pairwise_cons] at h
  obtain ⟨_, ⟨h2, _⟩, h3⟩ := h
  constructor
  · intro h1
    exact h3 d h1 x (by simp)
  · intro h1
    rcases List.mem_append.1 hd with h4 | h4
    · exact h4
    · rcases List.mem_cons.1 h4 with h5 | h5
      · exact absurd h5 hx
      · have := h2 d h5
        omega

theorem byNumber_next {H : Nat → Nat → Bool} {D : Nat → Bool} (hc : Clo H D) {out : List Nat} (L : Laid H D out) (h : ByNumber H out) : ByNumber H (out ++ nextS H D (fun i => out.contains i)) := by
  rcases nextS_cases H D (fun i => out.contains i) with ⟨h1, _⟩ | ⟨y, h1, h2, _, h4⟩
  · rw [h1, List.append_nil]; exact h
  · rw [h4]
    obtain ⟨m1, m2, _⟩ := mayS_iff.1 h2
    have hy : y ∉ out := by simpa using m2
    -- a member of the ring: none of its ring is placed yet
    have ring : ∀ r1 x r2, ringS H y = r1 ++ x :: r2 → ∀ d, d < 32 → H x d = true → H d x = true → d ≠ x → (d ∈ out ++ r1 ↔ d < x) := by
      intro r1 x r2 e d hd hxd hdx hne
      have hx : x ∈ ringS H y := by rw [e]; simp
      have hq := mem_ringS.1 hx
      have dx := hc.closed y x m1 hq.2.1
      have dd := hc.closed x d dx hxd
      have hyd := hc.trans y x d m1 hq.2.1 hxd
      have hdy := hc.trans d x y dd hdx hq.2.2
      have hr : d ∈ ringS H y := mem_ringS.2 ⟨hd, hyd, hdy⟩
      have hno : d ∉ out := fun ho => hy (L.rings d y h1 hdy hyd ho)
      have hs := ring_rises H y
      rw [e] at hs hr
      rw [← split_rises hs hr hne, List.mem_append]
      exact ⟨fun h => h.resolve_left hno, Or.inr⟩
    intro pre x post e d hd hxd hdx hne
    rw [List.append_eq_append_iff] at e
    rcases e with ⟨qs, e1, e2⟩ | ⟨bs, e1, e2⟩
    · rw [e1]
      exact ring qs x post e2 d hd hxd hdx hne
    · cases bs with
      | nil =>
        have e2' : ringS H y = [] ++ x :: post := by simpa using e2.symm
        have e1' : out = pre := by simpa using e1
        have := ring [] x post e2' d hd hxd hdx hne
        rw [List.append_nil, e1'] at this
        exact this
      | cons b bs =>
        simp only [List.cons_append, List.cons.injEq] at e2
        obtain ⟨rfl, _⟩ := e2
        exact h pre x bs e1 d hd hxd hdx hne
theorem byNumber_at {H : Nat → Nat → Bool} {D : Nat → Bool} (hc : Clo H D) : ∀ j, ByNumber H (outS H D j)
  | 0 => by intro pre x post e; simp [outS] at e
  | j + 1 => byNumber_next hc (laid_at hc j) (byNumber_at hc j)

/-- What is executed: all that it hangs on is executed, too; each behind what it hangs on, those of a ring by number. -/
structure Sorted (H : Nat → Nat → Bool) (L : List Nat) : Prop where
  nodup : L.Nodup
  lt : ∀ x ∈ L, x < 32
  closed : ∀ x ∈ L, ∀ d, d < 32 → H x d = true → d ∈ L
  behind : ∀ pre x post, L = pre ++ x :: post → ∀ d, d < 32 → H x d = true → H d x = false → d ∈ pre
  ring : ByNumber H L

theorem sorted_nil (H : Nat → Nat → Bool) : Sorted H [] := ⟨.nil, by simp, by simp, by intro pre x post e; simp at e, by intro pre x post e; simp at e⟩

theorem filter_split {p : Nat → Bool} : ∀ {out pre post : List Nat} {x : Nat}, out.filter p = pre ++ x :: post → ∃ a b, out = a ++ x :: b ∧ a.filter p = pre ∧ b.filter p = post
  | [], pre, post, x, h => by simp at h
  | y :: out, pre, post, x, h => by
    cases hp : p y
    · rw [List.filter_cons_of_neg (by simp [hp])] at h
      obtain ⟨a, b, h1, h2, h3⟩ := filter_split h
      exact ⟨y :: a, b, by rw [h1]; rfl, by rw [List.filter_cons_of_neg (by simp [hp])]; exact h2, h3⟩
    · rw [List.filter_cons_of_pos hp] at h
      cases pre with
      | nil =>
        simp at h
        exact ⟨[], out, by rw [h.1]; rfl, rfl, h.2⟩
      | cons z pre =>
        simp at h
        obtain ⟨a, b, h1, h2, h3⟩ := filter_split h.2
        exact ⟨y :: a, b, by rw [h1]; rfl, by rw [List.filter_cons_of_pos hp, h2, h.1], h3⟩

/-- The order of one that is ready is executed: those that are not yet. -/
theorem sorted_more {H : Nat → Nat → Bool} {D : Nat → Bool} (hc : Clo H D) {L : List Nat} (h : Sorted H L) : Sorted H (L ++ (outS H D 32).filter fun x => !L.contains x) := by
  have La := laid_at hc 32
  have Nu := byNumber_at hc 32
  have mem : ∀ x, x ∈ (outS H D 32).filter (fun x => !L.contains x) ↔ D x = true ∧ x ∉ L := by
    intro x
    rw [List.mem_filter, outS_all hc x]
    simp
  have all : ∀ x, D x = true → x ∈ L ++ (outS H D 32).filter fun x => !L.contains x := by
    intro x hx
    by_cases hl : x ∈ L
    · exact List.mem_append_left _ hl
    · exact List.mem_append_right _ ((mem x).2 ⟨hx, hl⟩)
  -- x stands in the new part
  have new : ∀ p1 x p2, (outS H D 32).filter (fun x => !L.contains x) = p1 ++ x :: p2 → ∀ d, d < 32 → H x d = true → (H d x = false → d ∈ L ++ p1) ∧ (H d x = true → d ≠ x → (d ∈ L ++ p1 ↔ d < x)) := by
    intro p1 x p2 e d hd hxd
    obtain ⟨a, b, e1, e2, _⟩ := filter_split e
    have hx := (mem x).1 (by rw [e]; simp)
    have dd := hc.closed x d hx.1 hxd
    have inA : ∀ z, z ∉ L → (z ∈ p1 ↔ z ∈ a) := by
      intro z hz
      rw [← e2, List.mem_filter]
      simp [hz]
    refine ⟨fun hn => ?_, fun hb hne => ?_⟩
    · rcases La.behind a x b e1 d hd hxd with h1 | h1
      · by_cases hl : d ∈ L
        · exact List.mem_append_left _ hl
        · exact List.mem_append_right _ ((inA d hl).2 h1)
      · rw [hn] at h1; cases h1
    · have hl : d ∉ L := fun hl => hx.2 (h.closed d hl x (hc.lt x hx.1) hb)
      rw [List.mem_append, inA d hl, ← Nu a x b e1 d hd hxd hb hne]
      exact ⟨fun h => h.resolve_left hl, Or.inr⟩
  refine ⟨?_, ?_, ?_, ?_, ?_⟩
  · rw [List.nodup_append]
    refine ⟨h.nodup, List.Pairwise.filter _ La.nodup, fun a ha b hb e => ?_⟩
    subst e
    exact ((mem a).1 hb).2 ha
  · intro x hx
    rcases List.mem_append.1 hx with hx | hx
    · exact h.lt x hx
    · exact hc.lt x ((mem x).1 hx).1
  · intro x hx d hd hxd
    rcases List.mem_append.1 hx with hx | hx
    · exact List.mem_append_left _ (h.closed x hx d hd hxd)
    · exact all d (hc.closed x d ((mem x).1 hx).1 hxd)
  · intro pre x post e d hd hxd hn
    rw [List.append_eq_append_iff] at e
    rcases e with ⟨qs, e1, e2⟩ | ⟨bs, e1, e2⟩
    · rw [e1]
      exact (new qs x post e2 d hd hxd).1 hn
    · cases bs with
      | nil =>
        have e1' : L = pre := by simpa using e1
        have := (new [] x post (by simpa using e2.symm) d hd hxd).1 hn
        rw [List.append_nil, e1'] at this
        exact this
      | cons b bs =>
        simp only [List.cons_append, List.cons.injEq] at e2
        obtain ⟨rfl, _⟩ := e2
        exact h.behind pre x bs e1 d hd hxd hn
  · intro pre x post e d hd hxd hdx hne
    rw [List.append_eq_append_iff] at e
    rcases e with ⟨qs, e1, e2⟩ | ⟨bs, e1, e2⟩
    · rw [e1]
      exact (new qs x post e2 d hd hxd).2 hdx hne
    · cases bs with
      | nil =>
        have e1' : L = pre := by simpa using e1
        have := (new [] x post (by simpa using e2.symm) d hd hxd).2 hdx hne
        rw [List.append_nil, e1'] at this
        exact this
      | cons b bs =>
        simp only [List.cons_append, List.cons.injEq] at e2
        obtain ⟨rfl, _⟩ := e2
        exact h.ring pre x bs e1 d hd hxd hdx hne
/-- What is executed stays so when more comes to be known: of those that are executed nothing has changed. -/
theorem Sorted.later {H H' : Nat → Nat → Bool} {L : List Nat} (h : Sorted H L) (e : ∀ x ∈ L, ∀ y, y < 32 → H x y = H' x y) : Sorted H' L := by
  have inL : ∀ pre x post, L = pre ++ x :: post → x ∈ L := fun pre x post e => by rw [e]; simp
  have back : ∀ pre x post d, L = pre ++ x :: post → d < 32 → H' x d = true → d ∈ L := fun pre x post d eL hd hx => h.closed x (inL pre x post eL) d hd (by rw [e x (inL pre x post eL) d hd]; exact hx)
  refine ⟨h.nodup, h.lt, fun x hx d hd hxd => h.closed x hx d hd (by rw [e x hx d hd]; exact hxd), fun pre x post eL d hd hxd hn => ?_, fun pre x post eL d hd hxd hdx hne => ?_⟩
  · have hx := inL pre x post eL
    have hdL := back pre x post d eL hd hxd
    exact h.behind pre x post eL d hd (by rw [e x hx d hd]; exact hxd) (by rw [e d hdL x (h.lt x hx)]; exact hn)
  · have hx := inL pre x post eL
    have hdL := back pre x post d eL hd hxd
    exact h.ring pre x post eL d hd (by rw [e x hx d hd]; exact hxd) (by rw [e d hdL x (h.lt x hx)]; exact hdx) hne

end Go.Proofs.YtkoefoccbjhoiacGreat

namespace Go.Proofs.YtkoefoccbjhoiacGreat
open Go.RowKit

theorem Hangs.lt {g : GraphL} {x y : Nat} (h : Hangs g.adj x y) (hx : x < 32) : y < 32 := by
  induction h using Hangs.ind with
  | refl => exact hx
  | step a _ ih => exact ih (g.adj_lt _ _ a)
theorem clo_hang (g : GraphL) {n : Nat} (hn : n < 32) : Clo (hangB g) (hangB g n) := by
  have lt : ∀ x, hangB g n x = true → x < 32 := fun x hx => ((hangB_iff g hn x).1 hx).lt hn
  refine ⟨fun x hx _ => (hangB_iff g hx x).2 (.refl x), fun x y z hx h1 h2 => ?_, fun x y hx h1 => ?_, lt⟩
  · have hx' := lt x hx
    have h1' := (hangB_iff g hx' y).1 h1
    have hy := h1'.lt hx'
    exact (hangB_iff g hx' z).2 (h1'.trans ((hangB_iff g hy z).1 h2))
  · have hx' := lt x hx
    exact (hangB_iff g hn y).2 (((hangB_iff g hn x).1 hx).trans ((hangB_iff g hx' y).1 h1))

theorem end_row (g : GraphL) {n x : Nat} (hn : n < 32) (hx : Hangs g.adj n x) (j : Nat) : (endOf g n).reach x j = hangB g x j := by
  rw [Bool.eq_iff_iff, hangB_iff g (hx.lt hn) j]
  exact (search_whole g.adj_lt hn).2.1 x hx j
theorem end_same (g : GraphL) {n x m : Nat} (hn : n < 32) (hx : Hangs g.adj n x) (hm : m < 32) : sameAs (endOf g n).reach x m = (hangB g x m && hangB g m x) := by
  have hx' := hx.lt hn
  rw [Bool.eq_iff_iff, Bool.and_eq_true]
  unfold sameAs
  rw [sameB_iff]
  constructor
  · intro h
    have h1 : (endOf g n).reach m x = true := by
      rw [← h x hx', end_row g hn hx]
      exact (hangB_iff g hx' x).2 (.refl x)
    have hmn : Hangs g.adj n m := by
      cases Classical.em (Hangs g.adj n m) with
      | inl h => exact h
      | inr h2 =>
        have := (search_whole g.adj_lt hn).2.2 m h2 x
        unfold endOf at h1
        rw [this] at h1
        cases h1
    rw [end_row g hn hmn] at h1
    refine ⟨?_, h1⟩
    have h2 := h m hm
    rw [end_row g hn hx, end_row g hn hmn] at h2
    rw [h2]
    exact (hangB_iff g hm m).2 (.refl m)
  · rintro ⟨h1, h2⟩ j _
    have h1' := (hangB_iff g hx' m).1 h1
    have h2' := (hangB_iff g hm x).1 h2
    rw [end_row g hn hx, end_row g hn (hx.trans h1'), Bool.eq_iff_iff, hangB_iff g hx', hangB_iff g hm]
    exact ⟨fun h => h2'.trans h, fun h => h1'.trans h⟩
theorem end_met (g : GraphL) {n : Nat} (hn : n < 32) (x : Nat) : decide (0 < (endOf g n).turn x) = hangB g n x := by
  rw [Bool.eq_iff_iff, decide_eq_true_iff, hangB_iff g hn x, ← (search_whole g.adj_lt hn).1 x]
  unfold endOf
  omega
theorem end_may (g : GraphL) {n x : Nat} (hn : n < 32) (placed : Nat → Bool) : mayB (endOf g n).reach (endOf g n).turn placed x = mayS (hangB g) (hangB g n) placed x := by
  unfold mayB mayS
  rw [end_met g hn]
  cases hd : hangB g n x
  · rfl
  · have hx := (hangB_iff g hn x).1 hd
    have hx' := hx.lt hn
    congr 1
    unfold freeTo
    rw [Bool.eq_iff_iff, List.all_eq_true, List.all_eq_true]
    constructor
    · intro h m hm
      have := h m hm
      rw [end_row g hn hx, end_same g hn hx (List.mem_range.1 hm)] at this
      cases hxm : hangB g x m
      · simp
      · rw [hxm] at this
        simpa using this
    · intro h m hm
      have := h m hm
      rw [end_row g hn hx, end_same g hn hx (List.mem_range.1 hm)]
      cases hxm : hangB g x m
      · simp
      · rw [hxm] at this
        simpa using this
theorem end_ring (g : GraphL) {n x : Nat} (hn : n < 32) (hd : hangB g n x = true) : ringN (endOf g n).reach x = ringS (hangB g) x := by
  unfold ringN ringS
  exact List.filter_congr fun m hm => end_same g hn ((hangB_iff g hn x).1 hd) (List.mem_range.1 hm)
theorem end_next (g : GraphL) {n : Nat} (hn : n < 32) (placed : Nat → Bool) : nextL (endOf g n).reach (endOf g n).turn placed = nextS (hangB g) (hangB g n) placed := by
  have e : mayB (endOf g n).reach (endOf g n).turn placed = mayS (hangB g) (hangB g n) placed := funext fun x => end_may g hn placed
  unfold nextL nextN nextS
  rw [e]
  cases hq : (List.range 32).find? (mayS (hangB g) (hangB g n) placed) with
  | none => rfl
  | some x =>
    have := List.find?_some hq
    exact end_ring g hn (mayS_iff.1 this).1
theorem end_out (g : GraphL) {n : Nat} (hn : n < 32) : ∀ j, outAt (endOf g n).reach (endOf g n).turn j = outS (hangB g) (hangB g n) j
  | 0 => rfl
  | j + 1 => by
    show outAt (endOf g n).reach (endOf g n).turn j ++ _ = outS (hangB g) (hangB g n) j ++ _
    rw [end_out g hn j, end_next g hn]
/-- THE ORDER. -/
theorem order_spec (g : GraphL) {n : Nat} (hn : n < 32) : orderNat g n = outS (hangB g) (hangB g n) 32 := end_out g hn 32

theorem knowsB_iff {g : GraphL} {S : Nat → Bool} : knowsB g S 32 = true ↔ ∀ i, i < 32 → S i = true → g.known i = true := by
  unfold knowsB
  simp only [List.all_eq_true, List.mem_range, Bool.or_eq_true, Bool.not_eq_true']
  constructor
  · intro h i hi hs
    rcases h i hi with h | h
    · rw [hs] at h; cases h
    · exact h
  · intro h i hi
    cases hs : S i
    · exact Or.inl rfl
    · exact Or.inr (h i hi hs)

end Go.Proofs.YtkoefoccbjhoiacGreat

namespace Go.Proofs.YtkoefoccbjhoiacGreat
open Go.RowKit

structure EntryL where
  state : Int
  ops : List OpL
  first : List Int
  deps : List Int
  ats : List Int
  vals : List Int
def zeroE : EntryL := ⟨0, [], [], [], [], []⟩
structure NodeL where
  ent : Nat → EntryL
  order : List Int
  vals : Nat → Int
def zeroN : NodeL := ⟨fun _ => zeroE, [], fun _ => 0⟩

/-- At rises, behind l, each below n. -/
def atsFrom : Int → Nat → List Int → Bool
  | _, _, [] => true
  | l, n, k :: r => decide (l < k) && decide (k < (n : Int)) && atsFrom k n r
/-- P5.1: a transaction that is not Nothing. -/
structure Fine (e : EntryL) (n : Nat) : Prop where
  st : 1 ≤ e.state ∧ e.state ≤ 3
  ops : goodOpsL e.ops = true
  first : risingFrom (-1) e.first = true ∧ hasL e.first n = false
  deps : risingFrom (-1) e.deps = true ∧ hasL e.deps n = false
  asked : e.state = 1 → e.deps = []
  told : e.state ≠ 3 → e.ats = []
  ats : atsFrom (-1) e.ops.length e.ats = true
  vals : e.vals.length = e.ats.length
/-- P5.1. -/
structure GoodN (s : NodeL) : Prop where
  ent : ∀ n : Nat, n < 32 → s.ent n = zeroE ∨ Fine (s.ent n) n
  cnt : ∀ n : Nat, n < 32 → s.order.count (n : Int) = if (s.ent n).state = 3 then 1 else 0
  lt : ∀ x ∈ s.order, 0 ≤ x ∧ x < 32

/-- P5.2: what stands ahead. -/
def NodeL.ahead (s : NodeL) (id : Nat) (ops : List OpL) (sh : Int) : List Int := unionTo (fun n => n != id && decide (0 < (s.ent n).state) && conflictL (s.ent n).ops ops sh) 32
/-- P5.3: the operations of a shard, from the i-th on: the values then, which told, and what. -/
def runOps (sh : Int) : Nat → List OpL → (Nat → Int) → (Nat → Int) × List Int × List Int
  | _, [], v => (v, [], [])
  | i, o :: r, v =>
    if o.2.1 % 2 == sh then ((runOps sh (i + 1) r (upd v o.2.1.toNat (doL (v o.2.1.toNat) o.1 o.2.2))).1, (i : Int) :: (runOps sh (i + 1) r (upd v o.2.1.toNat (doL (v o.2.1.toNat) o.1 o.2.2))).2.1,
      doL (v o.2.1.toNat) o.1 o.2.2 :: (runOps sh (i + 1) r (upd v o.2.1.toNat (doL (v o.2.1.toNat) o.1 o.2.2))).2.2)
    else runOps sh (i + 1) r v
def NodeL.exec (s : NodeL) (sh : Int) (n : Nat) : NodeL :=
  ⟨upd s.ent n ⟨3, (s.ent n).ops, (s.ent n).first, (s.ent n).deps, (runOps sh 0 (s.ent n).ops s.vals).2.1, (runOps sh 0 (s.ent n).ops s.vals).2.2⟩, s.order ++ [(n : Int)], (runOps sh 0 (s.ent n).ops s.vals).1⟩
def NodeL.execIf (sh : Int) (s : NodeL) (m : Nat) : NodeL := if (s.ent m).state = 2 then s.exec sh m else s
def NodeL.execs (s : NodeL) (sh : Int) (l : List Nat) : NodeL := l.foldl (NodeL.execIf sh) s
def NodeL.graph (s : NodeL) : GraphL := ⟨fun i => decide (2 ≤ (s.ent i).state), fun i => (s.ent i).deps⟩
def NodeL.round (g : GraphL) (sh : Int) (t : NodeL) (n : Nat) : NodeL := if (t.ent n).state = 2 then t.execs sh (orderI g n) else t
def NodeL.settle (s : NodeL) (sh : Int) : NodeL := (List.range 32).foldl (NodeL.round s.graph sh) s
def NodeL.heard (s : NodeL) (sh : Int) (f : FrameL) : NodeL := { s with ent := upd s.ent f.id.toNat ⟨1, f.ops, s.ahead f.id.toNat f.ops sh, [], [], []⟩ }
def NodeL.asked (s : NodeL) (sh : Int) (f : FrameL) : NodeL := if (s.ent f.id.toNat).state = 0 then s.heard sh f else s
def NodeL.placed (s : NodeL) (sh : Int) (f : FrameL) : NodeL :=
  { s with ent := upd s.ent f.id.toNat ⟨2, f.ops, if (s.ent f.id.toNat).state = 0 then s.ahead f.id.toNat f.ops sh else (s.ent f.id.toNat).first, f.deps, (s.ent f.id.toNat).ats, (s.ent f.id.toNat).vals⟩ }
def NodeL.commit (s : NodeL) (sh : Int) (f : FrameL) : NodeL := if (s.ent f.id.toNat).state < 2 then (s.placed sh f).settle sh else s
def NodeL.answers (s : NodeL) (sh who id : Int) : List FrameL :=
  ⟨4, who, id, [], [], [], []⟩ :: (if (s.ent id.toNat).state = 3 ∧ touchesL (s.ent id.toNat).ops sh = true then [⟨5, who, id, [], [], (s.ent id.toNat).ats, (s.ent id.toNat).vals⟩] else [])

/-! ### Nothing that was known is unknown then, nothing that was done is undone -/
structure Keeps (s t : NodeL) : Prop where
  state : ∀ n, (s.ent n).state ≤ (t.ent n).state
  first : ∀ n, (s.ent n).state ≠ 0 → (t.ent n).first = (s.ent n).first
  fixed : ∀ n, 2 ≤ (s.ent n).state → (t.ent n).deps = (s.ent n).deps ∧ (t.ent n).ops = (s.ent n).ops
  done : ∀ n, (s.ent n).state = 3 → t.ent n = s.ent n
  order : ∃ l, t.order = s.order ++ l
theorem Keeps.refl (s : NodeL) : Keeps s s := ⟨fun _ => Int.le_refl _, fun _ _ => rfl, fun _ _ => ⟨rfl, rfl⟩, fun _ _ => rfl, [], by simp⟩
theorem Keeps.trans {s t u : NodeL} (h : Keeps s t) (k : Keeps t u) (h0 : ∀ n, 0 ≤ (s.ent n).state) : Keeps s u := by
  refine ⟨fun n => Int.le_trans (h.state n) (k.state n), fun n hn => ?_, fun n hn => ?_, fun n hn => ?_, ?_⟩
  · rw [k.first n (by have := h.state n; have := h0 n; omega), h.first n hn]
  · obtain ⟨a, b⟩ := h.fixed n hn
    obtain ⟨c, d⟩ := k.fixed n (by have := h.state n; omega)
    exact ⟨c.trans a, d.trans b⟩
  · rw [k.done n (by rw [h.done n hn]; exact hn), h.done n hn]
  · obtain ⟨l, hl⟩ := h.order
    obtain ⟨m, hm⟩ := k.order
    exact ⟨l ++ m, by rw [hm, hl, List.append_assoc]⟩
theorem keeps_exec (s : NodeL) (sh : Int) (n : Nat) (h : (s.ent n).state = 2) : Keeps s (s.exec sh n) := by
  have same : (s.exec sh n).ent n = ⟨3, (s.ent n).ops, (s.ent n).first, (s.ent n).deps, _, _⟩ := upd_same _ _ _
  have other : ∀ m, m ≠ n → (s.exec sh n).ent m = s.ent m := fun m hm => upd_other _ _ hm
  refine ⟨fun m => ?_, fun m hm => ?_, fun m hm => ?_, fun m hm => ?_, [(n : Int)], rfl⟩
  · by_cases e : m = n
    · rw [e, same, h]; show (2 : Int) ≤ 3; decide
    · rw [other m e]; exact Int.le_refl _
  · by_cases e : m = n
    · rw [e, same]
    · rw [other m e]
  · by_cases e : m = n
    · rw [e, same]; exact ⟨rfl, rfl⟩
    · rw [other m e]; exact ⟨rfl, rfl⟩
  · by_cases e : m = n
    · rw [e, h] at hm; cases hm
    · exact other m e
theorem keeps_execIf (s : NodeL) (sh : Int) (n : Nat) : Keeps s (NodeL.execIf sh s n) := by
  unfold NodeL.execIf
  split
  · rename_i h; exact keeps_exec s sh n h
  · exact Keeps.refl s
theorem keeps_foldl {α : Type} (f : NodeL → α → NodeL) (hf : ∀ s a, Keeps s (f s a)) : ∀ (l : List α) (s : NodeL), (∀ n, 0 ≤ (s.ent n).state) → Keeps s (l.foldl f s)
  | [], s, _ => Keeps.refl s
  | a :: l, s, h0 => by
    have h1 := hf s a
    exact h1.trans (keeps_foldl f hf l (f s a) (fun n => Int.le_trans (h0 n) (h1.state n))) h0
theorem keeps_settle (s : NodeL) (sh : Int) (h0 : ∀ n, 0 ≤ (s.ent n).state) : Keeps s (s.settle sh) := by
  have : ∀ (l : List Nat) (t : NodeL), (∀ n, 0 ≤ (t.ent n).state) → Keeps t (l.foldl (NodeL.round s.graph sh) t) := by
    intro l
    induction l with
    | nil => exact fun t _ => Keeps.refl t
    | cons a l ih =>
      intro t ht
      have h1 : Keeps t (NodeL.round s.graph sh t a) := by
        unfold NodeL.round
        split
        · exact keeps_foldl _ (fun s a => keeps_execIf s sh a) _ _ ht
        · exact Keeps.refl t
      exact h1.trans (ih _ (fun n => Int.le_trans (ht n) (h1.state n))) ht
  exact this _ s h0
theorem heard_same (s : NodeL) (sh : Int) (f : FrameL) : (s.heard sh f).ent f.id.toNat = ⟨1, f.ops, s.ahead f.id.toNat f.ops sh, [], [], []⟩ := upd_same _ _ _
theorem heard_other (s : NodeL) (sh : Int) (f : FrameL) {m : Nat} (h : m ≠ f.id.toNat) : (s.heard sh f).ent m = s.ent m := upd_other _ _ h
theorem keeps_asked (s : NodeL) (sh : Int) (f : FrameL) : Keeps s (s.asked sh f) := by
  unfold NodeL.asked
  split
  · rename_i h
    refine ⟨fun m => ?_, fun m hm => ?_, fun m hm => ?_, fun m hm => ?_, [], by simp [NodeL.heard]⟩
    · by_cases e : m = f.id.toNat
      · subst e; rw [heard_same, h]; show (0 : Int) ≤ 1; decide
      · rw [heard_other s sh f e]; exact Int.le_refl _
    · by_cases e : m = f.id.toNat
      · subst e; exact absurd h hm
      · rw [heard_other s sh f e]
    · by_cases e : m = f.id.toNat
      · subst e; omega
      · rw [heard_other s sh f e]; exact ⟨rfl, rfl⟩
    · by_cases e : m = f.id.toNat
      · subst e; omega
      · exact heard_other s sh f e
  · exact Keeps.refl s
theorem placed_same (s : NodeL) (sh : Int) (f : FrameL) : (s.placed sh f).ent f.id.toNat = ⟨2, f.ops, if (s.ent f.id.toNat).state = 0 then s.ahead f.id.toNat f.ops sh else (s.ent f.id.toNat).first, f.deps, (s.ent f.id.toNat).ats, (s.ent f.id.toNat).vals⟩ := upd_same _ _ _
theorem keeps_placed (s : NodeL) (sh : Int) (f : FrameL) (h : (s.ent f.id.toNat).state < 2) : Keeps s (s.placed sh f) := by
  have same : (s.placed sh f).ent f.id.toNat = ⟨2, f.ops, if (s.ent f.id.toNat).state = 0 then s.ahead f.id.toNat f.ops sh else (s.ent f.id.toNat).first, f.deps, (s.ent f.id.toNat).ats, (s.ent f.id.toNat).vals⟩ := upd_same _ _ _
  have other : ∀ m, m ≠ f.id.toNat → (s.placed sh f).ent m = s.ent m := fun m hm => upd_other _ _ hm
  refine ⟨fun m => ?_, fun m hm => ?_, fun m hm => ?_, fun m hm => ?_, [], by simp [NodeL.placed]⟩
  · by_cases e : m = f.id.toNat
    · subst e; rw [same]; show _ ≤ (2 : Int); omega
    · rw [other m e]; exact Int.le_refl _
  · by_cases e : m = f.id.toNat
    · subst e; rw [same]; show (if _ then _ else _) = _; rw [if_neg hm]
    · rw [other m e]
  · by_cases e : m = f.id.toNat
    · subst e; omega
    · rw [other m e]; exact ⟨rfl, rfl⟩
  · by_cases e : m = f.id.toNat
    · subst e; omega
    · exact other m e
theorem keeps_commit (s : NodeL) (sh : Int) (f : FrameL) (h0 : ∀ n, 0 ≤ (s.ent n).state) : Keeps s (s.commit sh f) := by
  unfold NodeL.commit
  split
  · rename_i h
    have h1 := keeps_placed s sh f h
    exact h1.trans (keeps_settle _ sh (fun n => Int.le_trans (h0 n) (h1.state n))) h0
  · exact Keeps.refl s

/-! ### What comes twice is taken once -/
end Go.Proofs.YtkoefoccbjhoiacGreat

namespace Go.Proofs.YtkoefoccbjhoiacGreat
open Go.RowKit

theorem rises_map (xs : List Nat) : ∀ (l : Int), (∀ x ∈ xs, l < (x : Int) ∧ x < 32) → xs.Pairwise (· < ·) → risingFrom l (xs.map Int.ofNat) = true := by
  induction xs with
  | nil => intros; rfl
  | cons x r ih =>
    intro l h hp
    have hx := h x (by simp)
    obtain ⟨h1, h2⟩ := List.pairwise_cons.1 hp
    rw [List.map_cons, risingFrom, ih (Int.ofNat x) (fun y hy => ⟨by have := h1 y hy; simp; omega, (h y (by simp [hy])).2⟩) h2]
    have e1 : decide (Int.ofNat x ≤ l) = false := by simp; omega
    have e2 : decide (32 ≤ Int.ofNat x) = false := by simp; omega
    rw [e1, e2]
    rfl
theorem ahead_rises (s : NodeL) (id : Nat) (ops : List OpL) (sh : Int) : risingFrom (-1) (s.ahead id ops sh) = true := by
  unfold NodeL.ahead unionTo
  refine rises_map _ _ (fun x hx => ?_) (List.Pairwise.filter _ List.pairwise_lt_range)
  have := List.mem_range.1 (List.mem_filter.1 hx).1
  omega
theorem ahead_not (s : NodeL) (id : Nat) (ops : List OpL) (sh : Int) : hasL (s.ahead id ops sh) id = false := by
  unfold hasL
  rw [List.any_eq_false]
  intro x hx he
  unfold NodeL.ahead unionTo at hx
  rw [List.mem_map] at hx
  obtain ⟨y, hy, rfl⟩ := hx
  have h1 := (List.mem_filter.1 hy).2
  unfold eqB at he
  have : y = id := by
    have h2 : ((y : Nat) : Int) = (id : Int) := by simpa using he
    omega
  subst this
  simp at h1

theorem run_ats (sh : Int) : ∀ (ops : List OpL) (i : Nat) (v : Nat → Int) (l : Int) (N : Nat), l < (i : Int) → i + ops.length ≤ N → atsFrom l N (runOps sh i ops v).2.1 = true
  | [], _, _, _, _, _, _ => rfl
  | o :: r, i, v, l, N, h1, h2 => by
    simp only [List.length_cons] at h2
    unfold runOps
    split
    · show (decide (l < (i : Int)) && decide ((i : Int) < (N : Int)) && atsFrom (i : Int) N _) = true
      rw [decide_eq_true h1, decide_eq_true (show (i : Int) < (N : Int) by omega), run_ats sh r (i + 1) _ (i : Int) N (by omega) (by omega)]
      rfl
    · exact run_ats sh r (i + 1) v l N (by omega) (by omega)
theorem run_len (sh : Int) : ∀ (ops : List OpL) (i : Nat) (v : Nat → Int), (runOps sh i ops v).2.2.length = (runOps sh i ops v).2.1.length
  | [], _, _ => rfl
  | o :: r, i, v => by
    unfold runOps
    split
    · simp only [List.length_cons, run_len sh r (i + 1)]
    · exact run_len sh r (i + 1) v

theorem three_ok : (1 : Int) ≤ 3 ∧ (3 : Int) ≤ 3 := by decide
theorem two_okN : (1 : Int) ≤ 2 ∧ (2 : Int) ≤ 3 := by decide
theorem one_ok : (1 : Int) ≤ 1 ∧ (1 : Int) ≤ 3 := by decide
theorem GoodN.fine {s : NodeL} (h : GoodN s) {n : Nat} (hn : n < 32) (hs : (s.ent n).state ≠ 0) : Fine (s.ent n) n := by
  rcases h.ent n hn with e | e
  · rw [e] at hs; exact absurd rfl hs
  · exact e
theorem GoodN.state {s : NodeL} (h : GoodN s) {n : Nat} (hn : n < 32) : 0 ≤ (s.ent n).state ∧ (s.ent n).state ≤ 3 := by
  rcases h.ent n hn with e | e
  · rw [e]; decide
  · have := e.st; omega
theorem good_exec {s : NodeL} (h : GoodN s) (sh : Int) {n : Nat} (hn : n < 32) (hs : (s.ent n).state = 2) : GoodN (s.exec sh n) := by
  have F := h.fine hn (by rw [hs]; decide)
  have same : (s.exec sh n).ent n = ⟨3, (s.ent n).ops, (s.ent n).first, (s.ent n).deps, (runOps sh 0 (s.ent n).ops s.vals).2.1, (runOps sh 0 (s.ent n).ops s.vals).2.2⟩ := upd_same _ _ _
  have other : ∀ m, m ≠ n → (s.exec sh n).ent m = s.ent m := fun m hm => upd_other _ _ hm
  refine ⟨fun m hm => ?_, fun m hm => ?_, fun x hx => ?_⟩
  · by_cases e : m = n
    · subst e
      right
      rw [same]
      exact ⟨three_ok, F.ops, F.first, F.deps, fun h => absurd (show (3 : Int) = 1 from h) (by decide), fun h => absurd rfl h, run_ats sh (s.ent m).ops 0 s.vals (-1) (s.ent m).ops.length (by omega) (by omega), run_len sh _ _ _⟩
    · rw [other m e]; exact h.ent m hm
  · have h1 := h.cnt m hm
    show (s.order ++ [(n : Int)]).count (m : Int) = _
    rw [List.count_append, h1]
    by_cases e : m = n
    · subst e
      rw [same, hs]
      simp
    · rw [other m e]
      have : List.count (m : Int) [(n : Int)] = 0 := by
        rw [List.count_eq_zero]
        simp
        omega
      rw [this]
      rfl
  · rcases List.mem_append.1 hx with hx | hx
    · exact h.lt x hx
    · simp at hx
      omega
theorem good_execs (sh : Int) : ∀ (l : List Nat) {s : NodeL}, (∀ x ∈ l, x < 32) → GoodN s → GoodN (s.execs sh l)
  | [], _, _, h => h
  | a :: l, s, hl, h => by
    have h1 : GoodN (NodeL.execIf sh s a) := by
      unfold NodeL.execIf
      split
      · rename_i e; exact good_exec h sh (hl a (by simp)) e
      · exact h
    exact good_execs (s := NodeL.execIf sh s a) sh l (fun x hx => hl x (by simp [hx])) h1
theorem order_below (g : GraphL) (n : Int) : ∀ x ∈ orderI g n, x < 32 := by
  intro x hx
  unfold orderI at hx
  split at hx
  · exact (placed_at _ _ 32).lt x hx
  · simp at hx
theorem good_settle {s : NodeL} (h : GoodN s) (sh : Int) : GoodN (s.settle sh) := by
  have : ∀ (l : List Nat) (t : NodeL), GoodN t → GoodN (l.foldl (NodeL.round s.graph sh) t) := by
    intro l
    induction l with
    | nil => exact fun t ht => ht
    | cons a l ih =>
      intro t ht
      refine ih _ ?_
      unfold NodeL.round
      split
      · exact good_execs (s := t) sh _ (order_below _ _) ht
      · exact ht
  exact this _ s h

/-- What a good frame has, of the two kinds that a node takes. -/
theorem frame_has {f : FrameL} (h : goodL f = 0) : 0 ≤ f.id ∧ f.id < 32 ∧ ((f.kind = 1 ∨ f.kind = 3) → goodOpsL f.ops = true) ∧ (f.kind = 3 → risingFrom (-1) f.deps = true ∧ hasL f.deps f.id = false) := by
  unfold goodL at h
  split at h
  · cases h
  · split at h
    · cases h
    · rename_i h2
      split at h
      · rename_i h3
        rw [Bool.and_eq_true, Bool.and_eq_true] at h3
        refine ⟨by omega, by omega, fun hk => ?_, fun hk => ?_⟩
        · have := h3.1
          unfold goodOpsF at this
          rw [if_pos hk] at this
          exact this
        · have := h3.2.1
          unfold goodDepsF at this
          rw [if_pos (Or.inr hk), Bool.and_eq_true] at this
          exact ⟨this.1, by simpa using this.2⟩
      · cases h
theorem good_asked {s : NodeL} (h : GoodN s) (sh : Int) {f : FrameL} (hf : goodL f = 0) (hk : f.kind = 1) : GoodN (s.asked sh f) := by
  obtain ⟨i1, i2, i3, _⟩ := frame_has hf
  unfold NodeL.asked
  split
  · rename_i e0
    refine ⟨fun m hm => ?_, fun m hm => ?_, h.lt⟩
    · by_cases e : m = f.id.toNat
      · subst e
        right
        rw [heard_same]
        exact ⟨one_ok, i3 (Or.inl hk), ⟨ahead_rises _ _ _ _, ahead_not _ _ _ _⟩, ⟨rfl, rfl⟩, fun _ => rfl, fun _ => rfl, rfl, rfl⟩
      · rw [heard_other s sh f e]; exact h.ent m hm
    · have h1 := h.cnt m hm
      show s.order.count (m : Int) = _
      rw [h1]
      by_cases e : m = f.id.toNat
      · subst e
        rw [heard_same, e0]
        rfl
      · rw [heard_other s sh f e]
  · exact h
theorem good_placed {s : NodeL} (h : GoodN s) (sh : Int) {f : FrameL} (hf : goodL f = 0) (hk : f.kind = 3) (hs : (s.ent f.id.toNat).state < 2) : GoodN (s.placed sh f) := by
  obtain ⟨i1, i2, i3, i4⟩ := frame_has hf
  have hid : ((f.id.toNat : Nat) : Int) = f.id := by omega
  have hlt : f.id.toNat < 32 := by omega
  have other : ∀ m, m ≠ f.id.toNat → (s.placed sh f).ent m = s.ent m := fun m hm => upd_other _ _ hm
  have hats : (s.ent f.id.toNat).ats = [] ∧ (s.ent f.id.toNat).vals = [] := by
    rcases h.ent _ hlt with e | e
    · rw [e]; exact ⟨rfl, rfl⟩
    · have h1 := e.told (by omega)
      exact ⟨h1, List.eq_nil_of_length_eq_zero (by rw [e.vals, h1]; rfl)⟩
  refine ⟨fun m hm => ?_, fun m hm => ?_, h.lt⟩
  · by_cases e : m = f.id.toNat
    · subst e
      right
      rw [placed_same, hats.1, hats.2]
      have hfi : risingFrom (-1) (if (s.ent f.id.toNat).state = 0 then s.ahead f.id.toNat f.ops sh else (s.ent f.id.toNat).first) = true ∧ hasL (if (s.ent f.id.toNat).state = 0 then s.ahead f.id.toNat f.ops sh else (s.ent f.id.toNat).first) ((f.id.toNat : Nat) : Int) = false := by
        split
        · exact ⟨ahead_rises _ _ _ _, ahead_not _ _ _ _⟩
        · rename_i e0
          exact (h.fine hlt e0).first
      have hdp : risingFrom (-1) f.deps = true ∧ hasL f.deps ((f.id.toNat : Nat) : Int) = false := by rw [hid]; exact i4 hk
      exact ⟨two_okN, i3 (Or.inr hk), hfi, hdp, fun h => absurd (show (2 : Int) = 1 from h) (by decide), fun _ => rfl, rfl, rfl⟩
    · rw [other m e]; exact h.ent m hm
  · have h1 := h.cnt m hm
    show s.order.count (m : Int) = _
    rw [h1]
    by_cases e : m = f.id.toNat
    · subst e
      rw [placed_same, if_neg (by omega)]
      rfl
    · rw [other m e]
theorem good_commit {s : NodeL} (h : GoodN s) (sh : Int) {f : FrameL} (hf : goodL f = 0) (hk : f.kind = 3) : GoodN (s.commit sh f) := by
  unfold NodeL.commit
  split
  · rename_i e; exact good_settle (good_placed h sh hf hk e) sh
  · exact h
theorem good_zero : GoodN zeroN := ⟨fun _ _ => Or.inl rfl, fun _ _ => rfl, by simp [zeroN]⟩

end Go.Proofs.YtkoefoccbjhoiacGreat

namespace Go.Proofs.YtkoefoccbjhoiacGreat
open Go.RowKit

/-- What comes to be known of m. -/
def GraphL.learn (g : GraphL) (m : Nat) (zs : List Int) : GraphL := ⟨upd g.known m true, upd g.deps m zs⟩
theorem learn_adj {g : GraphL} {m : Nat} {zs : List Int} {x : Nat} (hx : x ≠ m) (y : Nat) : (g.learn m zs).adj x y = g.adj x y := by
  unfold GraphL.adj GraphL.learn
  simp only [upd_other _ _ hx]
theorem hangs_learn {g : GraphL} {m : Nat} {zs : List Int} {x y : Nat} (h : Hangs g.adj x y) (hm : ¬ Hangs g.adj x m) : Hangs (g.learn m zs).adj x y := by
  induction h using Hangs.ind with
  | refl => exact .refl _
  | step a h ih =>
    rename_i x z y
    have hx : x ≠ m := fun e => hm (e ▸ .refl _)
    exact .step (by rw [learn_adj hx]; exact a) (ih (fun h => hm (.step a h)))
theorem hangs_unlearn {g : GraphL} {m : Nat} {zs : List Int} {x y : Nat} (h : Hangs (g.learn m zs).adj x y) (hm : ¬ Hangs g.adj x m) : Hangs g.adj x y := by
  induction h using Hangs.ind with
  | refl => exact .refl _
  | step a h ih =>
    rename_i x z y
    have hx : x ≠ m := fun e => hm (e ▸ .refl _)
    rw [learn_adj hx] at a
    exact .step a (ih (fun h => hm (.step a h)))
theorem learn_row {g : GraphL} {m : Nat} {zs : List Int} {x : Nat} (hx : x < 32) (hm : hangB g x m = false) (y : Nat) : hangB g x y = hangB (g.learn m zs) x y := by
  have hm' : ¬ Hangs g.adj x m := fun h => by rw [(hangB_iff g hx m).2 h] at hm; cases hm
  rw [Bool.eq_iff_iff, hangB_iff g hx y, hangB_iff (g.learn m zs) hx y]
  exact ⟨fun h => hangs_learn h hm', fun h => hangs_unlearn h hm'⟩
end Go.Proofs.YtkoefoccbjhoiacGreat

namespace Go.Proofs.YtkoefoccbjhoiacGreat
open Go.RowKit

def NodeL.did (s : NodeL) : List Nat := s.order.map Int.toNat
theorem did_iff {s : NodeL} (h : GoodN s) {n : Nat} (hn : n < 32) : n ∈ s.did ↔ (s.ent n).state = 3 := by
  have h1 := h.cnt n hn
  unfold NodeL.did
  rw [List.mem_map]
  constructor
  · rintro ⟨x, hx, e⟩
    have := h.lt x hx
    have ex : x = (n : Int) := by omega
    subst ex
    have : 0 < s.order.count (n : Int) := List.count_pos_iff.2 hx
    split at h1
    · assumption
    · omega
  · intro hs
    rw [if_pos hs] at h1
    exact ⟨(n : Int), List.count_pos_iff.1 (by omega), by simp⟩

/-- What a node has executed: sorted, and all that it hangs on is known. -/
structure SortN (s : NodeL) : Prop where
  sorted : Sorted (hangB s.graph) s.did
  ready : ∀ x ∈ s.did, ∀ d, d < 32 → hangB s.graph x d = true → s.graph.known d = true

theorem graph_exec (s : NodeL) (sh : Int) (n : Nat) (h : (s.ent n).state = 2) : (s.exec sh n).graph = s.graph := by
  have same : (s.exec sh n).ent n = ⟨3, (s.ent n).ops, (s.ent n).first, (s.ent n).deps, _, _⟩ := upd_same _ _ _
  have other : ∀ m, m ≠ n → (s.exec sh n).ent m = s.ent m := fun m hm => upd_other _ _ hm
  have e1 : (fun i => decide (2 ≤ ((s.exec sh n).ent i).state)) = fun i => decide (2 ≤ (s.ent i).state) := by
    funext i
    by_cases e : i = n
    · rw [e, same, h]; rfl
    · rw [other i e]
  have e2 : (fun i => ((s.exec sh n).ent i).deps) = fun i => (s.ent i).deps := by
    funext i
    by_cases e : i = n
    · rw [e, same]
    · rw [other i e]
  unfold NodeL.graph
  rw [e1, e2]

/-- A list is executed: those of it that are Committed, in its order. -/
theorem did_execs (sh : Int) : ∀ (l : List Nat) (s : NodeL), l.Nodup → (s.execs sh l).did = s.did ++ l.filter (fun x => decide ((s.ent x).state = 2)) ∧ (s.execs sh l).graph = s.graph ∧ ∀ x, x ∉ l → (s.execs sh l).ent x = s.ent x
  | [], s, _ => ⟨by simp [NodeL.execs], rfl, fun _ _ => rfl⟩
  | a :: l, s, hd => by
    rw [List.nodup_cons] at hd
    obtain ⟨i1, i2, i3⟩ := did_execs sh l (NodeL.execIf sh s a) hd.2
    have e0 : s.execs sh (a :: l) = (NodeL.execIf sh s a).execs sh l := rfl
    rw [e0, i1, i2]
    by_cases h : (s.ent a).state = 2
    · have e1 : NodeL.execIf sh s a = s.exec sh a := by unfold NodeL.execIf; rw [if_pos h]
      have other : ∀ m, m ≠ a → (s.exec sh a).ent m = s.ent m := fun m hm => upd_other _ _ hm
      rw [e1] at i3 ⊢
      refine ⟨?_, graph_exec s sh a h, fun x hx => ?_⟩
      · have hf : l.filter (fun x => decide (((s.exec sh a).ent x).state = 2)) = l.filter (fun x => decide ((s.ent x).state = 2)) := List.filter_congr fun x hx => by rw [other x (fun e => hd.1 (e ▸ hx))]
        rw [hf, List.filter_cons_of_pos (by simpa using h)]
        unfold NodeL.did NodeL.exec
        simp
      · rw [i3 x (fun h => hx (by simp [h])), other x (fun e => hx (by simp [e]))]
    · have e1 : NodeL.execIf sh s a = s := by unfold NodeL.execIf; rw [if_neg h]
      rw [e1] at i3 ⊢
      refine ⟨by rw [List.filter_cons_of_neg (by simpa using h)], rfl, fun x hx => i3 x (fun h => hx (by simp [h]))⟩

theorem sort_execs {s : NodeL} (h : GoodN s) (S : SortN s) (sh : Int) {n : Nat} (hn : n < 32) : SortN (s.execs sh (orderI s.graph n)) ∧ (s.execs sh (orderI s.graph n)).graph = s.graph := by
  cases hr : readyI s.graph (n : Int)
  · have : orderI s.graph (n : Int) = [] := by unfold orderI; rw [hr]; rfl
    rw [this]
    exact ⟨S, rfl⟩
  · have hc := clo_hang s.graph hn
    have eo : orderI s.graph (n : Int) = outS (hangB s.graph) (hangB s.graph n) 32 := by unfold orderI; rw [hr, ← order_spec s.graph hn]; rfl
    have hk : ∀ i, i < 32 → hangB s.graph n i = true → s.graph.known i = true := by
      have h1 := hr
      unfold readyI at h1
      rw [Bool.and_eq_true] at h1
      exact knowsB_iff.1 h1.2
    have L := laid_at hc 32
    obtain ⟨e1, e2, _⟩ := did_execs sh (orderI s.graph (n : Int)) s (by rw [eo]; exact L.nodup)
    refine ⟨?_, e2⟩
    have hf : (orderI s.graph (n : Int)).filter (fun x => decide ((s.ent x).state = 2)) = (outS (hangB s.graph) (hangB s.graph n) 32).filter fun x => !s.did.contains x := by
      rw [eo]
      refine List.filter_congr fun x hx => ?_
      have hd := L.inD x hx
      have hx32 := hc.lt x hd
      have h2 : 2 ≤ (s.ent x).state := by simpa [NodeL.graph] using hk x hx32 hd
      have h3 := (h.state hx32).2
      have h4 := did_iff h hx32
      rw [Bool.eq_iff_iff]
      simp only [decide_eq_true_iff, Bool.not_eq_true', List.contains_eq_mem, decide_eq_false_iff_not]
      constructor
      · intro h5 h6
        have := h4.1 h6
        omega
      · intro h5
        have : (s.ent x).state ≠ 3 := fun e => h5 (h4.2 e)
        omega
    rw [hf] at e1
    refine ⟨by rw [e1, e2]; exact sorted_more hc S.sorted, fun x hx d hd hxd => ?_⟩
    rw [e2] at hxd ⊢
    rw [e1] at hx
    rcases List.mem_append.1 hx with hx | hx
    · exact S.ready x hx d hd hxd
    · have hdx := L.inD x (List.mem_filter.1 hx).1
      exact hk d hd (hc.closed x d hdx hxd)

theorem sort_settle {s : NodeL} (h : GoodN s) (S : SortN s) (sh : Int) : SortN (s.settle sh) := by
  have : ∀ (l : List Nat) (t : NodeL), (∀ x ∈ l, x < 32) → GoodN t → SortN t → t.graph = s.graph → SortN (l.foldl (NodeL.round s.graph sh) t) := by
    intro l
    induction l with
    | nil => exact fun t _ _ ht _ => ht
    | cons a l ih =>
      intro t hl hg hS he
      have ha := hl a (by simp)
      have h1 : GoodN (NodeL.round s.graph sh t a) ∧ SortN (NodeL.round s.graph sh t a) ∧ (NodeL.round s.graph sh t a).graph = s.graph := by
        unfold NodeL.round
        split
        · rw [← he]
          obtain ⟨k1, k2⟩ := sort_execs hg hS sh ha
          exact ⟨good_execs sh _ (order_below _ _) hg, k1, k2⟩
        · exact ⟨hg, hS, he⟩
      exact ih _ (fun x hx => hl x (by simp [hx])) h1.1 h1.2.1 h1.2.2
  exact this _ s (fun x hx => List.mem_range.1 hx) h S rfl

theorem graph_asked {s : NodeL} (h : GoodN s) (sh : Int) {f : FrameL} (hf : goodL f = 0) : (s.asked sh f).graph = s.graph := by
  obtain ⟨i1, i2, _, _⟩ := frame_has hf
  unfold NodeL.asked
  split
  · rename_i e0
    have hz : s.ent f.id.toNat = zeroE := by
      rcases h.ent f.id.toNat (by omega) with e | e
      · exact e
      · have := e.st; omega
    have e1 : (fun i => decide (2 ≤ ((s.heard sh f).ent i).state)) = fun i => decide (2 ≤ (s.ent i).state) := by
      funext i
      by_cases e : i = f.id.toNat
      · rw [e, heard_same, hz]; rfl
      · rw [heard_other s sh f e]
    have e2 : (fun i => ((s.heard sh f).ent i).deps) = fun i => (s.ent i).deps := by
      funext i
      by_cases e : i = f.id.toNat
      · rw [e, heard_same, hz]; rfl
      · rw [heard_other s sh f e]
    unfold NodeL.graph
    rw [e1, e2]
  · rfl
theorem did_asked (s : NodeL) (sh : Int) (f : FrameL) : (s.asked sh f).did = s.did := by
  unfold NodeL.asked
  split <;> rfl
theorem sort_asked {s : NodeL} (h : GoodN s) (S : SortN s) (sh : Int) {f : FrameL} (hf : goodL f = 0) : SortN (s.asked sh f) := by
  refine ⟨?_, ?_⟩
  · rw [graph_asked h sh hf, did_asked]; exact S.sorted
  · rw [graph_asked h sh hf, did_asked]; exact S.ready
theorem graph_placed (s : NodeL) (sh : Int) (f : FrameL) : (s.placed sh f).graph = s.graph.learn f.id.toNat f.deps := by
  have other : ∀ m, m ≠ f.id.toNat → (s.placed sh f).ent m = s.ent m := fun m hm => upd_other _ _ hm
  have e1 : (fun i => decide (2 ≤ ((s.placed sh f).ent i).state)) = upd (fun i => decide (2 ≤ (s.ent i).state)) f.id.toNat true := by
    funext i
    by_cases e : i = f.id.toNat
    · rw [e, placed_same, upd_same]; rfl
    · rw [other i e, upd_other _ _ e]
  have e2 : (fun i => ((s.placed sh f).ent i).deps) = upd (fun i => (s.ent i).deps) f.id.toNat f.deps := by
    funext i
    by_cases e : i = f.id.toNat
    · rw [e, placed_same, upd_same]
    · rw [other i e, upd_other _ _ e]
  unfold NodeL.graph GraphL.learn
  rw [e1, e2]
theorem sort_placed {s : NodeL} (S : SortN s) (sh : Int) {f : FrameL} (hf : goodL f = 0) (hs : (s.ent f.id.toNat).state < 2) : SortN (s.placed sh f) := by
  obtain ⟨i1, i2, _, _⟩ := frame_has hf
  have hid : f.id.toNat < 32 := by omega
  have hunk : s.graph.known f.id.toNat = false := by
    show decide (2 ≤ (s.ent f.id.toNat).state) = false
    exact decide_eq_false (by omega)
  have hno : ∀ x ∈ s.did, hangB s.graph x f.id.toNat = false := by
    intro x hx
    cases hh : hangB s.graph x f.id.toNat
    · rfl
    · rw [S.ready x hx _ hid hh] at hunk; cases hunk
  have hrow : ∀ x ∈ s.did, ∀ y, y < 32 → hangB s.graph x y = hangB (s.graph.learn f.id.toNat f.deps) x y := fun x hx y _ => learn_row (S.sorted.lt x hx) (hno x hx) y
  have ed : (s.placed sh f).did = s.did := rfl
  refine ⟨by rw [graph_placed, ed]; exact S.sorted.later hrow, fun x hx d hd hxd => ?_⟩
  rw [graph_placed] at hxd ⊢
  rw [ed] at hx
  rw [← hrow x hx d hd] at hxd
  have := S.ready x hx d hd hxd
  show upd s.graph.known f.id.toNat true d = true
  unfold upd
  split
  · rfl
  · exact this
theorem sort_commit {s : NodeL} (h : GoodN s) (S : SortN s) (sh : Int) {f : FrameL} (hf : goodL f = 0) (hk : f.kind = 3) : SortN (s.commit sh f) := by
  unfold NodeL.commit
  split
  · rename_i e; exact sort_settle (good_placed h sh hf hk e) (sort_placed S sh hf e) sh
  · exact S
end Go.Proofs.YtkoefoccbjhoiacGreat
