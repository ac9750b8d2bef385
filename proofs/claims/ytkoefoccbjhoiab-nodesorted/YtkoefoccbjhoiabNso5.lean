/-
  Plain mathematics: what an order is, by what hangs on what alone; that it has all, each behind what it hangs on; that its parts are orders.
  Plain mathematics: what is executed order by order stands behind all that it hangs on, but those that hang on it: these by number.
  What package graph's Order answers, by what hangs on what alone.
  The contracts of the small functions of package txn (Shard, Of, nearest, Do): what each returns at every number, the old memory as it was.
  The contracts of package txn's functions on lists of operations (meets, Conflict, Touches).
  The contracts of goodOp and GoodOps, and of the document's own IsOps.
  The contracts of Rising and of the statements' own 'has', and what holds of the union.
-/
import Derived.Test.YtkoefoccbjhoiabNso4
import Derived.Test.YtkoefoccbjhoiabNso1
namespace Go.Proofs.Ytkoefoccbjhoiab
open Go.RowKit

/-- May x be placed? D: those that are asked for; H: what hangs on what. -/
def mayS (H : Nat → Nat → Bool) (D placed : Nat → Bool) (x : Nat) : Bool := D x && !placed x && (List.range 32).all fun m => !H x m || placed m || H m x
def ringS (H : Nat → Nat → Bool) (x : Nat) : List Nat := (List.range 32).filter fun m => H x m && H m x
def nextS (H : Nat → Nat → Bool) (D placed : Nat → Bool) : List Nat := match (List.range 32).find? (mayS H D placed) with
  | none => []
  | some x => ringS H x
def outS (H : Nat → Nat → Bool) (D : Nat → Bool) : Nat → List Nat
  | 0 => []
  | j + 1 => outS H D j ++ nextS H D (fun i => (outS H D j).contains i)

/-- H goes on, over those of D; D is closed. -/
structure Clo (H : Nat → Nat → Bool) (D : Nat → Bool) : Prop where
  refl : ∀ x, x < 32 → D x = true → H x x = true
  trans : ∀ x y z, D x = true → H x y = true → H y z = true → H x z = true
  closed : ∀ x y, D x = true → H x y = true → D y = true
  lt : ∀ x, D x = true → x < 32

theorem nextS_none {H : Nat → Nat → Bool} {D placed : Nat → Bool} (h : ∀ x, x < 32 → mayS H D placed x = false) : nextS H D placed = [] := by
  have : (List.range 32).find? (mayS H D placed) = none := by
    rw [List.find?_eq_none]
    intro x hx
    rw [h x (List.mem_range.1 hx)]
    simp
  unfold nextS
  rw [this]
theorem nextS_some {H : Nat → Nat → Bool} {D placed : Nat → Bool} {x : Nat} (hx : x < 32) (h : mayS H D placed x = true) (hl : ∀ y, y < x → mayS H D placed y = false) : nextS H D placed = ringS H x := by
  have : (List.range 32).find? (mayS H D placed) = some x := by
    rw [List.find?_range_eq_some]
    exact ⟨h, List.mem_range.2 hx, fun j hj => by rw [hl j hj]; rfl⟩
  unfold nextS
  rw [this]
/-- Either nothing may be placed, or the least that may. -/
theorem nextS_cases (H : Nat → Nat → Bool) (D placed : Nat → Bool) : (nextS H D placed = [] ∧ ∀ x, x < 32 → mayS H D placed x = false) ∨ ∃ x, x < 32 ∧ mayS H D placed x = true ∧ (∀ y, y < x → mayS H D placed y = false) ∧ nextS H D placed = ringS H x := by
  cases hq : (List.range 32).find? (mayS H D placed) with
  | none =>
    left
    rw [List.find?_eq_none] at hq
    refine ⟨by unfold nextS; rw [(List.find?_eq_none.2 hq)], fun x hx => by simpa using hq x (List.mem_range.2 hx)⟩
  | some x =>
    right
    have hq' := hq
    rw [List.find?_range_eq_some] at hq
    obtain ⟨h1, h2, h3⟩ := hq
    exact ⟨x, List.mem_range.1 h2, h1, fun y hy => by simpa using h3 y hy, by unfold nextS; rw [hq']⟩
theorem mayS_iff {H : Nat → Nat → Bool} {D placed : Nat → Bool} {x : Nat} : mayS H D placed x = true ↔ D x = true ∧ placed x = false ∧ ∀ m, m < 32 → H x m = true → placed m = true ∨ H m x = true := by
  unfold mayS
  simp only [Bool.and_eq_true, Bool.not_eq_true', List.all_eq_true, List.mem_range, Bool.or_eq_true]
  constructor
  · rintro ⟨⟨h1, h2⟩, h3⟩
    refine ⟨h1, h2, fun m hm hx => ?_⟩
    rcases h3 m hm with (h | h) | h
    · rw [hx] at h; cases h
    · exact Or.inl h
    · exact Or.inr h
  · rintro ⟨h1, h2, h3⟩
    refine ⟨⟨h1, h2⟩, fun m hm => ?_⟩
    cases hx : H x m
    · exact Or.inl (Or.inl rfl)
    · rcases h3 m hm hx with h | h
      · exact Or.inl (Or.inr h)
      · exact Or.inr h
theorem mem_ringS {H : Nat → Nat → Bool} {x m : Nat} : m ∈ ringS H x ↔ m < 32 ∧ H x m = true ∧ H m x = true := by
  unfold ringS
  rw [List.mem_filter, List.mem_range, Bool.and_eq_true]
theorem mayS_congr {H H' : Nat → Nat → Bool} {D D' placed : Nat → Bool} (hc : Clo H D) (hD : ∀ x, x < 32 → D x = D' x) (hH : ∀ x, D x = true → ∀ y, y < 32 → H x y = H' x y) {x : Nat} (hx : x < 32) : mayS H D placed x = mayS H' D' placed x := by
  rw [Bool.eq_iff_iff, mayS_iff, mayS_iff, ← hD x hx]
  constructor
  · rintro ⟨h1, h2, h3⟩
    refine ⟨h1, h2, fun m hm hxm => ?_⟩
    rw [← hH x h1 m hm] at hxm
    rw [← hH m (hc.closed x m h1 hxm) x hx]
    exact h3 m hm hxm
  · rintro ⟨h1, h2, h3⟩
    refine ⟨h1, h2, fun m hm hxm => ?_⟩
    have := h3 m hm (by rw [← hH x h1 m hm]; exact hxm)
    rw [hH m (hc.closed x m h1 hxm) x hx]
    exact this
theorem ringS_congr {H H' : Nat → Nat → Bool} {D : Nat → Bool} (hc : Clo H D) (hH : ∀ x, D x = true → ∀ y, y < 32 → H x y = H' x y) {x : Nat} (hx : x < 32) (hd : D x = true) : ringS H x = ringS H' x := by
  unfold ringS
  refine List.filter_congr fun m hm => ?_
  have hm := List.mem_range.1 hm
  rw [← hH x hd m hm]
  cases hxm : H x m
  · rfl
  · rw [hH m (hc.closed x m hd hxm) x hx]
/-- An order hangs only on what is asked for, and on what these hang on. -/
theorem outS_congr {H H' : Nat → Nat → Bool} {D D' : Nat → Bool} (hc : Clo H D) (hD : ∀ x, x < 32 → D x = D' x) (hH : ∀ x, D x = true → ∀ y, y < 32 → H x y = H' x y) : ∀ j, outS H D j = outS H' D' j
  | 0 => rfl
  | j + 1 => by
    have ih := outS_congr hc hD hH j
    show outS H D j ++ _ = outS H' D' j ++ _
    rw [ih]
    congr 1
    rcases nextS_cases H D (fun i => (outS H' D' j).contains i) with ⟨h1, h2⟩ | ⟨x, h1, h2, h3, h4⟩
    · rw [h1, nextS_none fun x hx => by rw [← mayS_congr hc hD hH hx]; exact h2 x hx]
    · rw [h4, nextS_some h1 (by rw [← mayS_congr hc hD hH h1]; exact h2) (fun y hy => by rw [← mayS_congr hc hD hH (by omega)]; exact h3 y hy)]
      exact ringS_congr hc hH h1 (mayS_iff.1 h2).1

/-- What holds of all that is placed so far. -/
structure Laid (H : Nat → Nat → Bool) (D : Nat → Bool) (out : List Nat) : Prop where
  nodup : out.Nodup
  inD : ∀ x ∈ out, D x = true
  rings : ∀ x y, y < 32 → H x y = true → H y x = true → x ∈ out → y ∈ out
  behind : ∀ pre x post, out = pre ++ x :: post → ∀ d, d < 32 → H x d = true → d ∈ pre ∨ H d x = true

theorem laid_next {H : Nat → Nat → Bool} {D : Nat → Bool} (hc : Clo H D) {out : List Nat} (h : Laid H D out) : Laid H D (out ++ nextS H D (fun i => out.contains i)) := by
  rcases nextS_cases H D (fun i => out.contains i) with ⟨h1, h2⟩ | ⟨x, h1, h2, h3, h4⟩
  · rw [h1, List.append_nil]; exact h
  · rw [h4]
    obtain ⟨m1, m2, m3⟩ := mayS_iff.1 h2
    have hx : x ∉ out := by simpa using m2
    have inR : ∀ y ∈ ringS H x, D y = true := fun y hy => hc.closed x y m1 (mem_ringS.1 hy).2.1
    refine ⟨?_, ?_, ?_, ?_⟩
    · rw [List.nodup_append]
      refine ⟨h.nodup, List.Pairwise.filter _ List.nodup_range, fun a ha b hb e => ?_⟩
      subst e
      have hb := mem_ringS.1 hb
      exact hx (h.rings a x h1 hb.2.2 hb.2.1 ha)
    · intro y hy
      rcases List.mem_append.1 hy with hy | hy
      · exact h.inD y hy
      · exact inR y hy
    · intro y z hz h5 h6 hy
      rcases List.mem_append.1 hy with hy | hy
      · exact List.mem_append_left _ (h.rings y z hz h5 h6 hy)
      · have hq := mem_ringS.1 hy
        have dy := inR y hy
        have dz := hc.closed y z dy h5
        exact List.mem_append_right _ (mem_ringS.2 ⟨hz, hc.trans x y z m1 hq.2.1 h5, hc.trans z y x dz h6 hq.2.2⟩)
    · intro pre y post e d hd hyd
      rw [List.append_eq_append_iff] at e
      rcases e with ⟨qs, e1, e2⟩ | ⟨bs, e1, e2⟩
      · -- y stands in the ring
        have hy : y ∈ ringS H x := by rw [e2]; simp
        have hq := mem_ringS.1 hy
        have hxd := hc.trans x y d m1 hq.2.1 hyd
        rcases m3 d hd hxd with hp | hp
        · left
          rw [e1]
          exact List.mem_append_left _ (by simpa using hp)
        · right
          exact hc.trans d x y (hc.closed x d m1 hxd) hp hq.2.1
      · cases bs with
        | nil =>
          have e2' : y :: post = ringS H x := by simpa using e2
          have hy : y ∈ ringS H x := by rw [← e2']; simp
          have hq := mem_ringS.1 hy
          have hxd := hc.trans x y d m1 hq.2.1 hyd
          rcases m3 d hd hxd with hp | hp
          · left
            have e1' : out = pre := by simpa using e1
            rw [← e1']
            simpa using hp
          · right
            exact hc.trans d x y (hc.closed x d m1 hxd) hp hq.2.1
        | cons b bs =>
          simp only [List.cons_append, List.cons.injEq] at e2
          obtain ⟨rfl, e3⟩ := e2
          exact h.behind pre y bs e1 d hd hyd
theorem laid_at {H : Nat → Nat → Bool} {D : Nat → Bool} (hc : Clo H D) : ∀ j, Laid H D (outS H D j)
  | 0 => ⟨.nil, by simp [outS], by simp [outS], by simp [outS]⟩
  | j + 1 => laid_next hc (laid_at hc j)
theorem Laid.len {H : Nat → Nat → Bool} {D : Nat → Bool} (hc : Clo H D) {out : List Nat} (h : Laid H D out) : out.length ≤ 32 := len_lt 32 out h.nodup (fun x hx => hc.lt x (h.inD x hx))

theorem outS_stays {H : Nat → Nat → Bool} {D : Nat → Bool} {j : Nat} (h : nextS H D (fun i => (outS H D j).contains i) = []) : ∀ i, outS H D (j + i) = outS H D j
  | 0 => rfl
  | i + 1 => by
    have ih := outS_stays h i
    show outS H D (j + i) ++ nextS H D (fun k => (outS H D (j + i)).contains k) = _
    rw [ih, h, List.append_nil]
theorem outS_grows {H : Nat → Nat → Bool} {D : Nat → Bool} (hc : Clo H D) : ∀ j, j ≤ (outS H D j).length ∨ nextS H D (fun i => (outS H D j).contains i) = []
  | 0 => Or.inl (Nat.zero_le _)
  | j + 1 => by
    rcases nextS_cases H D (fun i => (outS H D j).contains i) with ⟨h1, _⟩ | ⟨x, h1, h2, _, h4⟩
    · right
      rw [outS_stays h1 1]
      exact h1
    · rcases outS_grows hc j with h | h
      · left
        show j + 1 ≤ (outS H D j ++ nextS H D (fun i => (outS H D j).contains i)).length
        have hd := (mayS_iff.1 h2).1
        have : x ∈ ringS H x := mem_ringS.2 ⟨h1, hc.refl x h1 hd, hc.refl x h1 hd⟩
        rw [h4, List.length_append]
        have := List.length_pos_of_mem this
        omega
      · right
        rw [outS_stays h 1]
        exact h
/-- Behind 32 rounds nothing is left. -/
theorem outS_end {H : Nat → Nat → Bool} {D : Nat → Bool} (hc : Clo H D) : nextS H D (fun i => (outS H D 32).contains i) = [] := by
  rcases outS_grows hc 33 with h | h
  · have := (laid_at hc 33).len hc
    omega
  · rcases outS_grows hc 32 with h2 | h2
    · rcases nextS_cases H D (fun i => (outS H D 32).contains i) with ⟨h1, _⟩ | ⟨x, h1, h3, _, h4⟩
      · exact h1
      · have hd := (mayS_iff.1 h3).1
        have hx : x ∈ ringS H x := mem_ringS.2 ⟨h1, hc.refl x h1 hd, hc.refl x h1 hd⟩
        have h5 := (laid_at hc 33).len hc
        have h6 : (outS H D 33).length = (outS H D 32).length + (ringS H x).length := by
          show (outS H D 32 ++ nextS H D (fun i => (outS H D 32).contains i)).length = _
          rw [h4, List.length_append]
        have := List.length_pos_of_mem hx
        omega
    · exact h2

/-- As long as something is left, something may be placed. -/
theorem some_may {H : Nat → Nat → Bool} {D : Nat → Bool} (hc : Clo H D) (placed : Nat → Bool) : ∀ (k x : Nat), (List.range 32).countP (H x) ≤ k → D x = true → placed x = false → ∃ y, y < 32 ∧ mayS H D placed y = true
  | 0, x, hk, hd, hp => by
    have hx := hc.lt x hd
    have : 0 < (List.range 32).countP (H x) := List.countP_pos_iff.2 ⟨x, List.mem_range.2 hx, hc.refl x hx hd⟩
    omega
  | k + 1, x, hk, hd, hp => by
    have hx := hc.lt x hd
    cases hm : mayS H D placed x
    · have : ∃ m, m < 32 ∧ H x m = true ∧ placed m = false ∧ H m x = false := by
        cases Classical.em (∃ m, m < 32 ∧ H x m = true ∧ placed m = false ∧ H m x = false) with
        | inl h => exact h
        | inr h =>
          exfalso
          have : mayS H D placed x = true := mayS_iff.2 ⟨hd, hp, fun m hm' hxm => by
            cases hpm : placed m
            · cases hmx : H m x
              · exact absurd ⟨m, hm', hxm, hpm, hmx⟩ h
              · exact Or.inr rfl
            · exact Or.inl rfl⟩
          rw [this] at hm
          cases hm
      obtain ⟨m, h1, h2, h3, h4⟩ := this
      have hdm := hc.closed x m hd h2
      refine some_may hc placed k m ?_ hdm h3
      have hlt : (List.range 32).countP (H m) < (List.range 32).countP (H x) := by
        have h5 : (List.range 32).countP (H x) = (List.range 32).countP (fun i => H x i && H m i) + (List.range 32).countP (fun i => H x i && !H m i) := by
          generalize List.range 32 = l
          induction l with
          | nil => rfl
          | cons a l ih =>
            simp only [List.countP_cons, ih]
            cases H x a <;> cases H m a <;> simp <;> omega
        have h6 : (List.range 32).countP (fun i => H x i && H m i) = (List.range 32).countP (H m) := by
          refine List.countP_congr fun i _ => ?_
          rw [Bool.and_eq_true]
          exact ⟨fun h => h.2, fun h => ⟨hc.trans x m i hd h2 h, h⟩⟩
        have h7 : 0 < (List.range 32).countP (fun i => H x i && !H m i) := List.countP_pos_iff.2 ⟨x, List.mem_range.2 hx, by rw [hc.refl x hx hd, h4]; rfl⟩
        omega
      omega
    · exact ⟨x, hx, hm⟩
/-- All that is asked for is placed. -/
theorem outS_all {H : Nat → Nat → Bool} {D : Nat → Bool} (hc : Clo H D) (x : Nat) : x ∈ outS H D 32 ↔ D x = true := by
  refine ⟨fun h => (laid_at hc 32).inD x h, fun hd => ?_⟩
  cases Classical.em (x ∈ outS H D 32) with
  | inl h => exact h
  | inr h =>
    exfalso
    obtain ⟨y, hy, hm⟩ := some_may hc (fun i => (outS H D 32).contains i) _ x (Nat.le_refl _) hd (by simpa using h)
    have he := outS_end hc
    rcases nextS_cases H D (fun i => (outS H D 32).contains i) with ⟨_, h2⟩ | ⟨z, h1, h3, _, h4⟩
    · rw [h2 y hy] at hm; cases hm
    · have hdz := (mayS_iff.1 h3).1
      have hz : z ∈ ringS H z := mem_ringS.2 ⟨h1, hc.refl z h1 hdz, hc.refl z h1 hdz⟩
      rw [← h4, he] at hz
      simp at hz

end Go.Proofs.Ytkoefoccbjhoiab

namespace Go.Proofs.Ytkoefoccbjhoiab
open Go.RowKit

/-- Those of a ring stand by number. -/
def ByNumber (H : Nat → Nat → Bool) (out : List Nat) : Prop :=
  ∀ pre x post, out = pre ++ x :: post → ∀ d, d < 32 → H x d = true → H d x = true → d ≠ x → (d ∈ pre ↔ d < x)

theorem ring_rises (H : Nat → Nat → Bool) (x : Nat) : (ringS H x).Pairwise (· < ·) := List.Pairwise.filter _ List.pairwise_lt_range
theorem split_rises {r1 r2 : List Nat} {x d : Nat} (h : (r1 ++ x :: r2).Pairwise (· < ·)) (hd : d ∈ r1 ++ x :: r2) (hx : d ≠ x) : d ∈ r1 ↔ d < x := by
  rw [List.pairwise_append, List.pairwise_cons] at h
  obtain ⟨_, ⟨h2, _⟩, h3⟩ := h
  constructor
  · intro h1
    exact h3 d h1 x (by simp)
  · intro h1
    rcases List.mem_append.1 hd with h4 | h4
    · exact h4
    · rcases List.mem_cons.1 h4 with h5 | h5
      · exact absurd h5 hx
      · have := h2 d h5
        omega

theorem byNumber_next {H : Nat → Nat → Bool} {D : Nat → Bool} (hc : Clo H D) {out : List Nat} (L : Laid H D out) (h : ByNumber H out) : ByNumber H (out ++ nextS H D (fun i => out.contains i)) := by
  rcases nextS_cases H D (fun i => out.contains i) with ⟨h1, _⟩ | ⟨y, h1, h2, _, h4⟩
  · rw [h1, List.append_nil]; exact h
  · rw [h4]
    obtain ⟨m1, m2, _⟩ := mayS_iff.1 h2
    have hy : y ∉ out := by simpa using m2
    -- a member of the ring: none of its ring is placed yet
    have ring : ∀ r1 x r2, ringS H y = r1 ++ x :: r2 → ∀ d, d < 32 → H x d = true → H d x = true → d ≠ x → (d ∈ out ++ r1 ↔ d < x) := by
      intro r1 x r2 e d hd hxd hdx hne
      have hx : x ∈ ringS H y := by rw [e]; simp
      have hq := mem_ringS.1 hx
      have dx := hc.closed y x m1 hq.2.1
      have dd := hc.closed x d dx hxd
      have hyd := hc.trans y x d m1 hq.2.1 hxd
      have hdy := hc.trans d x y dd hdx hq.2.2
      have hr : d ∈ ringS H y := mem_ringS.2 ⟨hd, hyd, hdy⟩
      have hno : d ∉ out := fun ho => hy (L.rings d y h1 hdy hyd ho)
      have hs := ring_rises H y
      rw [e] at hs hr
      rw [← split_rises hs hr hne, List.mem_append]
      exact ⟨fun h => h.resolve_left hno, Or.inr⟩
    intro pre x post e d hd hxd hdx hne
    rw [List.append_eq_append_iff] at e
    rcases e with ⟨qs, e1, e2⟩ | ⟨bs, e1, e2⟩
    · rw [e1]
      exact ring qs x post e2 d hd hxd hdx hne
    · cases bs with
      | nil =>
        have e2' : ringS H y = [] ++ x :: post := by simpa using e2.symm
        have e1' : out = pre := by simpa using e1
        have := ring [] x post e2' d hd hxd hdx hne
        rw [List.append_nil, e1'] at this
        exact this
      | cons b bs =>
        simp only [List.cons_append, List.cons.injEq] at e2
        obtain ⟨rfl, _⟩ := e2
        exact h pre x bs e1 d hd hxd hdx hne
theorem byNumber_at {H : Nat → Nat → Bool} {D : Nat → Bool} (hc : Clo H D) : ∀ j, ByNumber H (outS H D j)
  | 0 => by intro pre x post e; simp [outS] at e
  | j + 1 => byNumber_next hc (laid_at hc j) (byNumber_at hc j)

/-- What is executed: all that it hangs on is executed, too; each behind what it hangs on, those of a ring by number. -/
structure Sorted (H : Nat → Nat → Bool) (L : List Nat) : Prop where
  nodup : L.Nodup
  lt : ∀ x ∈ L, x < 32
  closed : ∀ x ∈ L, ∀ d, d < 32 → H x d = true → d ∈ L
  behind : ∀ pre x post, L = pre ++ x :: post → ∀ d, d < 32 → H x d = true → H d x = false → d ∈ pre
  ring : ByNumber H L

theorem sorted_nil (H : Nat → Nat → Bool) : Sorted H [] := ⟨.nil, by simp, by simp, by intro pre x post e; simp at e, by intro pre x post e; simp at e⟩

theorem filter_split {p : Nat → Bool} : ∀ {out pre post : List Nat} {x : Nat}, out.filter p = pre ++ x :: post → ∃ a b, out = a ++ x :: b ∧ a.filter p = pre ∧ b.filter p = post
  | [], pre, post, x, h => by simp at h
  | y :: out, pre, post, x, h => by
    cases hp : p y
    · rw [List.filter_cons_of_neg (by simp [hp])] at h
      obtain ⟨a, b, h1, h2, h3⟩ := filter_split h
      exact ⟨y :: a, b, by rw [h1]; rfl, by rw [List.filter_cons_of_neg (by simp [hp])]; exact h2, h3⟩
    · rw [List.filter_cons_of_pos hp] at h
      cases pre with
      | nil =>
        simp at h
        exact ⟨[], out, by rw [h.1]; rfl, rfl, h.2⟩
      | cons z pre =>
        simp at h
        obtain ⟨a, b, h1, h2, h3⟩ := filter_split h.2
        exact ⟨y :: a, b, by rw [h1]; rfl, by rw [List.filter_cons_of_pos hp, h2, h.1], h3⟩

/-- The order of one that is ready is executed: those that are not yet. -/
theorem sorted_more {H : Nat → Nat → Bool} {D : Nat → Bool} (hc : Clo H D) {L : List Nat} (h : Sorted H L) : Sorted H (L ++ (outS H D 32).filter fun x => !L.contains x) := by
  have La := laid_at hc 32
  have Nu := byNumber_at hc 32
  have mem : ∀ x, x ∈ (outS H D 32).filter (fun x => !L.contains x) ↔ D x = true ∧ x ∉ L := by
    intro x
    rw [List.mem_filter, outS_all hc x]
    simp
  have all : ∀ x, D x = true → x ∈ L ++ (outS H D 32).filter fun x => !L.contains x := by
    intro x hx
    by_cases hl : x ∈ L
    · exact List.mem_append_left _ hl
    · exact List.mem_append_right _ ((mem x).2 ⟨hx, hl⟩)
  -- x stands in the new part
  have new : ∀ p1 x p2, (outS H D 32).filter (fun x => !L.contains x) = p1 ++ x :: p2 → ∀ d, d < 32 → H x d = true → (H d x = false → d ∈ L ++ p1) ∧ (H d x = true → d ≠ x → (d ∈ L ++ p1 ↔ d < x)) := by
    intro p1 x p2 e d hd hxd
    obtain ⟨a, b, e1, e2, _⟩ := filter_split e
    have hx := (mem x).1 (by rw [e]; simp)
    have dd := hc.closed x d hx.1 hxd
    have inA : ∀ z, z ∉ L → (z ∈ p1 ↔ z ∈ a) := by
      intro z hz
      rw [← e2, List.mem_filter]
      simp [hz]
    refine ⟨fun hn => ?_, fun hb hne => ?_⟩
    · rcases La.behind a x b e1 d hd hxd with h1 | h1
      · by_cases hl : d ∈ L
        · exact List.mem_append_left _ hl
        · exact List.mem_append_right _ ((inA d hl).2 h1)
      · rw [hn] at h1; cases h1
    · have hl : d ∉ L := fun hl => hx.2 (h.closed d hl x (hc.lt x hx.1) hb)
      rw [List.mem_append, inA d hl, ← Nu a x b e1 d hd hxd hb hne]
      exact ⟨fun h => h.resolve_left hl, Or.inr⟩
  refine ⟨?_, ?_, ?_, ?_, ?_⟩
  · rw [List.nodup_append]
    refine ⟨h.nodup, List.Pairwise.filter _ La.nodup, fun a ha b hb e => ?_⟩
    subst e
    exact ((mem a).1 hb).2 ha
  · intro x hx
    rcases List.mem_append.1 hx with hx | hx
    · exact h.lt x hx
    · exact hc.lt x ((mem x).1 hx).1
  · intro x hx d hd hxd
    rcases List.mem_append.1 hx with hx | hx
    · exact List.mem_append_left _ (h.closed x hx d hd hxd)
    · exact all d (hc.closed x d ((mem x).1 hx).1 hxd)
  · intro pre x post e d hd hxd hn
    rw [List.append_eq_append_iff] at e
    rcases e with ⟨qs, e1, e2⟩ | ⟨bs, e1, e2⟩
    · rw [e1]
      exact (new qs x post e2 d hd hxd).1 hn
    · cases bs with
      | nil =>
        have e1' : L = pre := by simpa using e1
        have := (new [] x post (by simpa using e2.symm) d hd hxd).1 hn
        rw [List.append_nil, e1'] at this
        exact this
      | cons b bs =>
        simp only [List.cons_append, List.cons.injEq] at e2
        obtain ⟨rfl, _⟩ := e2
        exact h.behind pre x bs e1 d hd hxd hn
  · intro pre x post e d hd hxd hdx hne
    rw [List.append_eq_append_iff] at e
    rcases e with ⟨qs, e1, e2⟩ | ⟨bs, e1, e2⟩
    · rw [e1]
      exact (new qs x post e2 d hd hxd).2 hdx hne
    · cases bs with
      | nil =>
        have e1' : L = pre := by simpa using e1
        have := (new [] x post (by simpa using e2.symm) d hd hxd).2 hdx hne
        rw [List.append_nil, e1'] at this
        exact this
      | cons b bs =>
        simp only [List.cons_append, List.cons.injEq] at e2
        obtain ⟨rfl, _⟩ := e2
        exact h.ring pre x bs e1 d hd hxd hdx hne
/-- What is executed stays so when more comes to be known: of those that are executed nothing has changed. -/
theorem Sorted.later {H H' : Nat → Nat → Bool} {L : List Nat} (h : Sorted H L) (e : ∀ x ∈ L, ∀ y, y < 32 → H x y = H' x y) : Sorted H' L := by
  have inL : ∀ pre x post, L = pre ++ x :: post → x ∈ L := fun pre x post e => by rw [e]; simp
  have back : ∀ pre x post d, L = pre ++ x :: post → d < 32 → H' x d = true → d ∈ L := fun pre x post d eL hd hx => h.closed x (inL pre x post eL) d hd (by rw [e x (inL pre x post eL) d hd]; exact hx)
  refine ⟨h.nodup, h.lt, fun x hx d hd hxd => h.closed x hx d hd (by rw [e x hx d hd]; exact hxd), fun pre x post eL d hd hxd hn => ?_, fun pre x post eL d hd hxd hdx hne => ?_⟩
  · have hx := inL pre x post eL
    have hdL := back pre x post d eL hd hxd
    exact h.behind pre x post eL d hd (by rw [e x hx d hd]; exact hxd) (by rw [e d hdL x (h.lt x hx)]; exact hn)
  · have hx := inL pre x post eL
    have hdL := back pre x post d eL hd hxd
    exact h.ring pre x post eL d hd (by rw [e x hx d hd]; exact hxd) (by rw [e d hdL x (h.lt x hx)]; exact hdx) hne

end Go.Proofs.Ytkoefoccbjhoiab

namespace Go.Proofs.Ytkoefoccbjhoiab
open Go.RowKit

theorem Hangs.lt {g : GraphL} {x y : Nat} (h : Hangs g.adj x y) (hx : x < 32) : y < 32 := by
  induction h using Hangs.ind with
  | refl => exact hx
  | step a _ ih => exact ih (g.adj_lt _ _ a)
theorem clo_hang (g : GraphL) {n : Nat} (hn : n < 32) : Clo (hangB g) (hangB g n) := by
  have lt : ∀ x, hangB g n x = true → x < 32 := fun x hx => ((hangB_iff g hn x).1 hx).lt hn
  refine ⟨fun x hx _ => (hangB_iff g hx x).2 (.refl x), fun x y z hx h1 h2 => ?_, fun x y hx h1 => ?_, lt⟩
  · have hx' := lt x hx
    have h1' := (hangB_iff g hx' y).1 h1
    have hy := h1'.lt hx'
    exact (hangB_iff g hx' z).2 (h1'.trans ((hangB_iff g hy z).1 h2))
  · have hx' := lt x hx
    exact (hangB_iff g hn y).2 (((hangB_iff g hn x).1 hx).trans ((hangB_iff g hx' y).1 h1))

theorem end_row (g : GraphL) {n x : Nat} (hn : n < 32) (hx : Hangs g.adj n x) (j : Nat) : (endOf g n).reach x j = hangB g x j := by
  rw [Bool.eq_iff_iff, hangB_iff g (hx.lt hn) j]
  exact (search_whole g.adj_lt hn).2.1 x hx j
theorem end_same (g : GraphL) {n x m : Nat} (hn : n < 32) (hx : Hangs g.adj n x) (hm : m < 32) : sameAs (endOf g n).reach x m = (hangB g x m && hangB g m x) := by
  have hx' := hx.lt hn
  rw [Bool.eq_iff_iff, Bool.and_eq_true]
  unfold sameAs
  rw [sameB_iff]
  constructor
  · intro h
    have h1 : (endOf g n).reach m x = true := by
      rw [← h x hx', end_row g hn hx]
      exact (hangB_iff g hx' x).2 (.refl x)
    have hmn : Hangs g.adj n m := by
      cases Classical.em (Hangs g.adj n m) with
      | inl h => exact h
      | inr h2 =>
        have := (search_whole g.adj_lt hn).2.2 m h2 x
        unfold endOf at h1
        rw [this] at h1
        cases h1
    rw [end_row g hn hmn] at h1
    refine ⟨?_, h1⟩
    have h2 := h m hm
    rw [end_row g hn hx, end_row g hn hmn] at h2
    rw [h2]
    exact (hangB_iff g hm m).2 (.refl m)
  · rintro ⟨h1, h2⟩ j _
    have h1' := (hangB_iff g hx' m).1 h1
    have h2' := (hangB_iff g hm x).1 h2
    rw [end_row g hn hx, end_row g hn (hx.trans h1'), Bool.eq_iff_iff, hangB_iff g hx', hangB_iff g hm]
    exact ⟨fun h => h2'.trans h, fun h => h1'.trans h⟩
theorem end_met (g : GraphL) {n : Nat} (hn : n < 32) (x : Nat) : decide (0 < (endOf g n).turn x) = hangB g n x := by
  rw [Bool.eq_iff_iff, decide_eq_true_iff, hangB_iff g hn x, ← (search_whole g.adj_lt hn).1 x]
  unfold endOf
  omega
theorem end_may (g : GraphL) {n x : Nat} (hn : n < 32) (placed : Nat → Bool) : mayB (endOf g n).reach (endOf g n).turn placed x = mayS (hangB g) (hangB g n) placed x := by
  unfold mayB mayS
  rw [end_met g hn]
  cases hd : hangB g n x
  · rfl
  · have hx := (hangB_iff g hn x).1 hd
    have hx' := hx.lt hn
    congr 1
    unfold freeTo
    rw [Bool.eq_iff_iff, List.all_eq_true, List.all_eq_true]
    constructor
    · intro h m hm
      have := h m hm
      rw [end_row g hn hx, end_same g hn hx (List.mem_range.1 hm)] at this
      cases hxm : hangB g x m
      · simp
      · rw [hxm] at this
        simpa using this
    · intro h m hm
      have := h m hm
      rw [end_row g hn hx, end_same g hn hx (List.mem_range.1 hm)]
      cases hxm : hangB g x m
      · simp
      · rw [hxm] at this
        simpa using this
theorem end_ring (g : GraphL) {n x : Nat} (hn : n < 32) (hd : hangB g n x = true) : ringN (endOf g n).reach x = ringS (hangB g) x := by
  unfold ringN ringS
  exact List.filter_congr fun m hm => end_same g hn ((hangB_iff g hn x).1 hd) (List.mem_range.1 hm)
theorem end_next (g : GraphL) {n : Nat} (hn : n < 32) (placed : Nat → Bool) : nextL (endOf g n).reach (endOf g n).turn placed = nextS (hangB g) (hangB g n) placed := by
  have e : mayB (endOf g n).reach (endOf g n).turn placed = mayS (hangB g) (hangB g n) placed := funext fun x => end_may g hn placed
  unfold nextL nextN nextS
  rw [e]
  cases hq : (List.range 32).find? (mayS (hangB g) (hangB g n) placed) with
  | none => rfl
  | some x =>
    have := List.find?_some hq
    exact end_ring g hn (mayS_iff.1 this).1
theorem end_out (g : GraphL) {n : Nat} (hn : n < 32) : ∀ j, outAt (endOf g n).reach (endOf g n).turn j = outS (hangB g) (hangB g n) j
  | 0 => rfl
  | j + 1 => by
    show outAt (endOf g n).reach (endOf g n).turn j ++ _ = outS (hangB g) (hangB g n) j ++ _
    rw [end_out g hn j, end_next g hn]
/-- THE ORDER. -/
theorem order_spec (g : GraphL) {n : Nat} (hn : n < 32) : orderNat g n = outS (hangB g) (hangB g n) 32 := end_out g hn 32

theorem knowsB_iff {g : GraphL} {S : Nat → Bool} : knowsB g S 32 = true ↔ ∀ i, i < 32 → S i = true → g.known i = true := by
  unfold knowsB
  simp only [List.all_eq_true, List.mem_range, Bool.or_eq_true, Bool.not_eq_true']
  constructor
  · intro h i hi hs
    rcases h i hi with h | h
    · rw [hs] at h; cases h
    · exact h
  · intro h i hi
    cases hs : S i
    · exact Or.inl rfl
    · exact Or.inr (h i hi hs)

end Go.Proofs.Ytkoefoccbjhoiab

namespace Go.Proofs.Ytkoefoccbjhoiab
open Go.RowKit

theorem tmod2 (k : Int) : (k.tmod 2 == 0) = (k % 2 == 0) := by
  have e := Int.tmod_eq_emod (a := k) (b := 2)
  have : k.tmod 2 = 0 ↔ k % 2 = 0 := by rw [e]; split <;> omega
  rw [Bool.eq_iff_iff]; simpa using this

set_option maxRecDepth 100000 in
set_option maxHeartbeats 400000 in
theorem shard_any (k : Int) (w : World) :
    Calls Try.prog 104 #[.int .i64 k] w fun e w' => e = .returned (.int .i64 (k % 2)) ∧ w' = w := by
  have e := tmod2 k
  by_cases h : k % 2 = 0
  · have h1 : (k.tmod 2 == 0) = true := by rw [e]; simpa using h
    clear e
    go_enter Try.func104, Try.ntmps104
    go_wp2
    go_ret
    exact ⟨ret_int (by omega), rfl⟩
  · have h1 : (k.tmod 2 == 0) = false := by rw [e]; simpa using h
    clear e
    go_enter Try.func104, Try.ntmps104
    go_wp2
    go_ret
    exact ⟨ret_int (by omega), rfl⟩

def ofL (k : Int) : Int := if k < 3 then 0 else 1

set_option maxRecDepth 100000 in
set_option maxHeartbeats 400000 in
theorem of_any (k : Int) (w : World) :
    Calls Try.prog 58 #[.int .i64 k] w fun e w' => e = .returned (.int .i64 (ofL k)) ∧ w' = w := by
  by_cases h : k < 3
  · have E : Hid (ofL k = 0) := by unfold ofL Hid; rw [if_pos h]
    go_enter Try.func58, Try.ntmps58
    go_wp2
    go_ret
    exact ⟨ret_int E.out.symm, rfl⟩
  · have E : Hid (ofL k = 1) := by unfold ofL Hid; rw [if_neg h]
    go_enter Try.func58, Try.ntmps58
    go_wp2
    go_ret
    exact ⟨ret_int E.out.symm, rfl⟩

def near (n : Int) : Int := if n < -1099511627776 then -1099511627776 else if 1099511627776 < n then 1099511627776 else n
theorem near_lo (n : Int) : -1099511627776 ≤ near n := by
  unfold near; split
  · omega
  · split <;> omega
theorem near_hi (n : Int) : near n ≤ 1099511627776 := by
  unfold near; split
  · omega
  · split <;> omega

set_option maxRecDepth 100000 in
set_option maxHeartbeats 400000 in
theorem nearest_any (n : Int) (w : World) :
    Calls Try.prog 139 #[.int .i64 n] w fun e w' => e = .returned (.int .i64 (near n)) ∧ w' = w := by
  by_cases h1 : n < -1099511627776
  · have e : near n = -1099511627776 := by unfold near; rw [if_pos h1]
    have E : Hid (near n = -1099511627776) := e
    clear e
    go_enter Try.func139, Try.ntmps139
    go_wp2
    go_ret
    exact ⟨ret_int E.out.symm, rfl⟩
  · by_cases h2 : 1099511627776 < n
    · have E : Hid (near n = 1099511627776) := by unfold near Hid; rw [if_neg h1, if_pos h2]
      go_enter Try.func139, Try.ntmps139
      go_wp2
      go_ret
      exact ⟨ret_int E.out.symm, rfl⟩
    · have E : Hid (near n = n) := by unfold near Hid; rw [if_neg h1, if_neg h2]
      go_enter Try.func139, Try.ntmps139
      go_wp2
      go_ret
      exact ⟨ret_int E.out.symm, rfl⟩

def doL (v kind n : Int) : Int := if kind = 2 then near n else if kind = 3 then near (near v + near n) else near v

set_option maxRecDepth 100000 in
set_option maxHeartbeats 400000 in
theorem do_any (v kind key n : Int) (w : World) :
    Calls Try.prog 142 #[.int .i64 v, .agg #[.int .i64 kind, .int .i64 key, .int .i64 n]] w fun e w' => e = .returned (.int .i64 (doL v kind n)) ∧ Below w.heap.size w w' := by
  by_cases h2 : kind = 2
  · have E : Hid (doL v kind n = near n) := by unfold doL Hid; rw [if_pos h2]
    have h2' : (kind == 2) = true := by simpa using h2
    clear h2
    go_enter Try.func142, Try.ntmps142
    go_wp2_with (go_at_call 139; refine (nearest_any _ _).mono ?_; rintro e w' ⟨rfl, rfl⟩)
    go_ret
    exact ⟨ret_int E.out.symm, (Below.refl _ _).alloc (Nat.le_refl _) _⟩
  · by_cases h3 : kind = 3
    · have E : Hid (doL v kind n = near (near v + near n)) := by unfold doL Hid; rw [if_neg h2, if_pos h3]
      have h2' : (kind == 2) = false := by simpa using h2
      have h3' : (kind == 3) = true := by simpa using h3
      have l1 := near_lo v
      have l2 := near_hi v
      have l3 := near_lo n
      have l4 := near_hi n
      clear h2 h3
      go_enter Try.func142, Try.ntmps142
      go_wp2
      go_quiet ((go_at_call 139; exact Calls.quiet_of_same (nearest_any _ _)))
      go_wp2
      go_ret
      exact ⟨ret_int E.out.symm, below_drewN ((Below.refl _ _).alloc (Nat.le_refl _) _) _⟩
    · have E : Hid (doL v kind n = near v) := by unfold doL Hid; rw [if_neg h2, if_neg h3]
      have h2' : (kind == 2) = false := by simpa using h2
      have h3' : (kind == 3) = false := by simpa using h3
      clear h2 h3
      go_enter Try.func142, Try.ntmps142
      go_wp2_with (go_at_call 139; refine (nearest_any _ _).mono ?_; rintro e w' ⟨rfl, rfl⟩)
      go_ret
      exact ⟨ret_int E.out.symm, (Below.refl _ _).alloc (Nat.le_refl _) _⟩

end Go.Proofs.Ytkoefoccbjhoiab

namespace Go.Proofs.Ytkoefoccbjhoiab
open Go.RowKit

/-- an operation: kind, key, N -/
abbrev OpL := Int × Int × Int

/-- A slice of operations that lies in memory: nothing, or its cells, three an element. -/
def OpsAt (w : World) (a : Option Addr) (zs : List OpL) : Prop :=
  zs = [] ∨ ∃ b off, a = some ⟨b, off, none⟩ ∧ b < w.heap.size ∧ ∀ i, i < zs.length → w.cell? ⟨b, off + i * 3, none⟩ = some (.int .i64 (zs.getD i (0, 0, 0)).1) ∧
    w.cell? ⟨b, off + i * 3 + 1, none⟩ = some (.int .i64 (zs.getD i (0, 0, 0)).2.1) ∧ w.cell? ⟨b, off + i * 3 + 2, none⟩ = some (.int .i64 (zs.getD i (0, 0, 0)).2.2)

theorem OpsAt.later {w w' : World} {a : Option Addr} {zs : List OpL} (h : OpsAt w a zs) (hB : Below w.heap.size w w') : OpsAt w' a zs := by
  rcases h with h | ⟨b, off, ha, hb, hc⟩
  · exact Or.inl h
  · refine Or.inr ⟨b, off, ha, Nat.lt_of_lt_of_le hb hB.size, fun i hi => ?_⟩
    rw [hB.cell (p := ⟨b, off + i * 3, none⟩) hb, hB.cell (p := ⟨b, off + i * 3 + 1, none⟩) hb, hB.cell (p := ⟨b, off + i * 3 + 2, none⟩) hb]
    exact hc i hi

/-- the element at k, in a later world -/
theorem OpsAt.at {w wr : World} {B b off : Nat} {zs : List OpL} (hc : ∀ i, i < zs.length → w.cell? ⟨b, off + i * 3, none⟩ = some (.int .i64 (zs.getD i (0, 0, 0)).1) ∧
    w.cell? ⟨b, off + i * 3 + 1, none⟩ = some (.int .i64 (zs.getD i (0, 0, 0)).2.1) ∧ w.cell? ⟨b, off + i * 3 + 2, none⟩ = some (.int .i64 (zs.getD i (0, 0, 0)).2.2))
    (hb : b < B) (hB : Below B w wr) {k : Nat} (hk : k < zs.length) :
    ∃ q0 q1 q2 : Int, Hid (zs.getD k (0, 0, 0) = (q0, q1, q2)) ∧ wr.cell? ⟨b, off + k * 3, none⟩ = some (.int .i64 q0) ∧ wr.cell? ⟨b, off + k * 3 + 1, none⟩ = some (.int .i64 q1) ∧ wr.cell? ⟨b, off + k * 3 + 2, none⟩ = some (.int .i64 q2) := by
  refine ⟨_, _, _, rfl, ?_⟩
  rw [hB.cell (p := ⟨b, off + k * 3, none⟩) hb, hB.cell (p := ⟨b, off + k * 3 + 1, none⟩) hb, hB.cell (p := ⟨b, off + k * 3 + 2, none⟩) hb]
  exact hc k hk

def meetB (o p : OpL) : Bool := o.2.1 == p.2.1 && (o.1 != 1 || p.1 != 1)
def meetsL (o : OpL) (zs : List OpL) : Bool := zs.any (meetB o)

set_option maxRecDepth 100000 in
set_option maxHeartbeats 400000 in
theorem meets_any (o0 o1 o2 : Int) (a : Option Addr) (cap : Nat) (zs : List OpL) (w : World) (hl : zs.length ≤ maxLen) (hz : OpsAt w a zs) :
    Calls Try.prog 141 #[.agg #[.int .i64 o0, .int .i64 o1, .int .i64 o2], .slice a zs.length cap] w fun e w' => e = .returned (.bool (meetsL (o0, o1, o2) zs)) ∧ Below w.heap.size w w' := by
  unfold maxLen at hl
  rcases hz with rfl | ⟨b, off, rfl, hb, hc⟩
  · go_enter Try.func141, Try.ntmps141
    go_wp2
    refine wp_loop_rounds 1 ?_; rw [rounds_succ]
    go_wp2
    go_ret
    exact ⟨rfl, (Below.refl _ _).alloc (Nat.le_refl _) _⟩
  · go_enter Try.func141, Try.ntmps141
    go_wp2
    go_loopw [9] (fun i wr => ∃ k : Nat, k ≤ zs.length ∧ i = .int .i64 k ∧ (zs.take k).any (meetB (o0, o1, o2)) = false ∧ Below (w.heap.size + 1) (w.alloc (.cells #[.int .i64 o0, .int .i64 o1, .int .i64 o2] 108)) wr) (fun i _ => zs.length - (intOf i).toNat)
    case atStart => exact ⟨0, Nat.zero_le _, rfl, rfl, Below.refl _ _⟩
    case round =>
      obtain ⟨k, hk, rfl, hno, hB⟩ := hrel
      have hBw : Below w.heap.size w wr := ((Below.refl _ w).alloc (Nat.le_refl _) _).trans (hB.mono (by omega))
      have hsz := hBw.size
      have hsz1 : w.heap.size < wr.heap.size := by have := hB.size; simp at this; omega
      have c0 := hB.cell (p := ⟨w.heap.size, 0, none⟩) (by simp)
      have c1 := hB.cell (p := ⟨w.heap.size, 1, none⟩) (by simp)
      simp at c0 c1
      by_cases hlt : k < zs.length
      · obtain ⟨q0, q1, q2, Hq, e0, e1, e2⟩ := OpsAt.at hc hb hBw hlt
        have hm : Hid (meetB (o0, o1, o2) (q0, q1, q2) = (o1 == q1 && (o0 != 1 || q0 != 1))) := rfl
        clear hc
        cases t1 : o1 == q1
        · go_wp2
          go_roundw
          case rel => exact ⟨k + 1, by omega, by go_num, any_step hlt Hq.out hno (by rw [hm.out, t1]; rfl), hB.alloc (by omega) _⟩
          case measure => simp [intOf]; omega
        · cases t2 : o0 != 1
          · cases t3 : q0 != 1
            · go_wp2
              go_roundw
              case rel => exact ⟨k + 1, by omega, by go_num, any_step hlt Hq.out hno (by rw [hm.out, t1, t2, t3]; rfl), hB.alloc (by omega) _⟩
              case measure => simp [intOf]; omega
            · go_wp2
              go_ret
              exact ⟨ret_bool (any_hit hlt Hq.out (by rw [hm.out, t1, t2, t3]; rfl)).symm, hBw.alloc hsz _⟩
          · go_wp2
            go_ret
            exact ⟨ret_bool (any_hit hlt Hq.out (by rw [hm.out, t1, t2]; rfl)).symm, hBw.alloc hsz _⟩
      · go_wp2
        go_ret
        exact ⟨ret_bool (any_end hlt hno).symm, hBw⟩

def touchB (s : Int) (o : OpL) : Bool := o.2.1 % 2 == s
def touchesL (zs : List OpL) (s : Int) : Bool := zs.any (touchB s)

set_option maxRecDepth 100000 in
set_option maxHeartbeats 400000 in
theorem touches_any (a : Option Addr) (cap : Nat) (zs : List OpL) (s : Int) (w : World) (hl : zs.length ≤ maxLen) (hz : OpsAt w a zs) :
    Calls Try.prog 57 #[.slice a zs.length cap, .int .i64 s] w fun e w' => e = .returned (.bool (touchesL zs s)) ∧ Below w.heap.size w w' := by
  unfold maxLen at hl
  rcases hz with rfl | ⟨b, off, rfl, hb, hc⟩
  · go_enter Try.func57, Try.ntmps57
    go_wp2
    refine wp_loop_rounds 1 ?_; rw [rounds_succ]
    go_wp2
    go_ret
    exact ⟨rfl, Below.refl _ _⟩
  · go_enter Try.func57, Try.ntmps57
    go_wp2
    go_loopw [9] (fun i wr => ∃ k : Nat, k ≤ zs.length ∧ i = .int .i64 k ∧ (zs.take k).any (touchB s) = false ∧ Below w.heap.size w wr) (fun i _ => zs.length - (intOf i).toNat)
    case atStart => exact ⟨0, Nat.zero_le _, rfl, rfl, Below.refl _ _⟩
    case round =>
      obtain ⟨k, hk, rfl, hno, hBw⟩ := hrel
      have hsz := hBw.size
      by_cases hlt : k < zs.length
      · obtain ⟨q0, q1, q2, Hq, e0, e1, e2⟩ := OpsAt.at hc hb hBw hlt
        have hm : Hid (touchB s (q0, q1, q2) = (q1 % 2 == s)) := rfl
        clear hc
        cases t1 : q1 % 2 == s
        · go_wp2_with (go_at_call 104; refine (shard_any _ _).mono ?_; rintro e w' ⟨rfl, rfl⟩)
          go_roundw
          case rel => exact ⟨k + 1, by omega, by go_num, any_step hlt Hq.out hno (by rw [hm.out, t1]), hBw.alloc hsz _⟩
          case measure => simp [intOf]; omega
        · go_wp2_with (go_at_call 104; refine (shard_any _ _).mono ?_; rintro e w' ⟨rfl, rfl⟩)
          go_ret
          exact ⟨ret_bool (any_hit hlt Hq.out (by rw [hm.out, t1])).symm, hBw.alloc hsz _⟩
      · go_wp2
        go_ret
        exact ⟨ret_bool (any_end hlt hno).symm, hBw⟩

def conflictB (b : List OpL) (s : Int) (o : OpL) : Bool := o.2.1 % 2 == s && meetsL o b
def conflictL (a b : List OpL) (s : Int) : Bool := a.any (conflictB b s)

set_option maxRecDepth 100000 in
set_option maxHeartbeats 400000 in
theorem conflict_any (a : Option Addr) (cap : Nat) (zs : List OpL) (a' : Option Addr) (cap' : Nat) (ys : List OpL) (s : Int) (w : World) (hl : zs.length ≤ maxLen) (hz : OpsAt w a zs) (hl' : ys.length ≤ maxLen) (hy : OpsAt w a' ys) :
    Calls Try.prog 132 #[.slice a zs.length cap, .slice a' ys.length cap', .int .i64 s] w fun e w' => e = .returned (.bool (conflictL zs ys s)) ∧ Below w.heap.size w w' := by
  have hl2 := hl
  unfold maxLen at hl
  rcases hz with rfl | ⟨b, off, rfl, hb, hc⟩
  · go_enter Try.func132, Try.ntmps132
    go_wp2
    refine wp_loop_rounds 1 ?_; rw [rounds_succ]
    go_wp2
    go_ret
    exact ⟨rfl, Below.refl _ _⟩
  · go_enter Try.func132, Try.ntmps132
    go_wp2
    go_loopw [11] (fun i wr => ∃ k : Nat, k ≤ zs.length ∧ i = .int .i64 k ∧ (zs.take k).any (conflictB ys s) = false ∧ Below w.heap.size w wr) (fun i _ => zs.length - (intOf i).toNat)
    case atStart => exact ⟨0, Nat.zero_le _, rfl, rfl, Below.refl _ _⟩
    case round =>
      obtain ⟨k, hk, rfl, hno, hBw⟩ := hrel
      have hsz := hBw.size
      by_cases hlt : k < zs.length
      · obtain ⟨q0, q1, q2, Hq, e0, e1, e2⟩ := OpsAt.at hc hb hBw hlt
        have hm : Hid (conflictB ys s (q0, q1, q2) = (q1 % 2 == s && meetsL (q0, q1, q2) ys)) := rfl
        have hy' : ∀ o, OpsAt (wr.alloc o) a' ys := fun o => hy.later (hBw.alloc hsz o)
        clear hc
        cases t1 : q1 % 2 == s
        · go_wp2_with (go_at_call 104; refine (shard_any _ _).mono ?_; rintro e w' ⟨rfl, rfl⟩)
          go_roundw
          case rel => exact ⟨k + 1, by omega, by go_num, any_step hlt Hq.out hno (by rw [hm.out, t1]; rfl), hBw.alloc hsz _⟩
          case measure => simp [intOf]; omega
        · go_wp2_with (go_at_call 104; refine (shard_any _ _).mono ?_; rintro e w' ⟨rfl, rfl⟩)
          refine (meets_any q0 q1 q2 a' cap' ys _ hl' (hy' _)).mono ?_
          rintro e w1 ⟨rfl, hb1⟩
          have hb2 : Below w.heap.size w w1 := (hBw.alloc hsz _).trans (hb1.mono (by simp; omega))
          clear hb1
          cases t2 : meetsL (q0, q1, q2) ys
          · go_wp2
            go_roundw
            case rel => exact ⟨k + 1, by omega, by go_num, any_step hlt Hq.out hno (by rw [hm.out, t1, t2]; rfl), hb2⟩
            case measure => simp [intOf]; omega
          · go_wp2
            go_ret
            exact ⟨ret_bool (any_hit hlt Hq.out (by rw [hm.out, t1, t2]; rfl)).symm, hb2⟩
      · go_wp2
        go_ret
        exact ⟨ret_bool (any_end hlt hno).symm, hBw⟩

end Go.Proofs.Ytkoefoccbjhoiab

namespace Go.Proofs.Ytkoefoccbjhoiab
open Go.RowKit

def goodB (o : OpL) : Bool := decide (0 ≤ o.2.1 ∧ o.2.1 < 8 ∧ (o.1 = 1 ∧ o.2.2 = 0 ∨ (o.1 = 2 ∨ o.1 = 3) ∧ -1099511627776 ≤ o.2.2 ∧ o.2.2 ≤ 1099511627776))

theorem near_eq (n : Int) : (n == near n) = decide (-1099511627776 ≤ n ∧ n ≤ 1099511627776) := by
  rw [Bool.eq_iff_iff]
  simp only [beq_iff_eq, decide_eq_true_eq]
  unfold near
  split
  · omega
  · split <;> omega

set_option maxRecDepth 100000 in
set_option maxHeartbeats 400000 in
theorem goodOp_any (o0 o1 o2 : Int) (w : World) :
    Calls Try.prog 124 #[.agg #[.int .i64 o0, .int .i64 o1, .int .i64 o2]] w fun e w' => e = .returned (.bool (goodB (o0, o1, o2))) ∧ Below w.heap.size w w' := by
  by_cases h1 : o1 < 0
  · have E : Hid (goodB (o0, o1, o2) = false) := by unfold goodB Hid; simp; omega
    go_enter Try.func124, Try.ntmps124
    go_wp2
    go_ret
    exact ⟨ret_bool E.out.symm, (Below.refl _ _).alloc (Nat.le_refl _) _⟩
  · by_cases h2 : 8 ≤ o1
    · have E : Hid (goodB (o0, o1, o2) = false) := by unfold goodB Hid; simp; omega
      go_enter Try.func124, Try.ntmps124
      go_wp2
      go_ret
      exact ⟨ret_bool E.out.symm, (Below.refl _ _).alloc (Nat.le_refl _) _⟩
    · cases t1 : o0 == 1
      · cases t2 : o0 == 2
        · cases t3 : o0 == 3
          · have E : Hid (goodB (o0, o1, o2) = false) := by simp at t1 t2 t3; unfold goodB Hid; simp; omega
            go_enter Try.func124, Try.ntmps124
            go_wp2
            go_ret
            exact ⟨ret_bool E.out.symm, (Below.refl _ _).alloc (Nat.le_refl _) _⟩
          · have E : Hid (goodB (o0, o1, o2) = (o2 == near o2)) := by simp at t3; rw [Hid, near_eq, Bool.eq_iff_iff]; unfold goodB; simp; omega
            go_enter Try.func124, Try.ntmps124
            go_wp2
            go_quiet ((go_at_call 139; exact Calls.quiet_of_same (nearest_any _ _)))
            go_wp2
            go_ret
            exact ⟨ret_bool E.out.symm, below_drewN ((Below.refl _ _).alloc (Nat.le_refl _) _) _⟩
        · have E : Hid (goodB (o0, o1, o2) = (o2 == near o2)) := by simp at t2; rw [Hid, near_eq, Bool.eq_iff_iff]; unfold goodB; simp; omega
          go_enter Try.func124, Try.ntmps124
          go_wp2
          go_quiet ((go_at_call 139; exact Calls.quiet_of_same (nearest_any _ _)))
          go_wp2
          go_ret
          exact ⟨ret_bool E.out.symm, below_drewN ((Below.refl _ _).alloc (Nat.le_refl _) _) _⟩
      · have E : Hid (goodB (o0, o1, o2) = (o2 == 0)) := by simp at t1; rw [Hid, Bool.eq_iff_iff]; unfold goodB; simp; omega
        go_enter Try.func124, Try.ntmps124
        go_wp2
        go_ret
        exact ⟨ret_bool E.out.symm, (Below.refl _ _).alloc (Nat.le_refl _) _⟩

def keyB (k : Int) (p : OpL) : Bool := p.2.1 == k
/-- the k-th is good, and none ahead of it has its key -/
def goodAt (zs : List OpL) (k : Nat) : Bool := goodB (zs.getD k (0, 0, 0)) && !(zs.take k).any (keyB (zs.getD k (0, 0, 0)).2.1)
def goodOpsL (zs : List OpL) : Bool := decide (1 ≤ zs.length ∧ zs.length ≤ 4) && (List.range zs.length).all (goodAt zs)

theorem range_step {p : Nat → Bool} {k : Nat} (h : (List.range k).all p = true) (hk : p k = true) : (List.range (k + 1)).all p = true := by
  rw [List.range_succ, List.all_append, h]
  simp [hk]
theorem range_miss {p : Nat → Bool} {k n : Nat} (hn : k < n) (hk : p k = false) : (List.range n).all p = false :=
  List.all_eq_false.2 ⟨k, List.mem_range.2 hn, by simp [hk]⟩

theorem good_len {zs : List OpL} (h : zs.length < 1 ∨ 4 < zs.length) : goodOpsL zs = false := by
  unfold goodOpsL
  rw [decide_eq_false (by omega), Bool.false_and]
theorem good_len_yes {zs : List OpL} (h : ¬ zs.length < 1) (h' : ¬ 4 < zs.length) : goodOpsL zs = (List.range zs.length).all (goodAt zs) := by
  unfold goodOpsL
  rw [decide_eq_true (by omega), Bool.true_and]

def seenOf (zs : List OpL) (k : Nat) (i : Nat) : Bool := (zs.take k).any (keyB (i : Int))
theorem seen_step {zs : List OpL} {k m : Nat} {q0 q2 : Int} (hk : k < zs.length) (hq : zs.getD k (0, 0, 0) = (q0, (m : Int), q2)) (i : Nat) : (if i = m then true else seenOf zs k i) = seenOf zs (k + 1) i := by
  have : zs[k] = (q0, (m : Int), q2) := by rw [← hq]; simp [List.getD, hk]
  unfold seenOf
  rw [List.take_succ_eq_append_getElem hk, List.any_append, this]
  by_cases e : i = m
  · subst e
    simp [keyB]
  · rw [if_neg e]
    have : keyB (i : Int) (q0, (m : Int), q2) = false := by simp [keyB]; omega
    simp [this]

theorem SetAt.later {n : Nat} {w w' : World} {c B : Nat} {S : Nat → Bool} (h : SetAt n w c S) (hB : Below B w w') (hc : c < B) : SetAt n w' c S := by
  obtain ⟨t, h⟩ := h
  exact ⟨t, by rw [hB.block c hc]; exact h⟩

theorem zero8 : bools 8 (fun _ => false) = #[.bool false, .bool false, .bool false, .bool false, .bool false, .bool false, .bool false, .bool false] := by rfl

theorem goodAt_no1 {zs : List OpL} {k : Nat} {q : OpL} (hq : zs.getD k (0, 0, 0) = q) (h : goodB q = false) : goodAt zs k = false := by
  unfold goodAt
  rw [hq, h, Bool.false_and]
theorem goodAt_no2 {zs : List OpL} {k m : Nat} {q0 q2 : Int} (hq : zs.getD k (0, 0, 0) = (q0, (m : Int), q2)) (h : seenOf zs k m = true) : goodAt zs k = false := by
  unfold goodAt
  rw [hq]
  unfold seenOf at h
  simp only [h, Bool.not_true, Bool.and_false]
theorem goodAt_yes {zs : List OpL} {k m : Nat} {q0 q2 : Int} (hq : zs.getD k (0, 0, 0) = (q0, (m : Int), q2)) (h1 : goodB (q0, (m : Int), q2) = true) (h : seenOf zs k m = false) : goodAt zs k = true := by
  unfold goodAt
  rw [hq]
  unfold seenOf at h
  simp only [h, h1, Bool.not_false, Bool.and_true]
theorem goodB_key {q0 q1 q2 : Int} (h : goodB (q0, q1, q2) = true) : 0 ≤ q1 ∧ q1 < 8 := by
  unfold goodB at h
  have := of_decide_eq_true h
  exact ⟨this.1, this.2.1⟩

set_option maxRecDepth 100000 in
set_option maxHeartbeats 1000000 in
theorem goodOps_any (a : Option Addr) (cap : Nat) (zs : List OpL) (w : World) (hl : zs.length ≤ maxLen) (hz : OpsAt w a zs) :
    Calls Try.prog 90 #[.slice a zs.length cap] w fun e w' => e = .returned (.bool (goodOpsL zs)) ∧ Below w.heap.size w w' := by
  unfold maxLen at hl
  by_cases h1 : zs.length < 1
  · have E : Hid (goodOpsL zs = false) := good_len (Or.inl h1)
    go_enter Try.func90, Try.ntmps90
    go_wp2
    go_ret
    exact ⟨ret_bool E.out.symm, Below.refl _ _⟩
  by_cases h2 : 4 < zs.length
  · have E : Hid (goodOpsL zs = false) := good_len (Or.inr h2)
    go_enter Try.func90, Try.ntmps90
    go_wp2
    go_ret
    exact ⟨ret_bool E.out.symm, Below.refl _ _⟩
  have E : Hid (goodOpsL zs = (List.range zs.length).all (goodAt zs)) := good_len_yes h1 h2
  rcases hz with rfl | ⟨b, off, rfl, hb, hc⟩
  · simp at h1
  go_enter Try.func90, Try.ntmps90
  go_wp2
  rw [← zero8]
  go_loopw [16] (fun i wr => ∃ k : Nat, k ≤ zs.length ∧ i = .int .i64 k ∧ Hid ((List.range k).all (goodAt zs) = true) ∧ SetAt 8 wr w.heap.size (seenOf zs k) ∧ Below w.heap.size w wr) (fun i _ => zs.length - (intOf i).toNat)
  case atStart => exact ⟨0, Nat.zero_le _, rfl, rfl, ⟨139, heap_new _ _⟩, (Below.refl _ _).alloc (Nat.le_refl _) _⟩
  case round =>
    obtain ⟨k, hk, rfl, hall, hS, hBw⟩ := hrel
    have hsz := hBw.size
    have hcl := hS.lt
    by_cases hlt : k < zs.length
    · obtain ⟨q0, q1, q2, Hq, e0, e1, e2⟩ := OpsAt.at hc hb hBw hlt
      clear hc
      go_wp2_with fail
      refine (goodOp_any q0 q1 q2 _).mono ?_
      rintro e w1 ⟨rfl, hb1⟩
      have f1 := hb1.cell (p := ⟨wr.heap.size, 1, none⟩) (by simp)
      simp at f1
      have hS1 : SetAt 8 w1 w.heap.size (seenOf zs k) := (hS.later ((Below.refl _ _).alloc (Nat.le_refl _) _) hcl).later hb1 (by simp; omega)
      have hb2 : Below w.heap.size w w1 := (hBw.alloc hsz _).trans (hb1.mono (by simp; omega))
      have hz1 : wr.heap.size < w1.heap.size := by have := hb1.size; simp at this; omega
      clear hb1
      cases tg : goodB (q0, q1, q2)
      · have N : Hid (goodOpsL zs = false) := by unfold Hid; rw [E.out]; exact range_miss hlt (goodAt_no1 Hq.out tg)
        go_wp2
        go_ret
        exact ⟨ret_bool N.out.symm, hb2⟩
      · obtain ⟨k0, k1⟩ := goodB_key tg
        obtain ⟨m, rfl⟩ := Int.eq_ofNat_of_zero_le k0
        have hm : m < 8 := by omega
        have g1 := hS1.cell hm
        have g2 := hS1.frozen m
        cases ts : seenOf zs k m
        · rw [ts] at g1
          have Y : Hid ((List.range (k + 1)).all (goodAt zs) = true) := range_step hall.out (goodAt_yes Hq.out tg ts)
          have HS : SetAt 8 (w1.setCell ⟨w.heap.size, m, none⟩ (.bool true)) w.heap.size (seenOf zs (k + 1)) := (hS1.put m true).congr (fun i _ => seen_step hlt Hq.out i)
          clear hS1 hS
          go_wp2
          go_roundw
          case rel => exact ⟨k + 1, by omega, by go_num, Y, HS, hb2.setCell (by simp) _⟩
          case measure => simp [intOf]; omega
        · rw [ts] at g1
          have N : Hid (goodOpsL zs = false) := by unfold Hid; rw [E.out]; exact range_miss hlt (goodAt_no2 Hq.out ts)
          go_wp2
          go_ret
          exact ⟨ret_bool N.out.symm, hb2⟩
    · have N : Hid (goodOpsL zs = true) := by
        unfold Hid
        have : k = zs.length := by omega
        rw [E.out, ← this]
        exact hall.out
      go_wp2
      go_ret
      exact ⟨ret_bool N.out.symm, hBw⟩

end Go.Proofs.Ytkoefoccbjhoiab

namespace Go.Proofs.Ytkoefoccbjhoiab
open Go.RowKit

def risingFrom : Int → List Int → Bool
  | _, [] => true
  | l, n :: r => !(decide (n ≤ l) || decide (32 ≤ n)) && risingFrom n r

theorem drop_at {zs : List Int} {k : Nat} {q : Int} (hk : k < zs.length) (hq : zs.getD k 0 = q) : zs.drop k = q :: zs.drop (k + 1) := by
  rw [List.drop_eq_getElem_cons hk]
  have : zs[k] = q := by rw [← hq]; simp [List.getD, hk]
  rw [this]

theorem rising_no {zs : List Int} {k : Nat} {q l m : Int} (hk : k < zs.length) (hq : zs.getD k 0 = q) (h : risingFrom m zs = risingFrom l (zs.drop k)) (hn : q ≤ l ∨ 32 ≤ q) : risingFrom m zs = false := by
  rw [h, drop_at hk hq, risingFrom]
  have : (decide (q ≤ l) || decide (32 ≤ q)) = true := by simpa using hn
  rw [this]
  rfl
theorem rising_yes {zs : List Int} {k : Nat} {q l m : Int} (hk : k < zs.length) (hq : zs.getD k 0 = q) (h : risingFrom m zs = risingFrom l (zs.drop k)) (h1 : ¬ q ≤ l) (h2 : ¬ 32 ≤ q) : risingFrom m zs = risingFrom q (zs.drop (k + 1)) := by
  rw [h, drop_at hk hq, risingFrom]
  simp [h1, h2]
theorem rising_end {zs : List Int} {k : Nat} {l m : Int} (hk : ¬ k < zs.length) (h : risingFrom m zs = risingFrom l (zs.drop k)) : risingFrom m zs = true := by
  rw [h, List.drop_of_length_le (by omega)]
  rfl

set_option maxRecDepth 100000 in
set_option maxHeartbeats 400000 in
theorem rising_any (a : Option Addr) (cap : Nat) (zs : List Int) (w : World) (hl : zs.length ≤ maxLen) (hz : IntsAt w.heap.size w a zs) :
    Calls Try.prog 97 #[.slice a zs.length cap] w fun e w' => e = .returned (.bool (risingFrom (-1) zs)) ∧ w' = w := by
  unfold maxLen at hl
  rcases hz with rfl | ⟨b, off, rfl, hb, hc⟩
  · go_enter Try.func97, Try.ntmps97
    go_wp2
    refine wp_loop_rounds 1 ?_; rw [rounds_succ]
    go_wp2
    go_ret
    exact ⟨rfl, rfl⟩
  · go_enter Try.func97, Try.ntmps97
    go_wp2
    go_loop [3, 8] (fun l i => ∃ (k : Nat) (q : Int), k ≤ zs.length ∧ i = .int .i64 k ∧ l = .int .i64 q ∧ Hid (risingFrom (-1) zs = risingFrom q (zs.drop k))) (fun _ i => zs.length - (intOf i).toNat)
    case atStart => exact ⟨0, -1, Nat.zero_le _, rfl, rfl, rfl⟩
    case round =>
      obtain ⟨k, l, hk, rfl, rfl, hno⟩ := hrel
      by_cases hlt : k < zs.length
      · obtain ⟨q, Hq, e0⟩ := IntsAt.at hc hb (Below.refl _ _) hlt
        clear hc
        by_cases t1 : q ≤ l
        · go_wp2
          go_ret
          exact ⟨ret_bool (rising_no hlt Hq.out hno.out (Or.inl t1)).symm, rfl⟩
        · by_cases t2 : 32 ≤ q
          · go_wp2
            go_ret
            exact ⟨ret_bool (rising_no hlt Hq.out hno.out (Or.inr t2)).symm, rfl⟩
          · go_wp2
            go_round
            case rel => exact ⟨k + 1, q, by omega, by go_num, rfl, rising_yes hlt Hq.out hno.out t1 t2⟩
            case measure => simp [intOf]; omega
      · go_wp2
        go_ret
        exact ⟨ret_bool (rising_end hlt hno.out).symm, rfl⟩

end Go.Proofs.Ytkoefoccbjhoiab
