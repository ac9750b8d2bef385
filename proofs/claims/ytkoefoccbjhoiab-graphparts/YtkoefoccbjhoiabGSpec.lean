/-
  Plain mathematics: what an order is, by what hangs on what alone; that it has all, each behind what it hangs on; that its parts are orders.
-/
import Derived.Test.YtkoefoccbjhoiabGOrder
set_option linter.unusedVariables false
set_option linter.unusedSimpArgs false
namespace Go.Proofs.Ytkoefoccbjhoiab
open Go.RowKit

/-- May x be placed? D: those that are asked for; H: what hangs on what. -/
def mayS (H : Nat → Nat → Bool) (D placed : Nat → Bool) (x : Nat) : Bool := D x && !placed x && (List.range 32).all fun m => !H x m || placed m || H m x
def ringS (H : Nat → Nat → Bool) (x : Nat) : List Nat := (List.range 32).filter fun m => H x m && H m x
def nextS (H : Nat → Nat → Bool) (D placed : Nat → Bool) : List Nat := match (List.range 32).find? (mayS H D placed) with
  | none => []
  | some x => ringS H x
def outS (H : Nat → Nat → Bool) (D : Nat → Bool) : Nat → List Nat
  | 0 => []
  | j + 1 => outS H D j ++ nextS H D (fun i => (outS H D j).contains i)

/-- H goes on, over those of D; D is closed. -/
structure Clo (H : Nat → Nat → Bool) (D : Nat → Bool) : Prop where
  refl : ∀ x, x < 32 → D x = true → H x x = true
  trans : ∀ x y z, D x = true → H x y = true → H y z = true → H x z = true
  closed : ∀ x y, D x = true → H x y = true → D y = true
  lt : ∀ x, D x = true → x < 32

theorem nextS_none {H : Nat → Nat → Bool} {D placed : Nat → Bool} (h : ∀ x, x < 32 → mayS H D placed x = false) : nextS H D placed = [] := by
  have : (List.range 32).find? (mayS H D placed) = none := by
    rw [List.find?_eq_none]
    intro x hx
    rw [h x (List.mem_range.1 hx)]
    simp
  unfold nextS
  rw [this]
theorem nextS_some {H : Nat → Nat → Bool} {D placed : Nat → Bool} {x : Nat} (hx : x < 32) (h : mayS H D placed x = true) (hl : ∀ y, y < x → mayS H D placed y = false) : nextS H D placed = ringS H x := by
  have : (List.range 32).find? (mayS H D placed) = some x := by
    rw [List.find?_range_eq_some]
    exact ⟨h, List.mem_range.2 hx, fun j hj => by rw [hl j hj]; rfl⟩
  unfold nextS
  rw [this]
/-- Either nothing may be placed, or the least that may. -/
theorem nextS_cases (H : Nat → Nat → Bool) (D placed : Nat → Bool) : (nextS H D placed = [] ∧ ∀ x, x < 32 → mayS H D placed x = false) ∨ ∃ x, x < 32 ∧ mayS H D placed x = true ∧ (∀ y, y < x → mayS H D placed y = false) ∧ nextS H D placed = ringS H x := by
  cases hq : (List.range 32).find? (mayS H D placed) with
  | none =>
    left
    rw [List.find?_eq_none] at hq
    refine ⟨by unfold nextS; rw [(List.find?_eq_none.2 hq)], fun x hx => by simpa using hq x (List.mem_range.2 hx)⟩
  | some x =>
    right
    have hq' := hq
    rw [List.find?_range_eq_some] at hq
    obtain ⟨h1, h2, h3⟩ := hq
    exact ⟨x, List.mem_range.1 h2, h1, fun y hy => by simpa using h3 y hy, by unfold nextS; rw [hq']⟩
theorem mayS_iff {H : Nat → Nat → Bool} {D placed : Nat → Bool} {x : Nat} : mayS H D placed x = true ↔ D x = true ∧ placed x = false ∧ ∀ m, m < 32 → H x m = true → placed m = true ∨ H m x = true := by
  unfold mayS
  simp only [Bool.and_eq_true, Bool.not_eq_true', List.all_eq_true, List.mem_range, Bool.or_eq_true]
  constructor
  · rintro ⟨⟨h1, h2⟩, h3⟩
    refine ⟨h1, h2, fun m hm hx => ?_⟩
    rcases h3 m hm with (h | h) | h
    · rw [hx] at h; cases h
    · exact Or.inl h
    · exact Or.inr h
  · rintro ⟨h1, h2, h3⟩
    refine ⟨⟨h1, h2⟩, fun m hm => ?_⟩
    cases hx : H x m
    · exact Or.inl (Or.inl rfl)
    · rcases h3 m hm hx with h | h
      · exact Or.inl (Or.inr h)
      · exact Or.inr h
theorem mem_ringS {H : Nat → Nat → Bool} {x m : Nat} : m ∈ ringS H x ↔ m < 32 ∧ H x m = true ∧ H m x = true := by
  unfold ringS
  rw [List.mem_filter, List.mem_range, Bool.and_eq_true]
theorem mayS_congr {H H' : Nat → Nat → Bool} {D D' placed : Nat → Bool} (hc : Clo H D) (hD : ∀ x, x < 32 → D x = D' x) (hH : ∀ x, D x = true → ∀ y, y < 32 → H x y = H' x y) {x : Nat} (hx : x < 32) : mayS H D placed x = mayS H' D' placed x := by
  rw [Bool.eq_iff_iff, mayS_iff, mayS_iff, ← hD x hx]
  constructor
  · rintro ⟨h1, h2, h3⟩
    refine ⟨h1, h2, fun m hm hxm => ?_⟩
    rw [← hH x h1 m hm] at hxm
    rw [← hH m (hc.closed x m h1 hxm) x hx]
    exact h3 m hm hxm
  · rintro ⟨h1, h2, h3⟩
    refine ⟨h1, h2, fun m hm hxm => ?_⟩
    have := h3 m hm (by rw [← hH x h1 m hm]; exact hxm)
    rw [hH m (hc.closed x m h1 hxm) x hx]
    exact this
theorem ringS_congr {H H' : Nat → Nat → Bool} {D : Nat → Bool} (hc : Clo H D) (hH : ∀ x, D x = true → ∀ y, y < 32 → H x y = H' x y) {x : Nat} (hx : x < 32) (hd : D x = true) : ringS H x = ringS H' x := by
  unfold ringS
  refine List.filter_congr fun m hm => ?_
  have hm := List.mem_range.1 hm
  rw [← hH x hd m hm]
  cases hxm : H x m
  · rfl
  · rw [hH m (hc.closed x m hd hxm) x hx]
/-- An order hangs only on what is asked for, and on what these hang on. -/
theorem outS_congr {H H' : Nat → Nat → Bool} {D D' : Nat → Bool} (hc : Clo H D) (hD : ∀ x, x < 32 → D x = D' x) (hH : ∀ x, D x = true → ∀ y, y < 32 → H x y = H' x y) : ∀ j, outS H D j = outS H' D' j
  | 0 => rfl
  | j + 1 => by
    have ih := outS_congr hc hD hH j
    show outS H D j ++ _ = outS H' D' j ++ _
    rw [ih]
    congr 1
    rcases nextS_cases H D (fun i => (outS H' D' j).contains i) with ⟨h1, h2⟩ | ⟨x, h1, h2, h3, h4⟩
    · rw [h1, nextS_none fun x hx => by rw [← mayS_congr hc hD hH hx]; exact h2 x hx]
    · rw [h4, nextS_some h1 (by rw [← mayS_congr hc hD hH h1]; exact h2) (fun y hy => by rw [← mayS_congr hc hD hH (by omega)]; exact h3 y hy)]
      exact ringS_congr hc hH h1 (mayS_iff.1 h2).1

/-- What holds of all that is placed so far. -/
structure Laid (H : Nat → Nat → Bool) (D : Nat → Bool) (out : List Nat) : Prop where
  nodup : out.Nodup
  inD : ∀ x ∈ out, D x = true
  rings : ∀ x y, y < 32 → H x y = true → H y x = true → x ∈ out → y ∈ out
  behind : ∀ pre x post, out = pre ++ x :: post → ∀ d, d < 32 → H x d = true → d ∈ pre ∨ H d x = true

theorem laid_next {H : Nat → Nat → Bool} {D : Nat → Bool} (hc : Clo H D) {out : List Nat} (h : Laid H D out) : Laid H D (out ++ nextS H D (fun i => out.contains i)) := by
  rcases nextS_cases H D (fun i => out.contains i) with ⟨h1, h2⟩ | ⟨x, h1, h2, h3, h4⟩
  · rw [h1, List.append_nil]; exact h
  · rw [h4]
    obtain ⟨m1, m2, m3⟩ := mayS_iff.1 h2
    have hx : x ∉ out := by simpa using m2
    have inR : ∀ y ∈ ringS H x, D y = true := fun y hy => hc.closed x y m1 (mem_ringS.1 hy).2.1
    refine ⟨?_, ?_, ?_, ?_⟩
    · rw [List.nodup_append]
      refine ⟨h.nodup, List.Pairwise.filter _ List.nodup_range, fun a ha b hb e => ?_⟩
      subst e
      have hb := mem_ringS.1 hb
      exact hx (h.rings a x h1 hb.2.2 hb.2.1 ha)
    · intro y hy
      rcases List.mem_append.1 hy with hy | hy
      · exact h.inD y hy
      · exact inR y hy
    · intro y z hz h5 h6 hy
      rcases List.mem_append.1 hy with hy | hy
      · exact List.mem_append_left _ (h.rings y z hz h5 h6 hy)
      · have hq := mem_ringS.1 hy
        have dy := inR y hy
        have dz := hc.closed y z dy h5
        exact List.mem_append_right _ (mem_ringS.2 ⟨hz, hc.trans x y z m1 hq.2.1 h5, hc.trans z y x dz h6 hq.2.2⟩)
    · intro pre y post e d hd hyd
      rw [List.append_eq_append_iff] at e
      rcases e with ⟨qs, e1, e2⟩ | ⟨bs, e1, e2⟩
      · -- y stands in the ring
        have hy : y ∈ ringS H x := by rw [e2]; simp
        have hq := mem_ringS.1 hy
        have hxd := hc.trans x y d m1 hq.2.1 hyd
        rcases m3 d hd hxd with hp | hp
        · left
          rw [e1]
          exact List.mem_append_left _ (by simpa using hp)
        · right
          exact hc.trans d x y (hc.closed x d m1 hxd) hp hq.2.1
      · cases bs with
        | nil =>
          have e2' : y :: post = ringS H x := by simpa using e2
          have hy : y ∈ ringS H x := by rw [← e2']; simp
          have hq := mem_ringS.1 hy
          have hxd := hc.trans x y d m1 hq.2.1 hyd
          rcases m3 d hd hxd with hp | hp
          · left
            have e1' : out = pre := by simpa using e1
            rw [← e1']
            simpa using hp
          · right
            exact hc.trans d x y (hc.closed x d m1 hxd) hp hq.2.1
        | cons b bs =>
          simp only [List.cons_append, List.cons.injEq] at e2
          obtain ⟨rfl, e3⟩ := e2
          exact h.behind pre y bs e1 d hd hyd
theorem laid_at {H : Nat → Nat → Bool} {D : Nat → Bool} (hc : Clo H D) : ∀ j, Laid H D (outS H D j)
  | 0 => ⟨.nil, by simp [outS], by simp [outS], by simp [outS]⟩
  | j + 1 => laid_next hc (laid_at hc j)
theorem Laid.len {H : Nat → Nat → Bool} {D : Nat → Bool} (hc : Clo H D) {out : List Nat} (h : Laid H D out) : out.length ≤ 32 := len_lt 32 out h.nodup (fun x hx => hc.lt x (h.inD x hx))

theorem outS_stays {H : Nat → Nat → Bool} {D : Nat → Bool} {j : Nat} (h : nextS H D (fun i => (outS H D j).contains i) = []) : ∀ i, outS H D (j + i) = outS H D j
  | 0 => rfl
  | i + 1 => by
    have ih := outS_stays h i
    show outS H D (j + i) ++ nextS H D (fun k => (outS H D (j + i)).contains k) = _
    rw [ih, h, List.append_nil]
theorem outS_grows {H : Nat → Nat → Bool} {D : Nat → Bool} (hc : Clo H D) : ∀ j, j ≤ (outS H D j).length ∨ nextS H D (fun i => (outS H D j).contains i) = []
  | 0 => Or.inl (Nat.zero_le _)
  | j + 1 => by
    rcases nextS_cases H D (fun i => (outS H D j).contains i) with ⟨h1, _⟩ | ⟨x, h1, h2, _, h4⟩
    · right
      rw [outS_stays h1 1]
      exact h1
    · rcases outS_grows hc j with h | h
      · left
        show j + 1 ≤ (outS H D j ++ nextS H D (fun i => (outS H D j).contains i)).length
        have hd := (mayS_iff.1 h2).1
        have : x ∈ ringS H x := mem_ringS.2 ⟨h1, hc.refl x h1 hd, hc.refl x h1 hd⟩
        rw [h4, List.length_append]
        have := List.length_pos_of_mem this
        omega
      · right
        rw [outS_stays h 1]
        exact h
/-- Behind 32 rounds nothing is left. -/
theorem outS_end {H : Nat → Nat → Bool} {D : Nat → Bool} (hc : Clo H D) : nextS H D (fun i => (outS H D 32).contains i) = [] := by
  rcases outS_grows hc 33 with h | h
  · have := (laid_at hc 33).len hc
    omega
  · rcases outS_grows hc 32 with h2 | h2
    · rcases nextS_cases H D (fun i => (outS H D 32).contains i) with ⟨h1, _⟩ | ⟨x, h1, h3, _, h4⟩
      · exact h1
      · have hd := (mayS_iff.1 h3).1
        have hx : x ∈ ringS H x := mem_ringS.2 ⟨h1, hc.refl x h1 hd, hc.refl x h1 hd⟩
        have h5 := (laid_at hc 33).len hc
        have h6 : (outS H D 33).length = (outS H D 32).length + (ringS H x).length := by
          show (outS H D 32 ++ nextS H D (fun i => (outS H D 32).contains i)).length = _
          rw [h4, List.length_append]
        have := List.length_pos_of_mem hx
        omega
    · exact h2

/-- As long as something is left, something may be placed. -/
theorem some_may {H : Nat → Nat → Bool} {D : Nat → Bool} (hc : Clo H D) (placed : Nat → Bool) : ∀ (k x : Nat), (List.range 32).countP (H x) ≤ k → D x = true → placed x = false → ∃ y, y < 32 ∧ mayS H D placed y = true
  | 0, x, hk, hd, hp => by
    have hx := hc.lt x hd
    have : 0 < (List.range 32).countP (H x) := List.countP_pos_iff.2 ⟨x, List.mem_range.2 hx, hc.refl x hx hd⟩
    omega
  | k + 1, x, hk, hd, hp => by
    have hx := hc.lt x hd
    cases hm : mayS H D placed x
    · have : ∃ m, m < 32 ∧ H x m = true ∧ placed m = false ∧ H m x = false := by
        cases Classical.em (∃ m, m < 32 ∧ H x m = true ∧ placed m = false ∧ H m x = false) with
        | inl h => exact h
        | inr h =>
          exfalso
          have : mayS H D placed x = true := mayS_iff.2 ⟨hd, hp, fun m hm' hxm => by
            cases hpm : placed m
            · cases hmx : H m x
              · exact absurd ⟨m, hm', hxm, hpm, hmx⟩ h
              · exact Or.inr rfl
            · exact Or.inl rfl⟩
          rw [this] at hm
          cases hm
      obtain ⟨m, h1, h2, h3, h4⟩ := this
      have hdm := hc.closed x m hd h2
      refine some_may hc placed k m ?_ hdm h3
      have hlt : (List.range 32).countP (H m) < (List.range 32).countP (H x) := by
        have h5 : (List.range 32).countP (H x) = (List.range 32).countP (fun i => H x i && H m i) + (List.range 32).countP (fun i => H x i && !H m i) := by
          generalize List.range 32 = l
          induction l with
          | nil => rfl
          | cons a l ih =>
            simp only [List.countP_cons, ih]
            cases H x a <;> cases H m a <;> simp <;> omega
        have h6 : (List.range 32).countP (fun i => H x i && H m i) = (List.range 32).countP (H m) := by
          refine List.countP_congr fun i _ => ?_
          rw [Bool.and_eq_true]
          exact ⟨fun h => h.2, fun h => ⟨hc.trans x m i hd h2 h, h⟩⟩
        have h7 : 0 < (List.range 32).countP (fun i => H x i && !H m i) := List.countP_pos_iff.2 ⟨x, List.mem_range.2 hx, by rw [hc.refl x hx hd, h4]; rfl⟩
        omega
      omega
    · exact ⟨x, hx, hm⟩
/-- All that is asked for is placed. -/
theorem outS_all {H : Nat → Nat → Bool} {D : Nat → Bool} (hc : Clo H D) (x : Nat) : x ∈ outS H D 32 ↔ D x = true := by
  refine ⟨fun h => (laid_at hc 32).inD x h, fun hd => ?_⟩
  cases Classical.em (x ∈ outS H D 32) with
  | inl h => exact h
  | inr h =>
    exfalso
    obtain ⟨y, hy, hm⟩ := some_may hc (fun i => (outS H D 32).contains i) _ x (Nat.le_refl _) hd (by simpa using h)
    have he := outS_end hc
    rcases nextS_cases H D (fun i => (outS H D 32).contains i) with ⟨_, h2⟩ | ⟨z, h1, h3, _, h4⟩
    · rw [h2 y hy] at hm; cases hm
    · have hdz := (mayS_iff.1 h3).1
      have hz : z ∈ ringS H z := mem_ringS.2 ⟨h1, hc.refl z h1 hdz, hc.refl z h1 hdz⟩
      rw [← h4, he] at hz
      simp at hz

/-- Part of an order is the order of the part. -/
theorem outS_part {H : Nat → Nat → Bool} {D D' : Nat → Bool} (hc : Clo H D) (hc' : Clo H D') (hsub : ∀ x, D' x = true → D x = true) : ∀ j, ∃ j', j' ≤ j ∧ (outS H D j).filter D' = outS H D' j' 
  | 0 => ⟨0, Nat.le_refl _, rfl⟩
  | j + 1 => by
    obtain ⟨j', hj, ih⟩ := outS_part hc hc' hsub j
    have same : ∀ y, y < 32 → D' y = true → mayS H D (fun i => (outS H D j).contains i) y = mayS H D' (fun i => (outS H D' j').contains i) y := by
      intro y hy hd
      have mem : ∀ z, D' z = true → (outS H D j).contains z = (outS H D' j').contains z := by
        intro z hz
        rw [← ih, Bool.eq_iff_iff]
        simp [List.mem_filter, hz]
      rw [Bool.eq_iff_iff, mayS_iff, mayS_iff, mem y hd]
      constructor
      · rintro ⟨_, h2, h3⟩
        refine ⟨hd, h2, fun m hm hym => ?_⟩
        have := h3 m hm hym
        rw [mem m (hc'.closed y m hd hym)] at this
        exact this
      · rintro ⟨_, h2, h3⟩
        refine ⟨hsub y hd, h2, fun m hm hym => ?_⟩
        rw [mem m (hc'.closed y m hd hym)]
        exact h3 m hm hym
    show ∃ k, k ≤ j + 1 ∧ (outS H D j ++ nextS H D (fun i => (outS H D j).contains i)).filter D' = outS H D' k
    rw [List.filter_append, ih]
    rcases nextS_cases H D (fun i => (outS H D j).contains i) with ⟨h1, h2⟩ | ⟨x, h1, h2, h3, h4⟩
    · rw [h1]
      exact ⟨j', by omega, by simp⟩
    · have hd := (mayS_iff.1 h2).1
      rw [h4]
      cases hx : D' x
      · refine ⟨j', by omega, ?_⟩
        have : (ringS H x).filter D' = [] := by
          rw [List.filter_eq_nil_iff]
          intro y hy hdy
          have hq := mem_ringS.1 hy
          have := hc'.closed y x hdy hq.2.2
          rw [hx] at this
          cases this
        rw [this, List.append_nil]
      · refine ⟨j' + 1, by omega, ?_⟩
        show _ = outS H D' j' ++ nextS H D' (fun i => (outS H D' j').contains i)
        congr 1
        have hring : (ringS H x).filter D' = ringS H x := by
          rw [List.filter_eq_self]
          intro y hy
          exact hc'.closed x y hx (mem_ringS.1 hy).2.1
        rw [hring, nextS_some h1 (by rw [← same x h1 hx]; exact h2) (fun y hy => ?_)]
        cases hdy : D' y
        · cases hm : mayS H D' (fun i => (outS H D' j').contains i) y
          · rfl
          · have := (mayS_iff.1 hm).1
            rw [hdy] at this
            cases this
        · rw [← same y (by omega) hdy]
          exact h3 y hy
theorem outS_parts {H : Nat → Nat → Bool} {D D' : Nat → Bool} (hc : Clo H D) (hc' : Clo H D') (hsub : ∀ x, D' x = true → D x = true) : (outS H D 32).filter D' = outS H D' 32 := by
  obtain ⟨j', hj, h⟩ := outS_part hc hc' hsub 32
  rw [h]
  -- all of D' is placed behind j' rounds: nothing is left
  have all : ∀ x, D' x = true → x ∈ outS H D' j' := by
    intro x hx
    rw [← h, List.mem_filter]
    exact ⟨(outS_all hc x).2 (hsub x hx), hx⟩
  have hn : nextS H D' (fun i => (outS H D' j').contains i) = [] := by
    refine nextS_none fun x _ => ?_
    cases hm : mayS H D' (fun i => (outS H D' j').contains i) x
    · rfl
    · obtain ⟨h1, h2, _⟩ := mayS_iff.1 hm
      have := all x h1
      have h3 : x ∉ outS H D' j' := by simpa using h2
      exact absurd this h3
  obtain ⟨i, hi⟩ : ∃ i, 32 = j' + i := ⟨32 - j', by omega⟩
  rw [hi]
  exact (outS_stays hn i).symm

end Go.Proofs.Ytkoefoccbjhoiab
