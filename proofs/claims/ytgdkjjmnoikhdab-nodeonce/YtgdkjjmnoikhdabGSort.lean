/-
  Plain mathematics: what is executed order by order stands behind all that it hangs on, but those that hang on it: these by number.
-/
import Derived.Test.YtgdkjjmnoikhdabGSpec
namespace Go.Proofs.Ytgdkjjmnoikhdab
open Go.RowKit

/-- Those of a ring stand by number. -/
def ByNumber (H : Nat → Nat → Bool) (out : List Nat) : Prop :=
  ∀ pre x post, out = pre ++ x :: post → ∀ d, d < 32 → H x d = true → H d x = true → d ≠ x → (d ∈ pre ↔ d < x)

theorem ring_rises (H : Nat → Nat → Bool) (x : Nat) : (ringS H x).Pairwise (· < ·) := List.Pairwise.filter _ List.pairwise_lt_range
theorem split_rises {r1 r2 : List Nat} {x d : Nat} (h : (r1 ++ x :: r2).Pairwise (· < ·)) (hd : d ∈ r1 ++ x :: r2) (hx : d ≠ x) : d ∈ r1 ↔ d < x := by
  rw [List.pairwise_append, List.pairwise_cons] at h
  obtain ⟨_, ⟨h2, _⟩, h3⟩ := h
  constructor
  · intro h1
    exact h3 d h1 x (by simp)
  · intro h1
    rcases List.mem_append.1 hd with h4 | h4
    · exact h4
    · rcases List.mem_cons.1 h4 with h5 | h5
      · exact absurd h5 hx
      · have := h2 d h5
        omega

theorem byNumber_next {H : Nat → Nat → Bool} {D : Nat → Bool} (hc : Clo H D) {out : List Nat} (L : Laid H D out) (h : ByNumber H out) : ByNumber H (out ++ nextS H D (fun i => out.contains i)) := by
  rcases nextS_cases H D (fun i => out.contains i) with ⟨h1, _⟩ | ⟨y, h1, h2, _, h4⟩
  · rw [h1, List.append_nil]; exact h
  · rw [h4]
    obtain ⟨m1, m2, _⟩ := mayS_iff.1 h2
    have hy : y ∉ out := by simpa using m2
    -- a member of the ring: none of its ring is placed yet
    have ring : ∀ r1 x r2, ringS H y = r1 ++ x :: r2 → ∀ d, d < 32 → H x d = true → H d x = true → d ≠ x → (d ∈ out ++ r1 ↔ d < x) := by
      intro r1 x r2 e d hd hxd hdx hne
      have hx : x ∈ ringS H y := by rw [e]; simp
      have hq := mem_ringS.1 hx
      have dx := hc.closed y x m1 hq.2.1
      have dd := hc.closed x d dx hxd
      have hyd := hc.trans y x d m1 hq.2.1 hxd
      have hdy := hc.trans d x y dd hdx hq.2.2
      have hr : d ∈ ringS H y := mem_ringS.2 ⟨hd, hyd, hdy⟩
      have hno : d ∉ out := fun ho => hy (L.rings d y h1 hdy hyd ho)
      have hs := ring_rises H y
      rw [e] at hs hr
      rw [← split_rises hs hr hne, List.mem_append]
      exact ⟨fun h => h.resolve_left hno, Or.inr⟩
    intro pre x post e d hd hxd hdx hne
    rw [List.append_eq_append_iff] at e
    rcases e with ⟨qs, e1, e2⟩ | ⟨bs, e1, e2⟩
    · rw [e1]
      exact ring qs x post e2 d hd hxd hdx hne
    · cases bs with
      | nil =>
        have e2' : ringS H y = [] ++ x :: post := by simpa using e2.symm
        have e1' : out = pre := by simpa using e1
        have := ring [] x post e2' d hd hxd hdx hne
        rw [List.append_nil, e1'] at this
        exact this
      | cons b bs =>
        simp only [List.cons_append, List.cons.injEq] at e2
        obtain ⟨rfl, _⟩ := e2
        exact h pre x bs e1 d hd hxd hdx hne
theorem byNumber_at {H : Nat → Nat → Bool} {D : Nat → Bool} (hc : Clo H D) : ∀ j, ByNumber H (outS H D j)
  | 0 => by intro pre x post e; simp [outS] at e
  | j + 1 => byNumber_next hc (laid_at hc j) (byNumber_at hc j)

/-- What is executed: all that it hangs on is executed, too; each behind what it hangs on, those of a ring by number. -/
structure Sorted (H : Nat → Nat → Bool) (L : List Nat) : Prop where
  nodup : L.Nodup
  lt : ∀ x ∈ L, x < 32
  closed : ∀ x ∈ L, ∀ d, d < 32 → H x d = true → d ∈ L
  behind : ∀ pre x post, L = pre ++ x :: post → ∀ d, d < 32 → H x d = true → H d x = false → d ∈ pre
  ring : ByNumber H L

theorem sorted_nil (H : Nat → Nat → Bool) : Sorted H [] := ⟨.nil, by simp, by simp, by intro pre x post e; simp at e, by intro pre x post e; simp at e⟩

theorem filter_split {p : Nat → Bool} : ∀ {out pre post : List Nat} {x : Nat}, out.filter p = pre ++ x :: post → ∃ a b, out = a ++ x :: b ∧ a.filter p = pre ∧ b.filter p = post
  | [], pre, post, x, h => by simp at h
  | y :: out, pre, post, x, h => by
    cases hp : p y
    · rw [List.filter_cons_of_neg (by simp [hp])] at h
      obtain ⟨a, b, h1, h2, h3⟩ := filter_split h
      exact ⟨y :: a, b, by rw [h1]; rfl, by rw [List.filter_cons_of_neg (by simp [hp])]; exact h2, h3⟩
    · rw [List.filter_cons_of_pos hp] at h
      cases pre with
      | nil =>
        simp at h
        exact ⟨[], out, by rw [h.1]; rfl, rfl, h.2⟩
      | cons z pre =>
        simp at h
        obtain ⟨a, b, h1, h2, h3⟩ := filter_split h.2
        exact ⟨y :: a, b, by rw [h1]; rfl, by rw [List.filter_cons_of_pos hp, h2, h.1], h3⟩

/-- The order of one that is ready is executed: those that are not yet. -/
theorem sorted_more {H : Nat → Nat → Bool} {D : Nat → Bool} (hc : Clo H D) {L : List Nat} (h : Sorted H L) : Sorted H (L ++ (outS H D 32).filter fun x => !L.contains x) := by
  have La := laid_at hc 32
  have Nu := byNumber_at hc 32
  have mem : ∀ x, x ∈ (outS H D 32).filter (fun x => !L.contains x) ↔ D x = true ∧ x ∉ L := by
    intro x
    rw [List.mem_filter, outS_all hc x]
    simp
  have all : ∀ x, D x = true → x ∈ L ++ (outS H D 32).filter fun x => !L.contains x := by
    intro x hx
    by_cases hl : x ∈ L
    · exact List.mem_append_left _ hl
    · exact List.mem_append_right _ ((mem x).2 ⟨hx, hl⟩)
  -- x stands in the new part
  have new : ∀ p1 x p2, (outS H D 32).filter (fun x => !L.contains x) = p1 ++ x :: p2 → ∀ d, d < 32 → H x d = true → (H d x = false → d ∈ L ++ p1) ∧ (H d x = true → d ≠ x → (d ∈ L ++ p1 ↔ d < x)) := by
    intro p1 x p2 e d hd hxd
    obtain ⟨a, b, e1, e2, _⟩ := filter_split e
    have hx := (mem x).1 (by rw [e]; simp)
    have dd := hc.closed x d hx.1 hxd
    have inA : ∀ z, z ∉ L → (z ∈ p1 ↔ z ∈ a) := by
      intro z hz
      rw [← e2, List.mem_filter]
      simp [hz]
    refine ⟨fun hn => ?_, fun hb hne => ?_⟩
    · rcases La.behind a x b e1 d hd hxd with h1 | h1
      · by_cases hl : d ∈ L
        · exact List.mem_append_left _ hl
        · exact List.mem_append_right _ ((inA d hl).2 h1)
      · rw [hn] at h1; cases h1
    · have hl : d ∉ L := fun hl => hx.2 (h.closed d hl x (hc.lt x hx.1) hb)
      rw [List.mem_append, inA d hl, ← Nu a x b e1 d hd hxd hb hne]
      exact ⟨fun h => h.resolve_left hl, Or.inr⟩
  refine ⟨?_, ?_, ?_, ?_, ?_⟩
  · rw [List.nodup_append]
    refine ⟨h.nodup, List.Pairwise.filter _ La.nodup, fun a ha b hb e => ?_⟩
    subst e
    exact ((mem a).1 hb).2 ha
  · intro x hx
    rcases List.mem_append.1 hx with hx | hx
    · exact h.lt x hx
    · exact hc.lt x ((mem x).1 hx).1
  · intro x hx d hd hxd
    rcases List.mem_append.1 hx with hx | hx
    · exact List.mem_append_left _ (h.closed x hx d hd hxd)
    · exact all d (hc.closed x d ((mem x).1 hx).1 hxd)
  · intro pre x post e d hd hxd hn
    rw [List.append_eq_append_iff] at e
    rcases e with ⟨qs, e1, e2⟩ | ⟨bs, e1, e2⟩
    · rw [e1]
      exact (new qs x post e2 d hd hxd).1 hn
    · cases bs with
      | nil =>
        have e1' : L = pre := by simpa using e1
        have := (new [] x post (by simpa using e2.symm) d hd hxd).1 hn
        rw [List.append_nil, e1'] at this
        exact this
      | cons b bs =>
        simp only [List.cons_append, List.cons.injEq] at e2
        obtain ⟨rfl, _⟩ := e2
        exact h.behind pre x bs e1 d hd hxd hn
  · intro pre x post e d hd hxd hdx hne
    rw [List.append_eq_append_iff] at e
    rcases e with ⟨qs, e1, e2⟩ | ⟨bs, e1, e2⟩
    · rw [e1]
      exact (new qs x post e2 d hd hxd).2 hdx hne
    · cases bs with
      | nil =>
        have e1' : L = pre := by simpa using e1
        have := (new [] x post (by simpa using e2.symm) d hd hxd).2 hdx hne
        rw [List.append_nil, e1'] at this
        exact this
      | cons b bs =>
        simp only [List.cons_append, List.cons.injEq] at e2
        obtain ⟨rfl, _⟩ := e2
        exact h.ring pre x bs e1 d hd hxd hdx hne
/-- What is executed stays so when more comes to be known: of those that are executed nothing has changed. -/
theorem Sorted.later {H H' : Nat → Nat → Bool} {L : List Nat} (h : Sorted H L) (e : ∀ x ∈ L, ∀ y, y < 32 → H x y = H' x y) : Sorted H' L := by
  have inL : ∀ pre x post, L = pre ++ x :: post → x ∈ L := fun pre x post e => by rw [e]; simp
  have back : ∀ pre x post d, L = pre ++ x :: post → d < 32 → H' x d = true → d ∈ L := fun pre x post d eL hd hx => h.closed x (inL pre x post eL) d hd (by rw [e x (inL pre x post eL) d hd]; exact hx)
  refine ⟨h.nodup, h.lt, fun x hx d hd hxd => h.closed x hx d hd (by rw [e x hx d hd]; exact hxd), fun pre x post eL d hd hxd hn => ?_, fun pre x post eL d hd hxd hdx hne => ?_⟩
  · have hx := inL pre x post eL
    have hdL := back pre x post d eL hd hxd
    exact h.behind pre x post eL d hd (by rw [e x hx d hd]; exact hxd) (by rw [e d hdL x (h.lt x hx)]; exact hn)
  · have hx := inL pre x post eL
    have hdL := back pre x post d eL hd hxd
    exact h.ring pre x post eL d hd (by rw [e x hx d hd]; exact hxd) (by rw [e d hdL x (h.lt x hx)]; exact hdx) hne

end Go.Proofs.Ytgdkjjmnoikhdab
