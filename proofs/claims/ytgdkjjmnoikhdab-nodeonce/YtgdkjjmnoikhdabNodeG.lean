/-
  Plain mathematics of a node: it stays good; and what it has executed stays sorted.
-/
import Derived.Test.YtgdkjjmnoikhdabNodeL
namespace Go.Proofs.Ytgdkjjmnoikhdab
open Go.RowKit

theorem rises_map (xs : List Nat) : ∀ (l : Int), (∀ x ∈ xs, l < (x : Int) ∧ x < 32) → xs.Pairwise (· < ·) → risingFrom l (xs.map Int.ofNat) = true := by
  induction xs with
  | nil => intros; rfl
  | cons x r ih =>
    intro l h hp
    have hx := h x (by simp)
    obtain ⟨h1, h2⟩ := List.pairwise_cons.1 hp
    rw [List.map_cons, risingFrom, ih (Int.ofNat x) (fun y hy => ⟨by have := h1 y hy; simp; omega, (h y (by simp [hy])).2⟩) h2]
    have e1 : decide (Int.ofNat x ≤ l) = false := by simp; omega
    have e2 : decide (32 ≤ Int.ofNat x) = false := by simp; omega
    rw [e1, e2]
    rfl
theorem ahead_rises (s : NodeL) (id : Nat) (ops : List OpL) (sh : Int) : risingFrom (-1) (s.ahead id ops sh) = true := by
  unfold NodeL.ahead unionTo
  refine rises_map _ _ (fun x hx => ?_) (List.Pairwise.filter _ List.pairwise_lt_range)
  have := List.mem_range.1 (List.mem_filter.1 hx).1
  omega
theorem ahead_not (s : NodeL) (id : Nat) (ops : List OpL) (sh : Int) : hasL (s.ahead id ops sh) id = false := by
  unfold hasL
  rw [List.any_eq_false]
  intro x hx he
  unfold NodeL.ahead unionTo at hx
  rw [List.mem_map] at hx
  obtain ⟨y, hy, rfl⟩ := hx
  have h1 := (List.mem_filter.1 hy).2
  unfold eqB at he
  have : y = id := by
    have h2 : ((y : Nat) : Int) = (id : Int) := by simpa using he
    omega
  subst this
  simp at h1

theorem run_ats (sh : Int) : ∀ (ops : List OpL) (i : Nat) (v : Nat → Int) (l : Int) (N : Nat), l < (i : Int) → i + ops.length ≤ N → atsFrom l N (runOps sh i ops v).2.1 = true
  | [], _, _, _, _, _, _ => rfl
  | o :: r, i, v, l, N, h1, h2 => by
    simp only [List.length_cons] at h2
    unfold runOps
    split
    · show (decide (l < (i : Int)) && decide ((i : Int) < (N : Int)) && atsFrom (i : Int) N _) = true
      rw [decide_eq_true h1, decide_eq_true (show (i : Int) < (N : Int) by omega), run_ats sh r (i + 1) _ (i : Int) N (by omega) (by omega)]
      rfl
    · exact run_ats sh r (i + 1) v l N (by omega) (by omega)
theorem run_len (sh : Int) : ∀ (ops : List OpL) (i : Nat) (v : Nat → Int), (runOps sh i ops v).2.2.length = (runOps sh i ops v).2.1.length
  | [], _, _ => rfl
  | o :: r, i, v => by
    unfold runOps
    split
    · simp only [List.length_cons, run_len sh r (i + 1)]
    · exact run_len sh r (i + 1) v

theorem three_ok : (1 : Int) ≤ 3 ∧ (3 : Int) ≤ 3 := by decide
theorem two_okN : (1 : Int) ≤ 2 ∧ (2 : Int) ≤ 3 := by decide
theorem one_ok : (1 : Int) ≤ 1 ∧ (1 : Int) ≤ 3 := by decide
theorem GoodN.fine {s : NodeL} (h : GoodN s) {n : Nat} (hn : n < 32) (hs : (s.ent n).state ≠ 0) : Fine (s.ent n) n := by
  rcases h.ent n hn with e | e
  · rw [e] at hs; exact absurd rfl hs
  · exact e
theorem GoodN.state {s : NodeL} (h : GoodN s) {n : Nat} (hn : n < 32) : 0 ≤ (s.ent n).state ∧ (s.ent n).state ≤ 3 := by
  rcases h.ent n hn with e | e
  · rw [e]; decide
  · have := e.st; omega
theorem good_exec {s : NodeL} (h : GoodN s) (sh : Int) {n : Nat} (hn : n < 32) (hs : (s.ent n).state = 2) : GoodN (s.exec sh n) := by
  have F := h.fine hn (by rw [hs]; decide)
  have same : (s.exec sh n).ent n = ⟨3, (s.ent n).ops, (s.ent n).first, (s.ent n).deps, (runOps sh 0 (s.ent n).ops s.vals).2.1, (runOps sh 0 (s.ent n).ops s.vals).2.2⟩ := upd_same _ _ _
  have other : ∀ m, m ≠ n → (s.exec sh n).ent m = s.ent m := fun m hm => upd_other _ _ hm
  refine ⟨fun m hm => ?_, fun m hm => ?_, fun x hx => ?_⟩
  · by_cases e : m = n
    · subst e
      right
      rw [same]
      exact ⟨three_ok, F.ops, F.first, F.deps, fun h => absurd (show (3 : Int) = 1 from h) (by decide), fun h => absurd rfl h, run_ats sh (s.ent m).ops 0 s.vals (-1) (s.ent m).ops.length (by omega) (by omega), run_len sh _ _ _⟩
    · rw [other m e]; exact h.ent m hm
  · have h1 := h.cnt m hm
    show (s.order ++ [(n : Int)]).count (m : Int) = _
    rw [List.count_append, h1]
    by_cases e : m = n
    · subst e
      rw [same, hs]
      simp
    · rw [other m e]
      have : List.count (m : Int) [(n : Int)] = 0 := by
        rw [List.count_eq_zero]
        simp
        omega
      rw [this]
      rfl
  · rcases List.mem_append.1 hx with hx | hx
    · exact h.lt x hx
    · simp at hx
      omega
theorem good_execs (sh : Int) : ∀ (l : List Nat) {s : NodeL}, (∀ x ∈ l, x < 32) → GoodN s → GoodN (s.execs sh l)
  | [], _, _, h => h
  | a :: l, s, hl, h => by
    have h1 : GoodN (NodeL.execIf sh s a) := by
      unfold NodeL.execIf
      split
      · rename_i e; exact good_exec h sh (hl a (by simp)) e
      · exact h
    exact good_execs (s := NodeL.execIf sh s a) sh l (fun x hx => hl x (by simp [hx])) h1
theorem order_below (g : GraphL) (n : Int) : ∀ x ∈ orderI g n, x < 32 := by
  intro x hx
  unfold orderI at hx
  split at hx
  · exact (placed_at _ _ 32).lt x hx
  · simp at hx
theorem good_settle {s : NodeL} (h : GoodN s) (sh : Int) : GoodN (s.settle sh) := by
  have : ∀ (l : List Nat) (t : NodeL), GoodN t → GoodN (l.foldl (NodeL.round s.graph sh) t) := by
    intro l
    induction l with
    | nil => exact fun t ht => ht
    | cons a l ih =>
      intro t ht
      refine ih _ ?_
      unfold NodeL.round
      split
      · exact good_execs (s := t) sh _ (order_below _ _) ht
      · exact ht
  exact this _ s h

/-- What a good frame has, of the two kinds that a node takes. -/
theorem frame_has {f : FrameL} (h : goodL f = 0) : 0 ≤ f.id ∧ f.id < 32 ∧ ((f.kind = 1 ∨ f.kind = 3) → goodOpsL f.ops = true) ∧ (f.kind = 3 → risingFrom (-1) f.deps = true ∧ hasL f.deps f.id = false) := by
  unfold goodL at h
  split at h
  · cases h
  · split at h
    · cases h
    · rename_i h2
      split at h
      · rename_i h3
        rw [Bool.and_eq_true, Bool.and_eq_true] at h3
        refine ⟨by omega, by omega, fun hk => ?_, fun hk => ?_⟩
        · have := h3.1
          unfold goodOpsF at this
          rw [if_pos hk] at this
          exact this
        · have := h3.2.1
          unfold goodDepsF at this
          rw [if_pos (Or.inr hk), Bool.and_eq_true] at this
          exact ⟨this.1, by simpa using this.2⟩
      · cases h
theorem good_asked {s : NodeL} (h : GoodN s) (sh : Int) {f : FrameL} (hf : goodL f = 0) (hk : f.kind = 1) : GoodN (s.asked sh f) := by
  obtain ⟨i1, i2, i3, _⟩ := frame_has hf
  unfold NodeL.asked
  split
  · rename_i e0
    refine ⟨fun m hm => ?_, fun m hm => ?_, h.lt⟩
    · by_cases e : m = f.id.toNat
      · subst e
        right
        rw [heard_same]
        exact ⟨one_ok, i3 (Or.inl hk), ⟨ahead_rises _ _ _ _, ahead_not _ _ _ _⟩, ⟨rfl, rfl⟩, fun _ => rfl, fun _ => rfl, rfl, rfl⟩
      · rw [heard_other s sh f e]; exact h.ent m hm
    · have h1 := h.cnt m hm
      show s.order.count (m : Int) = _
      rw [h1]
      by_cases e : m = f.id.toNat
      · subst e
        rw [heard_same, e0]
        rfl
      · rw [heard_other s sh f e]
  · exact h
theorem good_placed {s : NodeL} (h : GoodN s) (sh : Int) {f : FrameL} (hf : goodL f = 0) (hk : f.kind = 3) (hs : (s.ent f.id.toNat).state < 2) : GoodN (s.placed sh f) := by
  obtain ⟨i1, i2, i3, i4⟩ := frame_has hf
  have hid : ((f.id.toNat : Nat) : Int) = f.id := by omega
  have hlt : f.id.toNat < 32 := by omega
  have other : ∀ m, m ≠ f.id.toNat → (s.placed sh f).ent m = s.ent m := fun m hm => upd_other _ _ hm
  have hats : (s.ent f.id.toNat).ats = [] ∧ (s.ent f.id.toNat).vals = [] := by
    rcases h.ent _ hlt with e | e
    · rw [e]; exact ⟨rfl, rfl⟩
    · have h1 := e.told (by omega)
      exact ⟨h1, List.eq_nil_of_length_eq_zero (by rw [e.vals, h1]; rfl)⟩
  refine ⟨fun m hm => ?_, fun m hm => ?_, h.lt⟩
  · by_cases e : m = f.id.toNat
    · subst e
      right
      rw [placed_same, hats.1, hats.2]
      have hfi : risingFrom (-1) (if (s.ent f.id.toNat).state = 0 then s.ahead f.id.toNat f.ops sh else (s.ent f.id.toNat).first) = true ∧ hasL (if (s.ent f.id.toNat).state = 0 then s.ahead f.id.toNat f.ops sh else (s.ent f.id.toNat).first) ((f.id.toNat : Nat) : Int) = false := by
        split
        · exact ⟨ahead_rises _ _ _ _, ahead_not _ _ _ _⟩
        · rename_i e0
          exact (h.fine hlt e0).first
      have hdp : risingFrom (-1) f.deps = true ∧ hasL f.deps ((f.id.toNat : Nat) : Int) = false := by rw [hid]; exact i4 hk
      exact ⟨two_okN, i3 (Or.inr hk), hfi, hdp, fun h => absurd (show (2 : Int) = 1 from h) (by decide), fun _ => rfl, rfl, rfl⟩
    · rw [other m e]; exact h.ent m hm
  · have h1 := h.cnt m hm
    show s.order.count (m : Int) = _
    rw [h1]
    by_cases e : m = f.id.toNat
    · subst e
      rw [placed_same, if_neg (by omega)]
      rfl
    · rw [other m e]
theorem good_commit {s : NodeL} (h : GoodN s) (sh : Int) {f : FrameL} (hf : goodL f = 0) (hk : f.kind = 3) : GoodN (s.commit sh f) := by
  unfold NodeL.commit
  split
  · rename_i e; exact good_settle (good_placed h sh hf hk e) sh
  · exact h
theorem good_zero : GoodN zeroN := ⟨fun _ _ => Or.inl rfl, fun _ _ => rfl, by simp [zeroN]⟩

end Go.Proofs.Ytgdkjjmnoikhdab
