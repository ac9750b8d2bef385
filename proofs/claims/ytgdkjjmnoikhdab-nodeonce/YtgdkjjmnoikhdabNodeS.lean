/-
  Plain mathematics of a node: what it has executed stands behind all that it hangs on, but those that hang on it: these by number; whatever it is told.
-/
import Derived.Test.YtgdkjjmnoikhdabNodeG
import Derived.Test.YtgdkjjmnoikhdabGLearn
namespace Go.Proofs.Ytgdkjjmnoikhdab
open Go.RowKit

def NodeL.did (s : NodeL) : List Nat := s.order.map Int.toNat
theorem did_iff {s : NodeL} (h : GoodN s) {n : Nat} (hn : n < 32) : n ∈ s.did ↔ (s.ent n).state = 3 := by
  have h1 := h.cnt n hn
  unfold NodeL.did
  rw [List.mem_map]
  constructor
  · rintro ⟨x, hx, e⟩
    have := h.lt x hx
    have ex : x = (n : Int) := by omega
    subst ex
    have : 0 < s.order.count (n : Int) := List.count_pos_iff.2 hx
    split at h1
    · assumption
    · omega
  · intro hs
    rw [if_pos hs] at h1
    exact ⟨(n : Int), List.count_pos_iff.1 (by omega), by simp⟩

/-- What a node has executed: sorted, and all that it hangs on is known. -/
structure SortN (s : NodeL) : Prop where
  sorted : Sorted (hangB s.graph) s.did
  ready : ∀ x ∈ s.did, ∀ d, d < 32 → hangB s.graph x d = true → s.graph.known d = true

theorem graph_exec (s : NodeL) (sh : Int) (n : Nat) (h : (s.ent n).state = 2) : (s.exec sh n).graph = s.graph := by
  have same : (s.exec sh n).ent n = ⟨3, (s.ent n).ops, (s.ent n).first, (s.ent n).deps, _, _⟩ := upd_same _ _ _
  have other : ∀ m, m ≠ n → (s.exec sh n).ent m = s.ent m := fun m hm => upd_other _ _ hm
  have e1 : (fun i => decide (2 ≤ ((s.exec sh n).ent i).state)) = fun i => decide (2 ≤ (s.ent i).state) := by
    funext i
    by_cases e : i = n
    · rw [e, same, h]; rfl
    · rw [other i e]
  have e2 : (fun i => ((s.exec sh n).ent i).deps) = fun i => (s.ent i).deps := by
    funext i
    by_cases e : i = n
    · rw [e, same]
    · rw [other i e]
  unfold NodeL.graph
  rw [e1, e2]

/-- A list is executed: those of it that are Committed, in its order. -/
theorem did_execs (sh : Int) : ∀ (l : List Nat) (s : NodeL), l.Nodup → (s.execs sh l).did = s.did ++ l.filter (fun x => decide ((s.ent x).state = 2)) ∧ (s.execs sh l).graph = s.graph ∧ ∀ x, x ∉ l → (s.execs sh l).ent x = s.ent x
  | [], s, _ => ⟨by simp [NodeL.execs], rfl, fun _ _ => rfl⟩
  | a :: l, s, hd => by
    rw [List.nodup_cons] at hd
    obtain ⟨i1, i2, i3⟩ := did_execs sh l (NodeL.execIf sh s a) hd.2
    have e0 : s.execs sh (a :: l) = (NodeL.execIf sh s a).execs sh l := rfl
    rw [e0, i1, i2]
    by_cases h : (s.ent a).state = 2
    · have e1 : NodeL.execIf sh s a = s.exec sh a := by unfold NodeL.execIf; rw [if_pos h]
      have other : ∀ m, m ≠ a → (s.exec sh a).ent m = s.ent m := fun m hm => upd_other _ _ hm
      rw [e1] at i3 ⊢
      refine ⟨?_, graph_exec s sh a h, fun x hx => ?_⟩
      · have hf : l.filter (fun x => decide (((s.exec sh a).ent x).state = 2)) = l.filter (fun x => decide ((s.ent x).state = 2)) := List.filter_congr fun x hx => by rw [other x (fun e => hd.1 (e ▸ hx))]
        rw [hf, List.filter_cons_of_pos (by simpa using h)]
        unfold NodeL.did NodeL.exec
        simp
      · rw [i3 x (fun h => hx (by simp [h])), other x (fun e => hx (by simp [e]))]
    · have e1 : NodeL.execIf sh s a = s := by unfold NodeL.execIf; rw [if_neg h]
      rw [e1] at i3 ⊢
      refine ⟨by rw [List.filter_cons_of_neg (by simpa using h)], rfl, fun x hx => i3 x (fun h => hx (by simp [h]))⟩

theorem sort_execs {s : NodeL} (h : GoodN s) (S : SortN s) (sh : Int) {n : Nat} (hn : n < 32) : SortN (s.execs sh (orderI s.graph n)) ∧ (s.execs sh (orderI s.graph n)).graph = s.graph := by
  cases hr : readyI s.graph (n : Int)
  · have : orderI s.graph (n : Int) = [] := by unfold orderI; rw [hr]; rfl
    rw [this]
    exact ⟨S, rfl⟩
  · have hc := clo_hang s.graph hn
    have eo : orderI s.graph (n : Int) = outS (hangB s.graph) (hangB s.graph n) 32 := by unfold orderI; rw [hr, ← order_spec s.graph hn]; rfl
    have hk : ∀ i, i < 32 → hangB s.graph n i = true → s.graph.known i = true := by
      have h1 := hr
      unfold readyI at h1
      rw [Bool.and_eq_true] at h1
      exact knowsB_iff.1 h1.2
    have L := laid_at hc 32
    obtain ⟨e1, e2, _⟩ := did_execs sh (orderI s.graph (n : Int)) s (by rw [eo]; exact L.nodup)
    refine ⟨?_, e2⟩
    have hf : (orderI s.graph (n : Int)).filter (fun x => decide ((s.ent x).state = 2)) = (outS (hangB s.graph) (hangB s.graph n) 32).filter fun x => !s.did.contains x := by
      rw [eo]
      refine List.filter_congr fun x hx => ?_
      have hd := L.inD x hx
      have hx32 := hc.lt x hd
      have h2 : 2 ≤ (s.ent x).state := by simpa [NodeL.graph] using hk x hx32 hd
      have h3 := (h.state hx32).2
      have h4 := did_iff h hx32
      rw [Bool.eq_iff_iff]
      simp only [decide_eq_true_iff, Bool.not_eq_true', List.contains_eq_mem, decide_eq_false_iff_not]
      constructor
      · intro h5 h6
        have := h4.1 h6
        omega
      · intro h5
        have : (s.ent x).state ≠ 3 := fun e => h5 (h4.2 e)
        omega
    rw [hf] at e1
    refine ⟨by rw [e1, e2]; exact sorted_more hc S.sorted, fun x hx d hd hxd => ?_⟩
    rw [e2] at hxd ⊢
    rw [e1] at hx
    rcases List.mem_append.1 hx with hx | hx
    · exact S.ready x hx d hd hxd
    · have hdx := L.inD x (List.mem_filter.1 hx).1
      exact hk d hd (hc.closed x d hdx hxd)

theorem sort_settle {s : NodeL} (h : GoodN s) (S : SortN s) (sh : Int) : SortN (s.settle sh) := by
  have : ∀ (l : List Nat) (t : NodeL), (∀ x ∈ l, x < 32) → GoodN t → SortN t → t.graph = s.graph → SortN (l.foldl (NodeL.round s.graph sh) t) := by
    intro l
    induction l with
    | nil => exact fun t _ _ ht _ => ht
    | cons a l ih =>
      intro t hl hg hS he
      have ha := hl a (by simp)
      have h1 : GoodN (NodeL.round s.graph sh t a) ∧ SortN (NodeL.round s.graph sh t a) ∧ (NodeL.round s.graph sh t a).graph = s.graph := by
        unfold NodeL.round
        split
        · rw [← he]
          obtain ⟨k1, k2⟩ := sort_execs hg hS sh ha
          exact ⟨good_execs sh _ (order_below _ _) hg, k1, k2⟩
        · exact ⟨hg, hS, he⟩
      exact ih _ (fun x hx => hl x (by simp [hx])) h1.1 h1.2.1 h1.2.2
  exact this _ s (fun x hx => List.mem_range.1 hx) h S rfl

theorem graph_asked {s : NodeL} (h : GoodN s) (sh : Int) {f : FrameL} (hf : goodL f = 0) : (s.asked sh f).graph = s.graph := by
  obtain ⟨i1, i2, _, _⟩ := frame_has hf
  unfold NodeL.asked
  split
  · rename_i e0
    have hz : s.ent f.id.toNat = zeroE := by
      rcases h.ent f.id.toNat (by omega) with e | e
      · exact e
      · have := e.st; omega
    have e1 : (fun i => decide (2 ≤ ((s.heard sh f).ent i).state)) = fun i => decide (2 ≤ (s.ent i).state) := by
      funext i
      by_cases e : i = f.id.toNat
      · rw [e, heard_same, hz]; rfl
      · rw [heard_other s sh f e]
    have e2 : (fun i => ((s.heard sh f).ent i).deps) = fun i => (s.ent i).deps := by
      funext i
      by_cases e : i = f.id.toNat
      · rw [e, heard_same, hz]; rfl
      · rw [heard_other s sh f e]
    unfold NodeL.graph
    rw [e1, e2]
  · rfl
theorem did_asked (s : NodeL) (sh : Int) (f : FrameL) : (s.asked sh f).did = s.did := by
  unfold NodeL.asked
  split <;> rfl
theorem sort_asked {s : NodeL} (h : GoodN s) (S : SortN s) (sh : Int) {f : FrameL} (hf : goodL f = 0) : SortN (s.asked sh f) := by
  refine ⟨?_, ?_⟩
  · rw [graph_asked h sh hf, did_asked]; exact S.sorted
  · rw [graph_asked h sh hf, did_asked]; exact S.ready
theorem graph_placed (s : NodeL) (sh : Int) (f : FrameL) : (s.placed sh f).graph = s.graph.learn f.id.toNat f.deps := by
  have other : ∀ m, m ≠ f.id.toNat → (s.placed sh f).ent m = s.ent m := fun m hm => upd_other _ _ hm
  have e1 : (fun i => decide (2 ≤ ((s.placed sh f).ent i).state)) = upd (fun i => decide (2 ≤ (s.ent i).state)) f.id.toNat true := by
    funext i
    by_cases e : i = f.id.toNat
    · rw [e, placed_same, upd_same]; rfl
    · rw [other i e, upd_other _ _ e]
  have e2 : (fun i => ((s.placed sh f).ent i).deps) = upd (fun i => (s.ent i).deps) f.id.toNat f.deps := by
    funext i
    by_cases e : i = f.id.toNat
    · rw [e, placed_same, upd_same]
    · rw [other i e, upd_other _ _ e]
  unfold NodeL.graph GraphL.learn
  rw [e1, e2]
theorem sort_placed {s : NodeL} (S : SortN s) (sh : Int) {f : FrameL} (hf : goodL f = 0) (hs : (s.ent f.id.toNat).state < 2) : SortN (s.placed sh f) := by
  obtain ⟨i1, i2, _, _⟩ := frame_has hf
  have hid : f.id.toNat < 32 := by omega
  have hunk : s.graph.known f.id.toNat = false := by
    show decide (2 ≤ (s.ent f.id.toNat).state) = false
    exact decide_eq_false (by omega)
  have hno : ∀ x ∈ s.did, hangB s.graph x f.id.toNat = false := by
    intro x hx
    cases hh : hangB s.graph x f.id.toNat
    · rfl
    · rw [S.ready x hx _ hid hh] at hunk; cases hunk
  have hrow : ∀ x ∈ s.did, ∀ y, y < 32 → hangB s.graph x y = hangB (s.graph.learn f.id.toNat f.deps) x y := fun x hx y _ => learn_row (S.sorted.lt x hx) (hno x hx) y
  have ed : (s.placed sh f).did = s.did := rfl
  refine ⟨by rw [graph_placed, ed]; exact S.sorted.later hrow, fun x hx d hd hxd => ?_⟩
  rw [graph_placed] at hxd ⊢
  rw [ed] at hx
  rw [← hrow x hx d hd] at hxd
  have := S.ready x hx d hd hxd
  show upd s.graph.known f.id.toNat true d = true
  unfold upd
  split
  · rfl
  · exact this
theorem sort_commit {s : NodeL} (h : GoodN s) (S : SortN s) (sh : Int) {f : FrameL} (hf : goodL f = 0) (hk : f.kind = 3) : SortN (s.commit sh f) := by
  unfold NodeL.commit
  split
  · rename_i e; exact sort_settle (good_placed h sh hf hk e) (sort_placed S sh hf e) sh
  · exact S
theorem sort_zero : SortN zeroN := ⟨sorted_nil _, by simp [zeroN, NodeL.did]⟩

end Go.Proofs.Ytgdkjjmnoikhdab
