/-
  A node behind a pointer: its lists lie behind it, the order is a row of its own; frames whose lists lie ahead of it; lists of frames.
-/
import Derived.Test.YtgdkjjmnoikhdabNAhead
namespace Go.Proofs.Ytgdkjjmnoikhdab
open Go.RowKit

def Okb (c : Nat) (nv : Nat → Value) (b : Nat) : Prop := c + 2 < b ∧ (nv 192).ownBlock ≠ some b
structure NodeAt (c : Nat) (w : World) (nv : Nat → Value) (s : NodeL) : Prop where
  blk : BlkAt 201 w c nv
  node : NodeE (Okb c nv) w nv s
  room : c + 2 < w.heap.size
  order : w.ownsRow (c + 3) 3 1 (nv 192) s.order.length (intCells s.order)
  hot : ∀ i, i < 32 → ∀ f, f = 4 ∨ f = 5 → ∀ a cap, nv (i * 6 + f) = .slice a 0 cap → cap = 0
theorem NodeAt.lt {c : Nat} {w : World} {nv : Nat → Value} {s : NodeL} (h : NodeAt c w nv s) : c < w.heap.size := h.blk.lt
theorem NodeAt.later {c : Nat} {w w' : World} {nv : Nat → Value} {s : NodeL} (h : NodeAt c w nv s) (hb : Below w.heap.size w w') : NodeAt c w' nv s :=
  ⟨h.blk.later hb h.lt, h.node.later (SameOn.of_size hb), Nat.lt_of_lt_of_le h.room hb.size, own_same h.order (fun k hk => hb.block k (World.ownsRow.lt h.order k hk).2), h.hot⟩
theorem NodeAt.drew {c : Nat} {w : World} {nv : Nat → Value} {s : NodeL} (h : NodeAt c w nv s) : NodeAt c w.drew nv s := h.later (Below.refl _ _).drew
theorem NodeAt.cState {c : Nat} {w : World} {nv : Nat → Value} {s : NodeL} (h : NodeAt c w nv s) {m : Nat} (hm : m < 32) : w.cell? ⟨c, m * 6, none⟩ = some (.int .i64 (s.ent m).state) := by
  rw [h.blk.cell (by omega), (h.node.ent m hm).state]
theorem NodeAt.cI {c : Nat} {w : World} {nv : Nat → Value} {s : NodeL} (h : NodeAt c w nv s) {m : Nat} (hm : m < 32) (f : Nat) (h2 : 2 ≤ f) (hf : f < 6) :
    ∃ a cap, w.cell? ⟨c, m * 6 + f, none⟩ = some (.slice a ((s.ent m).nums f).length cap) ∧ SlInts w a cap ((s.ent m).nums f) ∧ ((s.ent m).nums f).length * 8 ≤ 140737488355328 := by
  have hv := (h.node.ent m hm).get f hf
  unfold fieldOK at hv
  rw [if_neg (by omega), if_neg (by omega)] at hv
  obtain ⟨a, cap, e, hs⟩ := hv.sl
  refine ⟨a, cap, by rw [h.blk.cell (by omega), e], hs, ?_⟩
  obtain ⟨_, _, _, _, hl, _⟩ := hv
  exact hl
theorem NodeAt.cO {c : Nat} {w : World} {nv : Nat → Value} {s : NodeL} (h : NodeAt c w nv s) {m : Nat} (hm : m < 32) :
    ∃ a cap, w.cell? ⟨c, m * 6 + 1, none⟩ = some (.slice a (s.ent m).ops.length cap) ∧ SlOps w a cap (s.ent m).ops ∧ (s.ent m).ops.length * 24 ≤ 140737488355328 := by
  have hv := (h.node.ent m hm).ops
  obtain ⟨a, cap, e, hs⟩ := hv.sl
  refine ⟨a, cap, by rw [h.blk.cell (by omega), e], hs, ?_⟩
  obtain ⟨_, _, _, _, hl, _⟩ := hv
  exact hl
theorem NodeAt.fr {c : Nat} {w : World} {nv : Nat → Value} {s : NodeL} (h : NodeAt c w nv s) (i : Nat) : w.frozen? ⟨c, i, none⟩ = false := h.blk.frozen i
theorem NodeAt.notC {c : Nat} {w : World} {nv : Nat → Value} {s : NodeL} (h : NodeAt c w nv s) {k : Nat} (hk : (nv 192).ownBlock = some k) : c < k := by have := (World.ownsRow.lt h.order k hk).1; omega

theorem okb_put (c : Nat) (nv : Nat → Value) {m f : Nat} (hm : m < 32) (hf : f < 6) (v : Value) : Okb c (fun i => if i = m * 6 + f then v else nv i) = Okb c nv := by
  funext b
  unfold Okb
  show (c + 2 < b ∧ (if 192 = m * 6 + f then v else nv 192).ownBlock ≠ some b) = _
  rw [if_neg (by omega)]
/-- All up to the two boxes behind a node's is as it was, but its own. -/
structure Near (c : Nat) (w w' : World) : Prop where
  os : w'.os = w.os
  tape : w'.tape = w.tape
  output : w'.output = w.output
  size : w.heap.size ≤ w'.heap.size
  block : ∀ k, k < c + 3 → k ≠ c → w'.heap[k]? = w.heap[k]?
theorem Near.trans {c : Nat} {a b d : World} (h : Near c a b) (k : Near c b d) : Near c a d :=
  ⟨k.os.trans h.os, k.tape.trans h.tape, k.output.trans h.output, Nat.le_trans h.size k.size, fun i hi hc => (k.block i hi hc).trans (h.block i hi hc)⟩
theorem near_of {c B : Nat} {w w' : World} (h : Below B w w') (hB : c + 3 ≤ B) : Near c w w' := ⟨h.os, h.tape, h.output, h.size, fun k hk _ => h.block k (by omega)⟩
theorem Near.setCell {c : Nat} {a w : World} (h : Near c a w) {o : Nat} (u : Value) : Near c a (w.setCell ⟨c, o, none⟩ u) :=
  h.trans ⟨rfl, rfl, rfl, by simp [World.setCell], fun k _ hc => Below.heap_setCell _ _ _ _ hc⟩
theorem Near.drew {c : Nat} {a w : World} (h : Near c a w) : Near c a w.drew := ⟨h.os, h.tape, h.output, h.size, h.block⟩
theorem Near.below {c : Nat} {w w' : World} (h : Near c w w') : Below c w w' := ⟨h.os, h.tape, h.output, h.size, fun k hk => h.block k (by omega) (by omega)⟩
/-- One cell of one entry is written. -/
theorem NodeAt.put {c : Nat} {w : World} {nv : Nat → Value} {s : NodeL} (h : NodeAt c w nv s) {m f : Nat} (hm : m < 32) (hf : f < 6) {v : Value} (e' : EntryL) (hv : fieldOK (Okb c nv) w e' f v) (hh : f = 4 ∨ f = 5 → ∀ a cap, v = .slice a 0 cap → cap = 0)
    (hag : ∀ g, g < 6 → g ≠ f → fieldOK (Okb c nv) w (s.ent m) g (nv (m * 6 + g)) → fieldOK (Okb c nv) w e' g (nv (m * 6 + g))) :
    NodeAt c (w.setCell ⟨c, m * 6 + f, none⟩ v) (fun i => if i = m * 6 + f then v else nv i) ⟨upd s.ent m e', s.order, s.vals⟩ := by
  have e192 : (if 192 = m * 6 + f then v else nv 192) = nv 192 := if_neg (by omega)
  have hok : Okb c (fun i => if i = m * 6 + f then v else nv i) = Okb c nv := by
    funext b
    unfold Okb
    show (c + 2 < b ∧ (if 192 = m * 6 + f then v else nv 192).ownBlock ≠ some b) = _
    rw [e192]
  refine ⟨h.blk.put _ _, ?_, by simp [World.setCell]; exact h.room, ?_, ?_⟩
  · rw [hok]
    have h1 : NodeE (Okb c nv) w (fun i => if i = m * 6 + f then v else nv i) ⟨upd s.ent m e', s.order, s.vals⟩ := by
      refine h.node.change (fun g hg => ?_) (fun i _ hi _ => ?_) hm s.order
      · show fieldOK (Okb c nv) w e' g (if m * 6 + g = m * 6 + f then v else nv (m * 6 + g))
        by_cases e : g = f
        · subst e; rw [if_pos rfl]; exact hv
        · rw [if_neg (by omega)]; exact hag g hg e ((h.node.ent m hm).get g hg)
      · show (if i = m * 6 + f then v else nv i) = nv i
        rw [if_neg (by omega)]
    exact h1.later (fun b _ hb => Below.heap_setCell _ _ _ _ (show b ≠ c by have := hb.1; omega))
  · show World.ownsRow _ _ _ _ (if 192 = m * 6 + f then v else nv 192) _ _
    rw [e192]
    exact own_put h.order (by omega)
  · intro i hi g hg a cap e
    have e' : (if i * 6 + g = m * 6 + f then v else nv (i * 6 + g)) = .slice a 0 cap := e
    by_cases e2 : i * 6 + g = m * 6 + f
    · rw [if_pos e2] at e'
      exact hh (by omega) a cap e'
    · rw [if_neg e2] at e'
      exact h.hot i hi g hg a cap e'

/-- A node's lists behind B, as separate leaves them, put into a block ahead of them. -/
theorem Apart.at {B c : Nat} {w : World} {nv : Nat → Value} {s : NodeL} (h : Apart B w nv s) (hc : c + 2 < B) (hB : B ≤ w.heap.size) (hb : BlkAt 201 w c nv) : NodeAt c w nv s :=
  ⟨hb, h.node.mono (fun b _ hb => ⟨by omega, hb.2⟩), by omega, own_mono h.order (by omega), fun i hi f hf a cap e => h.hot (i * 6 + f) (by omega) (by omega) a cap e⟩

/-- A frame whose lists lie below B. -/
def FrameB (B : Nat) (w : World) (v : Value) (f : FrameL) : Prop := ∃ a3 c3 a4 c4 a5 c5 a6 c6,
  v = .agg #[.int .i64 f.kind, .int .i64 f.node, .int .i64 f.id, .slice a3 f.ops.length c3, .slice a4 f.deps.length c4, .slice a5 f.ats.length c5, .slice a6 f.vals.length c6] ∧
  (SlOps w a3 c3 f.ops ∧ OpsIn (· < B) w a3 f.ops) ∧ (SlInts w a4 c4 f.deps ∧ IntsIn (· < B) w a4 f.deps) ∧ (SlInts w a5 c5 f.ats ∧ IntsIn (· < B) w a5 f.ats) ∧ (SlInts w a6 c6 f.vals ∧ IntsIn (· < B) w a6 f.vals)
theorem FrameV.b {w : World} {v : Value} {f : FrameL} (h : FrameV w v f) : FrameB w.heap.size w v f := by
  obtain ⟨a3, c3, a4, c4, a5, c5, a6, c6, e, h3, h4, h5, h6⟩ := h
  exact ⟨a3, c3, a4, c4, a5, c5, a6, c6, e, ⟨h3, h3.1⟩, ⟨h4, h4.1⟩, ⟨h5, h5.1⟩, ⟨h6, h6.1⟩⟩
theorem FrameB.v {B : Nat} {w : World} {v : Value} {f : FrameL} (h : FrameB B w v f) : FrameV w v f := by
  obtain ⟨a3, c3, a4, c4, a5, c5, a6, c6, e, h3, h4, h5, h6⟩ := h
  exact ⟨a3, c3, a4, c4, a5, c5, a6, c6, e, h3.1, h4.1, h5.1, h6.1⟩
theorem slI_later {B : Nat} {w w' : World} {a : Option Addr} {cap : Nat} {zs : List Int} (h : SlInts w a cap zs ∧ IntsIn (· < B) w a zs) (hb : Below B w w') : SlInts w' a cap zs ∧ IntsIn (· < B) w' a zs := by
  have h2 := h.2.later (w' := w') (fun k _ hk => hb.block k hk)
  exact ⟨⟨h2.at, h.1.2⟩, h2⟩
theorem slO_later {B : Nat} {w w' : World} {a : Option Addr} {cap : Nat} {zs : List OpL} (h : SlOps w a cap zs ∧ OpsIn (· < B) w a zs) (hb : Below B w w') : SlOps w' a cap zs ∧ OpsIn (· < B) w' a zs := by
  have h2 := h.2.later (w' := w') (fun k _ hk => hb.block k hk)
  exact ⟨⟨h2.at, h.1.2⟩, h2⟩
theorem FrameB.later {B : Nat} {w w' : World} {v : Value} {f : FrameL} (h : FrameB B w v f) (hb : Below B w w') : FrameB B w' v f := by
  obtain ⟨a3, c3, a4, c4, a5, c5, a6, c6, e, h3, h4, h5, h6⟩ := h
  exact ⟨a3, c3, a4, c4, a5, c5, a6, c6, e, slO_later h3 hb, slI_later h4 hb, slI_later h5 hb, slI_later h6 hb⟩
theorem FrameB.mono {B B' : Nat} {w : World} {v : Value} {f : FrameL} (h : FrameB B w v f) (hB : B ≤ B') : FrameB B' w v f := by
  obtain ⟨a3, c3, a4, c4, a5, c5, a6, c6, e, h3, h4, h5, h6⟩ := h
  have m : ∀ k, k < w.heap.size → k < B → k < B' := fun k _ (h : k < B) => by omega
  exact ⟨a3, c3, a4, c4, a5, c5, a6, c6, e, ⟨h3.1, h3.2.mono m⟩, ⟨h4.1, h4.2.mono m⟩, ⟨h5.1, h5.2.mono m⟩, ⟨h6.1, h6.2.mono m⟩⟩

/-- A frame whose lists lie from B on. -/
def FrameG (B : Nat) (w : World) (v : Value) (f : FrameL) : Prop := ∃ a3 c3 a4 c4 a5 c5 a6 c6,
  v = .agg #[.int .i64 f.kind, .int .i64 f.node, .int .i64 f.id, .slice a3 f.ops.length c3, .slice a4 f.deps.length c4, .slice a5 f.ats.length c5, .slice a6 f.vals.length c6] ∧
  (SlOps w a3 c3 f.ops ∧ OpsIn (B ≤ ·) w a3 f.ops) ∧ (SlInts w a4 c4 f.deps ∧ IntsIn (B ≤ ·) w a4 f.deps) ∧ (SlInts w a5 c5 f.ats ∧ IntsIn (B ≤ ·) w a5 f.ats) ∧ (SlInts w a6 c6 f.vals ∧ IntsIn (B ≤ ·) w a6 f.vals)
theorem FrameG.v {B : Nat} {w : World} {v : Value} {f : FrameL} (h : FrameG B w v f) : FrameV w v f := by
  obtain ⟨a3, c3, a4, c4, a5, c5, a6, c6, e, h3, h4, h5, h6⟩ := h
  exact ⟨a3, c3, a4, c4, a5, c5, a6, c6, e, h3.1, h4.1, h5.1, h6.1⟩
theorem slI_same {ok : Nat → Prop} {w w' : World} {a : Option Addr} {cap : Nat} {zs : List Int} (h : SlInts w a cap zs ∧ IntsIn ok w a zs) (hb : SameOn ok w w') : SlInts w' a cap zs ∧ IntsIn ok w' a zs := by
  have h2 := h.2.later hb
  exact ⟨⟨h2.at, h.1.2⟩, h2⟩
theorem slO_same {ok : Nat → Prop} {w w' : World} {a : Option Addr} {cap : Nat} {zs : List OpL} (h : SlOps w a cap zs ∧ OpsIn ok w a zs) (hb : SameOn ok w w') : SlOps w' a cap zs ∧ OpsIn ok w' a zs := by
  have h2 := h.2.later hb
  exact ⟨⟨h2.at, h.1.2⟩, h2⟩
theorem FrameG.same {B : Nat} {w w' : World} {v : Value} {f : FrameL} (h : FrameG B w v f) (hb : SameOn (B ≤ ·) w w') : FrameG B w' v f := by
  obtain ⟨a3, c3, a4, c4, a5, c5, a6, c6, e, h3, h4, h5, h6⟩ := h
  exact ⟨a3, c3, a4, c4, a5, c5, a6, c6, e, slO_same h3 hb, slI_same h4 hb, slI_same h5 hb, slI_same h6 hb⟩
theorem FrameG.mono {B B' : Nat} {w : World} {v : Value} {f : FrameL} (h : FrameG B w v f) (hB : B' ≤ B) : FrameG B' w v f := by
  obtain ⟨a3, c3, a4, c4, a5, c5, a6, c6, e, h3, h4, h5, h6⟩ := h
  have m : ∀ k, k < w.heap.size → B ≤ k → B' ≤ k := fun k _ (h : B ≤ k) => by omega
  exact ⟨a3, c3, a4, c4, a5, c5, a6, c6, e, ⟨h3.1, h3.2.mono m⟩, ⟨h4.1, h4.2.mono m⟩, ⟨h5.1, h5.2.mono m⟩, ⟨h6.1, h6.2.mono m⟩⟩
theorem slI_nil (ok : Nat → Prop) (w : World) : SlInts w none 0 [] ∧ IntsIn ok w none [] := ⟨⟨Or.inl rfl, Nat.zero_le _, Nat.le_refl _, fun _ => ⟨rfl, rfl⟩⟩, Or.inl rfl⟩
theorem slO_nil (ok : Nat → Prop) (w : World) : SlOps w none 0 [] ∧ OpsIn ok w none [] := ⟨⟨Or.inl rfl, Nat.zero_le _, Nat.le_refl _, fun _ => ⟨rfl, rfl⟩⟩, Or.inl rfl⟩
theorem slI_own {B b0 : Nat} {w : World} {a : Option Addr} {cap : Nat} {zs : List Int} (h : w.ownsRow b0 3 1 (.slice a zs.length cap) zs.length (intCells zs)) (hB : B ≤ b0) : SlInts w a cap zs ∧ IntsIn (B ≤ ·) w a zs := by
  have h1 := SlInts.of_owns h
  refine ⟨h1, ?_⟩
  rcases h1.1 with e | ⟨b, off, rfl, _, hc⟩
  · exact Or.inl e
  · exact Or.inr ⟨b, off, rfl, Nat.le_trans hB (World.ownsRow.lt h b rfl).1, hc⟩

/-- A list of frames that the call made. -/
def FramesV (B : Nat) (w : World) (v : Value) (fs : List FrameL) : Prop := ∃ css : List (List Value), css.length = fs.length ∧ w.ownsRow B 43 7 v fs.length css.flatten ∧
  (∀ i (h : i < fs.length), (css.getD i []).length = 7 ∧ FrameG B w (.agg (css.getD i []).toArray) fs[i])
theorem FramesV.same {B : Nat} {w w' : World} {v : Value} {fs : List FrameL} (h : FramesV B w v fs) (hb : SameOn (B ≤ ·) w w') : FramesV B w' v fs := by
  obtain ⟨css, h1, h2, h3⟩ := h
  exact ⟨css, h1, own_same h2 (fun k hk => hb k (World.ownsRow.lt h2 k hk).2 (World.ownsRow.lt h2 k hk).1), fun i hi => ⟨(h3 i hi).1, (h3 i hi).2.same hb⟩⟩
theorem FramesV.later {B : Nat} {w w' : World} {v : Value} {fs : List FrameL} (h : FramesV B w v fs) (hb : Below w.heap.size w w') : FramesV B w' v fs := h.same (SameOn.of_size hb)
theorem FramesV.mono {B B' : Nat} {w : World} {v : Value} {fs : List FrameL} (h : FramesV B w v fs) (hB : B' ≤ B) : FramesV B' w v fs := by
  obtain ⟨css, h1, h2, h3⟩ := h
  exact ⟨css, h1, own_mono h2 hB, fun i hi => ⟨(h3 i hi).1, (h3 i hi).2.mono hB⟩⟩
theorem FramesV.nil (B : Nat) (w : World) : FramesV B w (.slice none 0 0) [] := ⟨[], rfl, World.ownsRow_nil _ _ _ _, fun _ h => by simp at h⟩

/-- What a frame that is good is like. -/
theorem good_frame {f : FrameL} (h : goodL f = 0) : (0 ≤ f.id ∧ f.id < 32) ∧ (0 ≤ f.node ∧ f.node < 6) := by
  unfold goodL at h
  split at h
  · omega
  · split at h
    · omega
    · omega

end Go.Proofs.Ytgdkjjmnoikhdab
