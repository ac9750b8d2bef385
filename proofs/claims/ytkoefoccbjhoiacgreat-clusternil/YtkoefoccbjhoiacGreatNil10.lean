/-
  Plain mathematics of the whole, 11: the cluster act by act, part 2: every act keeps all that holds; a node that goes down and comes up is as it was.
  Plain mathematics of the whole, 12: the acts, one by one, and what holds behind any list of them.
  Plain mathematics of the whole, 16: where all are up, and nothing is lost: what is delivered is taken.
  Plain mathematics of the whole, 17: what is sent again, by weight; a phase of one transaction.
  Plain mathematics of the whole, 18: a phase of one transaction: what is delivered, one by one.
  Plain mathematics of the whole, 19: a phase of one transaction: an answer is delivered; the end of a phase.
  Plain mathematics of the whole, 13: copies of a shard that have executed the same are alike.
  Plain mathematics of the whole, 20: a phase begins; behind a round all are Executed at all nodes.
  Plain mathematics of the whole, 21: how long logs are, and how much is under way, behind every act.
-/
import Derived.Test.YtkoefoccbjhoiacGreatNil9
import Derived.Test.YtkoefoccbjhoiacGreatNil8
namespace Go.Proofs.YtkoefoccbjhoiacGreat
open Go.RowKit

theorem rc_inj {s s' t t' : List UInt8} (h : RecOk s) (h' : RecOk s') (e : rc s ++ t = rc s' ++ t') : s = s' ∧ t = t' := by
  obtain ⟨a, b, e1, e2⟩ := hd_get s h.2
  obtain ⟨a', b', e1', e2'⟩ := hd_get s' h'.2
  unfold rc at e
  rw [e1, e1'] at e
  simp only [List.cons_append, List.nil_append, List.cons.injEq] at e
  obtain ⟨rfl, rfl, e⟩ := e
  exact List.append_inj e (by omega)
/-- A log is read in one way. -/
theorem recs_once : ∀ {rs rs' : List (List UInt8)} {t t' : List UInt8}, (∀ s ∈ rs, RecOk s) → (∀ s ∈ rs', RecOk s) → NoRec t → NoRec t' → recs rs ++ t = recs rs' ++ t' → rs = rs' ∧ t = t'
  | [], [], t, t', _, _, _, _, e => ⟨rfl, by simpa [recs_nil] using e⟩
  | [], s' :: rs', t, t', _, h', n, _, e => by
    rw [recs_nil, List.nil_append, recs_cons, List.append_assoc] at e
    exact absurd e (n s' _ (h' s' (by simp)))
  | s :: rs, [], t, t', h, _, _, n', e => by
    rw [recs_nil, List.nil_append, recs_cons, List.append_assoc] at e
    exact absurd e.symm (n' s _ (h s (by simp)))
  | s :: rs, s' :: rs', t, t', h, h', n, n', e => by
    rw [recs_cons, recs_cons, List.append_assoc, List.append_assoc] at e
    obtain ⟨e0, e1⟩ := rc_inj (h s (by simp)) (h' s' (by simp)) e
    obtain ⟨e2, e3⟩ := recs_once (fun x hx => h x (by simp [hx])) (fun x hx => h' x (by simp [hx])) n n' e1
    exact ⟨by rw [e0, e2], e3⟩

/-- P7.7: a node goes down. -/
def CluL.crash (c : CluL) (n : Nat) : CluL := { c with up := upd c.up n false, st := upd c.st n zeroN, tear := upd c.tear n none }
def CluL.setTear (c : CluL) (n : Nat) (m : Int) : CluL := { c with tear := upd c.tear n (some m) }
/-- It comes up: rs is what Read says of its log. -/
def CluL.rise (c : CluL) (n : Nat) (rs : List (List UInt8)) : CluL := { c with up := upd c.up n true, log := upd c.log n (recs rs), st := upd c.st n (replayN (n : Int) rs).1 }
theorem InvM.crash {c : CluL} {S : Sys} (h : InvM c S) (k : Nat) : InvM (c.crash k) S := by
  refine ⟨h.t, h.u, h.good, h.bound, h.net, h.cs, fun n hn => ?_, h.cnt⟩
  by_cases e : n = k
  · subst e
    obtain ⟨rs, t, l1, l2, l3, l4, _⟩ := h.log n hn
    exact ⟨rs, t, l1, l2, l3, l4, fun e => (by have e : upd c.up n false n = true := e; rw [upd_same] at e; cases e), fun _ => ⟨upd_same _ _ _, upd_same _ _ _⟩⟩
  · exact log_other (h.log n hn) e rfl rfl (upd_other _ _ e) (upd_other _ _ e) (upd_other _ _ e)
theorem InvM.setTear {c : CluL} {S : Sys} (h : InvM c S) {k : Nat} (hu : c.up k = true) (m : Int) : InvM (c.setTear k m) S := by
  refine ⟨h.t, h.u, h.good, h.bound, h.net, h.cs, fun n hn => ?_, h.cnt⟩
  by_cases e : n = k
  · subst e
    obtain ⟨rs, t, l1, l2, l3, l4, l5, _⟩ := h.log n hn
    exact ⟨rs, t, l1, l2, l3, l4, l5, fun e => (by have e : c.up n = false := e; rw [hu] at e; cases e)⟩
  · exact log_other (h.log n hn) e rfl rfl rfl rfl (upd_other _ _ e)
/-- TopWakes: what its log says is what it was. -/
theorem InvM.wakes {c : CluL} {S : Sys} (h : InvM c S) {n : Nat} (hn : n < 6) {rs : List (List UInt8)} {t : List UInt8} (hr : ∀ s ∈ rs, RecOk s) (ht : NoRec t) (el : c.log n = recs rs ++ t) :
    replayN (n : Int) rs = (S.B n, 0) ∧ (c.up n = true → t = [] ∧ c.st n = S.B n) := by
  obtain ⟨rs', t', l1, l2, l3, l4, l5, _⟩ := h.log n hn
  rw [l1] at el
  obtain ⟨rfl, rfl⟩ := recs_once l2 hr l3 ht el
  refine ⟨?_, l5⟩
  unfold replayN
  rw [if_neg, l4]
  unfold nodeB
  simp
  omega
theorem InvM.rise {c : CluL} {S : Sys} (h : InvM c S) {k : Nat} (hk : k < 6) {rs : List (List UInt8)} {t : List UInt8} (hr : ∀ s ∈ rs, RecOk s) (ht : NoRec t) (el : c.log k = recs rs ++ t) : InvM (c.rise k rs) S := by
  have hw := (h.wakes hk hr ht el).1
  refine ⟨h.t, h.u, h.good, h.bound, h.net, h.cs, fun n hn => ?_, h.cnt⟩
  by_cases e : n = k
  · subst e
    refine ⟨rs, [], by rw [List.append_nil]; exact upd_same _ _ _, hr, no_nil, ?_, fun _ => ⟨rfl, ?_⟩, fun e => ?_⟩
    · unfold replayN at hw
      split at hw
      · exact absurd (congrArg Prod.snd hw) (show (2 : Int) ≠ 0 by decide)
      · exact hw
    · show upd c.st n _ n = _
      rw [upd_same, hw]
    · have e : upd c.up n true n = false := e
      rw [upd_same] at e; cases e
  · exact log_other (h.log n hn) e rfl (upd_other _ _ e) (upd_other _ _ e) (upd_other _ _ e) rfl

/-- Something under way is lost. -/
theorem InvM.less {c : CluL} {S : Sys} (h : InvM c S) {net : List (List UInt8)} (hs : ∀ t ∈ net, t ∈ c.net) : InvM { c with net := net } S :=
  ⟨h.t, h.u, h.good, h.bound, fun t ht => h.net t (hs t ht), h.cs, h.log, h.cnt⟩
/-- P7.5: an answer comes to who has the transaction. -/
def CluL.answer (c : CluL) (f : FrameL) : CluL × Int :=
  ({ c with cs := upd c.cs f.id.toNat (takeC (c.cs f.id.toNat) f.id f).1, net := sentTo c.net (takeC (c.cs f.id.toNat) f.id f).2.1 }, (takeC (c.cs f.id.toNat) f.id f).2.2)
theorem upd_back {C : Nat → CaseL} {i : Nat} : upd C i (C i) = C := by
  funext j
  unfold upd
  split
  · rename_i e; rw [e]
  · rfl
theorem log_same {S T : Sys} {c d : CluL} {n : Nat} (h : LogIs S c n) (hB : T.B n = S.B n) (hl : d.log n = c.log n) (hu : d.up n = c.up n) (hs : d.st n = c.st n) (ht : d.tear n = c.tear n) : LogIs T d n :=
  log_other (k := n + 1) h (by omega) hB hl hu hs ht
theorem InvM.answer {c : CluL} {S : Sys} (h : InvM c S) {f : FrameL} (hM : S.M f) : ∃ T, InvM (c.answer f).1 T ∧ GrowsS S T := by
  by_cases h0 : (takeC (S.C f.id.toNat) f.id f).2.2 = 0
  · obtain ⟨_, hr2⟩ := h.t.s.rng f hM
    refine ⟨⟨S.B, upd S.C f.id.toNat (takeC (S.C f.id.toNat) f.id f).1, fun g => S.M g ∨ g ∈ (takeC (S.C f.id.toNat) f.id f).2.1⟩, ⟨h.t.answer hM h0, InvU.answer h.t h.u hM h0, fun g hg => ?_, h.bound, fun t ht => ?_, ?_, fun n hn => log_same (h.log n hn) rfl rfl rfl rfl rfl, ⟨h.cnt.1, fun i hi => ?_⟩⟩,
      ⟨fun a b ha hb L => L.answer h.t ha hb f _, fun n _ => ⟨[], by simp⟩⟩⟩
    · rcases hg with hg | hg
      · exact h.good g hg
      · exact again_good (takeC_sends hg).1
    · have ht : t ∈ sentTo c.net (takeC (c.cs f.id.toNat) f.id f).2.1 := ht
      rw [h.cs] at ht
      rcases mem_sent _ _ _ ht with ht | ⟨g, hg1, hg2⟩
      · obtain ⟨g, hg1, hg2⟩ := h.net t ht
        exact ⟨g, Or.inl hg1, hg2⟩
      · exact ⟨g, Or.inr hg1, hg2⟩
    · show upd c.cs f.id.toNat (takeC (c.cs f.id.toNat) f.id f).1 = _
      rw [h.cs]
    · show _ ↔ i < c.cnt
      rw [← h.cnt.2 i hi]
      show (upd S.C f.id.toNat (takeC (S.C f.id.toNat) f.id f).1 i).begun = true ↔ _
      rcases upd_two S.C f.id.toNat (takeC (S.C f.id.toNat) f.id f).1 i with ⟨e1, e2⟩ | ⟨_, e2⟩
      · rw [e2, e1]
        have hb := (takeC_begun h0).1
        have := (res_step (id := f.id) (f := f) (h.t.case _ (by omega) hb)).1.begun
        rw [this, hb]
      · rw [e2]
  · rcases takeC_cases (S.C f.id.toNat) f.id f with ⟨_, e1, e2⟩ | ⟨e, _⟩ | ⟨e, _⟩
    · refine ⟨S, ?_, GrowsS.refl S⟩
      have : (c.answer f).1 = c := by
        unfold CluL.answer
        rw [h.cs, e1, e2, upd_back]
        show (⟨c.up, c.st, c.log, c.tear, S.C, c.cnt, c.net⟩ : CluL) = c
        rw [← h.cs]
      rw [this]
      exact h
    · exact absurd e h0
    · exact absurd e h0
/-- P7.4. -/
theorem InvM.again {c : CluL} {S : Sys} (h : InvM c S) {i : Nat} (hi : i < 32) : ∃ T, InvM { c with net := sentTo c.net (againC (c.cs i) (i : Int)) } T ∧ GrowsS S T := by
  refine ⟨⟨S.B, S.C, fun g => S.M g ∨ g ∈ againC (S.C i) (i : Int)⟩, ⟨h.t.again hi, h.u.again i, fun g hg => ?_, h.bound, fun t ht => ?_, h.cs, fun n hn => log_same (h.log n hn) rfl rfl rfl rfl rfl, h.cnt⟩, ⟨fun a b _ _ L => L.sent _, fun n _ => ⟨[], by simp⟩⟩⟩
  · rcases hg with hg | hg
    · exact h.good g hg
    · exact again_good hg
  · have ht : t ∈ sentTo c.net (againC (c.cs i) (i : Int)) := ht
    rw [h.cs] at ht
    rcases mem_sent _ _ _ ht with ht | ⟨g, hg1, hg2⟩
    · obtain ⟨g, hg1, hg2⟩ := h.net t ht
      exact ⟨g, Or.inl hg1, hg2⟩
    · exact ⟨g, Or.inr hg1, hg2⟩
end Go.Proofs.YtkoefoccbjhoiacGreat

namespace Go.Proofs.YtkoefoccbjhoiacGreat
open Go.RowKit

structure ActL where
  kind : Int
  n : Int
  m : Int
  ops : List OpL
structure ReplyL where
  code : Int
  n : Int
  vals : List Int
/-- P3.2: what Read says of a log. -/
def readGo : Nat → List UInt8 → List (List UInt8)
  | n + 1, a :: b :: r => if 0 < a.toNat * 256 + b.toNat ∧ a.toNat * 256 + b.toNat ≤ 400 ∧ a.toNat * 256 + b.toNat ≤ r.length then r.take (a.toNat * 256 + b.toNat) :: readGo n (r.drop (a.toNat * 256 + b.toNat)) else []
  | _, _ => []
def readOf (l : List UInt8) : List (List UInt8) := readGo l.length l
/-- P7.5: a text comes where it is sent. -/
def CluL.bring (c : CluL) (t : List UInt8) : CluL × ReplyL :=
  if (decL t).kind = 1 ∨ (decL t).kind = 3 then ((come c (decL t)).1, if (come c (decL t)).2 = 0 then ⟨0, (decL t).id, []⟩ else ⟨(come c (decL t)).2, 0, []⟩)
  else ((c.answer (decL t)).1, if (c.answer (decL t)).2 = 0 then ⟨0, (decL t).id, (resultC ((c.answer (decL t)).1.cs (decL t).id.toNat)).1⟩ else ⟨(c.answer (decL t)).2, 0, []⟩)
def CluL.without (c : CluL) (k : Nat) : CluL := { c with net := c.net.eraseIdx k }
/-- P7.2 to P7.7, but for how many acts were done. -/
def doA (c : CluL) (a : ActL) : CluL × ReplyL :=
  if a.kind = 1 then
    if 32 ≤ c.cnt then (c, ⟨5, 0, []⟩)
    else if (beginC (c.cnt : Int) a.ops).2.2 ≠ 0 then (c, ⟨(beginC (c.cnt : Int) a.ops).2.2, 0, []⟩)
    else ({ c with cs := upd c.cs c.cnt (beginC (c.cnt : Int) a.ops).1, cnt := c.cnt + 1, net := sentTo c.net (beginC (c.cnt : Int) a.ops).2.1 }, ⟨0, (c.cnt : Int), []⟩)
  else if a.kind = 2 ∨ a.kind = 3 ∨ a.kind = 4 then
    if a.n < 0 ∨ (c.net.length : Int) ≤ a.n then (c, ⟨4, 0, []⟩)
    else if a.kind = 4 then (c.without a.n.toNat, ⟨0, (decL (c.net.getD a.n.toNat [])).id, []⟩)
    else if a.kind = 2 then (c.without a.n.toNat).bring (c.net.getD a.n.toNat [])
    else c.bring (c.net.getD a.n.toNat [])
  else if a.kind = 5 then
    if a.n < 0 ∨ (c.cnt : Int) ≤ a.n then (c, ⟨4, 0, []⟩)
    else ({ c with net := sentTo c.net (againC (c.cs a.n.toNat) (a.n.toNat : Int)) }, ⟨0, a.n, (resultC (c.cs a.n.toNat)).1⟩)
  else if a.kind = 6 ∨ a.kind = 7 ∨ a.kind = 8 then
    if a.n < 0 ∨ 6 ≤ a.n ∨ (a.kind = 7 ∧ (a.m < 0 ∨ 400 < a.m)) then (c, ⟨2, 0, []⟩)
    else if a.kind = 8 then if c.up a.n.toNat = true then (c, ⟨6, 0, []⟩) else (c.rise a.n.toNat (readOf (c.log a.n.toNat)), ⟨0, 0, []⟩)
    else if c.up a.n.toNat = false then (c, ⟨6, 0, []⟩)
    else if a.kind = 6 then (c.crash a.n.toNat, ⟨0, 0, []⟩) else (c.setTear a.n.toNat a.m, ⟨0, 0, []⟩)
  else (c, ⟨3, 0, []⟩)
theorem InvM.bring {c : CluL} {S : Sys} (h : InvM c S) {t : List UInt8} (ht : ∃ f, S.M f ∧ t = encL f) : ∃ T, InvM (c.bring t).1 T ∧ GrowsS S T := by
  obtain ⟨f, hM, rfl⟩ := ht
  have e : decL (encL f) = f := (ok_put (h.good f hM)).2
  unfold CluL.bring
  rw [e]
  split
  · rename_i hk
    exact h.come hM hk
  · exact h.answer hM
end Go.Proofs.YtkoefoccbjhoiacGreat

namespace Go.Proofs.YtkoefoccbjhoiacGreat
open Go.RowKit

theorem sentTo_room : ∀ (l : List FrameL) (net : List (List UInt8)), net.length + l.length ≤ 60 → sentTo net l = net ++ l.map encL
  | [], net, _ => by simp [sentTo]
  | f :: l, net, h => by
    have h : net.length + (l.length + 1) ≤ 60 := h
    show sentTo (if net.length < 60 then net ++ [encL f] else net) l = _
    rw [if_pos (by omega), sentTo_room l _ (by rw [List.length_append, List.length_singleton]; omega)]
    simp
theorem take_ok {s : NodeL} {f : FrameL} (hg : GoodN s) (hn : 0 ≤ f.node ∧ f.node < 6) (hf : goodL f = 0) (hk : (f.kind = 1 ∧ touchesL f.ops (ofL f.node) = true) ∨ f.kind = 3) : (takeN s f.node f).2.2 = 0 := by
  have hb := goodNB_iff.2 hg
  unfold takeN
  rw [if_neg (by
    rintro (h | h | h | h)
    · rw [hb] at h; cases h
    · omega
    · omega
    · exact h rfl), if_neg (by rw [hf]; decide)]
  rcases hk with ⟨hk, ht⟩ | hk
  · rw [if_pos hk, if_neg (by rw [ht]; decide)]
  · rw [if_neg (by rw [hk]; decide), if_pos hk]
theorem takeC_ok {c : CaseL} {id : Int} {f : FrameL} (hg : goodCB c = true) (hb : c.begun = true) (hi : f.id = id) (ho : hasL c.deps id = false) (hf : goodL f = 0) (hk : f.kind ≠ 1 ∧ f.kind ≠ 3) : (takeC c id f).2.2 = 0 := by
  unfold takeC
  rw [if_neg (by
    rintro (h | h | h | h)
    · rw [hg] at h; cases h
    · rw [hb] at h; cases h
    · exact h hi
    · rw [ho] at h; cases h), if_neg (by rw [hf]; decide), if_neg (by
    rintro (h | h)
    · exact hk.1 h
    · exact hk.2 h)]
  split
  · split <;> rfl
  · split
    · rfl
    · split <;> rfl
theorem wErr_room {l : List UInt8} {f : FrameL} (hl : l.length ≤ 60000) (hf : goodL f = 0) : wErr l (encL f) = 0 := by
  obtain ⟨h1, h2⟩ := enc_len hf
  unfold wErr
  rw [if_neg (by omega), if_neg (by omega), if_neg (by omega)]
/-- What comes to a node that is up, with room in its log. -/
theorem come_ok {c : CluL} {S : Sys} (h : InvM c S) {f : FrameL} (hM : S.M f) (hk : f.kind = 1 ∨ f.kind = 3) (hu : c.up f.node.toNat = true) (ht : c.tear f.node.toNat = none) (hl : (c.log f.node.toNat).length ≤ 60000) :
    (takeN (S.B f.node.toNat) f.node f).2.2 = 0 ∧ come c f = ({ c with log := upd c.log f.node.toNat (c.log f.node.toNat ++ rc (encL f)), st := upd c.st f.node.toNat (takeN (S.B f.node.toNat) f.node f).1, net := sentTo c.net (takeN (S.B f.node.toNat) f.node f).2.1 }, 0) := by
  obtain ⟨hr1, _⟩ := h.t.s.rng f hM
  have hn6 : f.node.toNat < 6 := by omega
  have hg := h.good f hM
  obtain ⟨_, _, _, _, _, _, l5, _⟩ := h.log _ hn6
  have est := (l5 hu).2
  have h0 : (takeN (S.B f.node.toNat) f.node f).2.2 = 0 := take_ok (h.t.s.good _ hn6) hr1 hg (by
    rcases hk with hk | hk
    · exact Or.inl ⟨hk, h.u.ask f hM hk⟩
    · exact Or.inr hk)
  refine ⟨h0, ?_⟩
  have hw := wErr_room hl hg
  have ew : wOut (c.log f.node.toNat) (encL f) = c.log f.node.toNat ++ rc (encL f) := by unfold wOut; rw [if_pos hw]
  unfold Go.Proofs.YtkoefoccbjhoiacGreat.come
  rw [if_neg (by rw [hu]; decide), est, if_neg (by rw [h0]; decide), ht]
  simp only
  rw [if_neg (by rw [hw]; decide), ew]
theorem come_sys {c : CluL} {S : Sys} (h : InvM c S) {f : FrameL} (hM : S.M f) (hk : f.kind = 1 ∨ f.kind = 3) (hu : c.up f.node.toNat = true) (ht : c.tear f.node.toNat = none) (hl : (c.log f.node.toNat).length ≤ 60000) : InvM (come c f).1 (S.took f) := by
  obtain ⟨h0, e⟩ := come_ok h hM hk hu ht hl
  obtain ⟨hr1, _⟩ := h.t.s.rng f hM
  have hn6 : f.node.toNat < 6 := by omega
  have hnat : (f.node.toNat : Int) = f.node := by omega
  have hg := h.good f hM
  obtain ⟨rs, t, l1, l2, _, l4, l5, _⟩ := h.log _ hn6
  obtain ⟨rfl, est⟩ := l5 hu
  rw [List.append_nil] at l1
  rw [e]
  refine ⟨h.t.node hM hk h0, InvU.node h.t h.u hM hk h0, fun g hg => ?_, fun n hn => ?_, fun t ht => ?_, h.cs, fun n hn => ?_, h.cnt⟩
  · rcases hg with hg | hg
    · exact h.good g hg
    · exact (take_sends_good (h.bound _ hn6) g hg).1
  · show WithN (upd S.B f.node.toNat _ n)
    by_cases e : n = f.node.toNat
    · rw [e, upd_same]; exact with_take (h.bound _ hn6)
    · rw [upd_other _ _ e]; exact h.bound n hn
  · rcases mem_sent _ _ _ ht with ht | ⟨g, hg1, hg2⟩
    · obtain ⟨g, hg1, hg2⟩ := h.net t ht
      exact ⟨g, Or.inl hg1, hg2⟩
    · exact ⟨g, Or.inr hg1, hg2⟩
  · by_cases e : n = f.node.toNat
    · subst e
      have Bs : (S.took f).B f.node.toNat = (takeN (S.B f.node.toNat) f.node f).1 := upd_same _ _ _
      refine ⟨rs ++ [encL f], [], ?_, fun s hs => ?_, no_nil, ?_, fun _ => ⟨rfl, ?_⟩, fun e => ?_⟩
      · show upd c.log f.node.toNat _ f.node.toNat = _
        rw [upd_same, l1, recs_app, recs_one, List.append_nil]
      · rcases List.mem_append.1 hs with hs | hs
        · exact l2 s hs
        · rw [List.mem_singleton.1 hs]; exact enc_ok hg
      · rw [Bs]
        rw [hnat] at l4 ⊢
        exact replay_taken l4 h0
      · show upd c.st f.node.toNat _ f.node.toNat = _
        rw [upd_same, Bs]
      · have e : c.up f.node.toNat = false := e
        rw [hu] at e; cases e
    · exact log_other (h.log n hn) e (upd_other _ _ e) (upd_other _ _ e) rfl (upd_other _ _ e) rfl

end Go.Proofs.YtkoefoccbjhoiacGreat

namespace Go.Proofs.YtkoefoccbjhoiacGreat
open Go.RowKit

def wt (f : FrameL) : Nat := if f.kind = 1 then 2 else if f.kind = 3 then 3 else 1
def wts (F : List FrameL) : Nat := (F.map wt).sum
theorem wts_cons (f : FrameL) (F : List FrameL) : wts (f :: F) = wt f + wts F := by simp [wts]
theorem wts_app (F G : List FrameL) : wts (F ++ G) = wts F + wts G := by simp [wts]
theorem wt_pos (f : FrameL) : 1 ≤ wt f := by unfold wt; split <;> (try split) <;> omega
theorem wts_len : ∀ F : List FrameL, F.length ≤ wts F
  | [] => Nat.zero_le _
  | f :: F => by
    rw [wts_cons]
    have := wts_len F
    have := wt_pos f
    rw [List.length_cons]
    omega
def pend (c : CaseL) : Nat := if c.fixed = true then 0 else 19
theorem send_wt (c : CaseL) (id : Int) (n : Nat) : wts (c.send id n) ≤ if c.fixed = true then 3 else 2 := by
  unfold CaseL.send
  cases c.fixed
  · simp only [Bool.false_eq_true, if_false]
    split
    · rw [wts_cons]
      show 2 + 0 ≤ 2
      omega
    · exact Nat.zero_le _
  · simp only [if_true]
    split
    · rw [wts_cons]
      show 3 + 0 ≤ 3
      omega
    · exact Nat.zero_le _
theorem again_wt (c : CaseL) (id : Int) : wts (againC c id) ≤ if c.fixed = true then 18 else 12 := by
  unfold againC
  split
  · exact Nat.zero_le _
  · rw [show List.range 6 = [0, 1, 2, 3, 4, 5] from rfl]
    simp only [List.flatMap_cons, List.flatMap_nil, List.append_nil, wts_app]
    have h0 := send_wt c id 0
    have h1 := send_wt c id 1
    have h2 := send_wt c id 2
    have h3 := send_wt c id 3
    have h4 := send_wt c id 4
    have h5 := send_wt c id 5
    split at h0 <;> rename_i e
    · rw [if_pos e] at h1 h2 h3 h4 h5 ⊢
      omega
    · rw [if_neg e] at h1 h2 h3 h4 h5 ⊢
      omega
theorem again_open {c : CaseL} {id : Int} (hg : goodCB c = true) (hb : c.begun = true) (hi : 0 ≤ id ∧ id < 32) (ho : hasL c.deps id = false) : againC c id = (List.range 6).flatMap (c.send id) := by
  unfold againC
  rw [if_neg]
  rintro (h | h | h | h | h)
  · rw [hg] at h; cases h
  · rw [hb] at h; cases h
  · omega
  · omega
  · rw [ho] at h; cases h
/-- Who is fixed: each node is known, or a Commit is sent to it. -/
theorem again_com {c : CaseL} {id : Int} (hg : goodCB c = true) (hb : c.begun = true) (hi : 0 ≤ id ∧ id < 32) (ho : hasL c.deps id = false) (hf : c.fixed = true) {k : Nat} (hk : k < 6) :
    (c.known k = true ∧ c.lacks (ofL k) = false) ∨ ∃ g ∈ againC c id, g.kind = 3 ∧ g.node = (k : Int) := by
  rw [again_open hg hb hi ho]
  by_cases hs : (!c.known k || c.lacks (ofL k)) = true
  · right
    refine ⟨⟨3, k, id, c.ops, c.deps, [], []⟩, List.mem_flatMap.2 ⟨k, List.mem_range.2 hk, ?_⟩, rfl, rfl⟩
    unfold CaseL.send
    rw [if_pos hf, if_pos hs]
    exact List.mem_singleton.2 rfl
  · left
    simp at hs
    exact hs
/-- Who is not: each node that is touched has told, or an Ask is sent to it. -/
theorem again_ask {c : CaseL} {id : Int} (hg : goodCB c = true) (hb : c.begun = true) (hi : 0 ≤ id ∧ id < 32) (ho : hasL c.deps id = false) (hf : c.fixed = false) {k : Nat} (hk : k < 6) (ht : touchesL c.ops (ofL k) = true) :
    c.told k = true ∨ ∃ g ∈ againC c id, g.kind = 1 ∧ g.node = (k : Int) := by
  rw [again_open hg hb hi ho]
  cases hs : c.told k
  · right
    refine ⟨⟨1, k, id, c.ops, [], [], []⟩, List.mem_flatMap.2 ⟨k, List.mem_range.2 hk, ?_⟩, rfl, rfl⟩
    unfold CaseL.send
    rw [if_neg (by rw [hf]; decide), if_pos (by rw [ht, hs]; rfl)]
    exact List.mem_singleton.2 rfl
  · exact Or.inl rfl
/-- All that are touched have told: it is most of each shard. -/
theorem all_most {ops : List OpL} {t : Nat → Bool} (h : ∀ k : Nat, k < 6 → touchesL ops (ofL (k : Int)) = true → t k = true) : mostB ops t = true := by
  unfold mostB
  rw [Bool.and_eq_true]
  constructor
  · cases e : touchesL ops 0
    · rfl
    · have h0 := h 0 (by omega) e
      have h1 := h 1 (by omega) e
      have h2 := h 2 (by omega) e
      rw [told_sum]
      simp [h0, h1, h2]
  · cases e : touchesL ops 1
    · rfl
    · have h3 := h 3 (by omega) e
      have h4 := h 4 (by omega) e
      have h5 := h 5 (by omega) e
      rw [told_sum]
      simp [h3, h4, h5]
theorem takeC_known_mono {c : CaseL} {id : Int} {f : FrameL} {k : Nat} (h : c.known k = true) : (takeC c id f).1.known k = true := by
  unfold takeC
  split
  · exact h
  · split
    · exact h
    · split
      · exact h
      · split
        · split <;> exact h
        · split
          · exact h
          · split
            · show upd c.known f.node.toNat true k = true
              unfold upd
              split
              · rfl
              · exact h
            · show (c.dones (ofL f.node) (f.ats.zip f.vals)).known k = true
              rw [dones_known]; exact h

end Go.Proofs.YtkoefoccbjhoiacGreat

namespace Go.Proofs.YtkoefoccbjhoiacGreat
open Go.RowKit

structure Phase (c : CluL) (S : Sys) (F : List FrameL) (n B : Nat) : Prop where
  inv : InvM c S
  n32 : n < 32
  begun : (S.C n).begun = true
  net : c.net = F.map encL
  mem : ∀ f ∈ F, S.M f ∧ f.id = (n : Int)
  up : ∀ k, k < 6 → c.up k = true ∧ c.tear k = none
  log : ∀ k, k < 6 → (c.log k).length ≤ B
  pot : wts F + pend (S.C n) ≤ 31
  asks : (S.C n).fixed = false → ∀ k : Nat, k < 6 → touchesL (S.C n).ops (ofL (k : Int)) = true → (S.C n).told k = true ∨ ∃ f ∈ F, (f.kind = 1 ∨ f.kind = 2) ∧ f.node = (k : Int)
  coms : (S.C n).fixed = true → ∀ k : Nat, k < 6 → (S.C n).known k = true ∨ ∃ f ∈ F, (f.kind = 3 ∨ f.kind = 4) ∧ f.node = (k : Int)
/-- States only grow; cases of others are as they were. -/
structure Ahead (S T : Sys) (n : Nat) : Prop where
  state : ∀ k, k < 6 → ∀ i, ((S.B k).ent i).state ≤ ((T.B k).ent i).state
  other : ∀ i, i ≠ n → T.C i = S.C i
  mine : (S.C n).begun = true → (T.C n).begun = true ∧ (T.C n).ops = (S.C n).ops
  has : ∀ k, (S.C n).has k = true → (T.C n).has k = true
theorem Ahead.refl (S : Sys) (n : Nat) : Ahead S S n := ⟨fun _ _ _ => Int.le_refl _, fun _ _ => rfl, fun h => ⟨h, rfl⟩, fun _ h => h⟩
theorem Ahead.trans {S T U : Sys} {n : Nat} (h : Ahead S T n) (k : Ahead T U n) : Ahead S U n :=
  ⟨fun m hm i => Int.le_trans (h.state m hm i) (k.state m hm i), fun i hi => (k.other i hi).trans (h.other i hi), fun b => ⟨(k.mine (h.mine b).1).1, (k.mine (h.mine b).1).2.trans (h.mine b).2⟩, fun m hm => k.has m (h.has m hm)⟩
theorem took_ahead {S : Sys} (h : InvT S) {f : FrameL} (hM : S.M f) (n : Nat) : Ahead S (S.took f) n := by
  obtain ⟨hr1, _⟩ := h.s.rng f hM
  have hn6 : f.node.toNat < 6 := by omega
  refine ⟨fun k hk i => ?_, fun _ _ => rfl, fun b => ⟨b, rfl⟩, fun _ h => h⟩
  show _ ≤ ((upd S.B f.node.toNat (takeN (S.B f.node.toNat) f.node f).1 k).ent i).state
  by_cases e : k = f.node.toNat
  · subst e
    rw [upd_same]; exact take_state (h.state _ hn6) i
  · rw [upd_other _ _ e]; exact Int.le_refl _
/-- What a node answers: to an Ask Told, to a Commit Known and maybe Done. -/
theorem take_answers {s : NodeL} {f : FrameL} (h0 : (takeN s f.node f).2.2 = 0) :
    (f.kind = 1 → ∃ g, (takeN s f.node f).2.1 = [g] ∧ g.kind = 2 ∧ g.node = f.node ∧ g.id = f.id) ∧
    (f.kind = 3 → ∃ g r, (takeN s f.node f).2.1 = g :: r ∧ g.kind = 4 ∧ g.node = f.node ∧ g.id = f.id ∧ r.length ≤ 1 ∧ wts r ≤ 1 ∧ ∀ q ∈ r, q.kind = 5 ∧ q.id = f.id) := by
  rcases take_cases s f.node f with ⟨hh, _⟩ | ⟨_, _, _, _, _, _, ⟨hk, _, e⟩ | ⟨hk, e⟩⟩
  · exact absurd h0 hh
  · refine ⟨fun _ => ?_, fun h => absurd (hk.symm.trans h) (by decide)⟩
    rw [e]
    exact ⟨_, rfl, rfl, rfl, rfl⟩
  · refine ⟨fun h => absurd (h.symm.trans hk) (by decide), fun _ => ?_⟩
    rw [e]
    show ∃ g r, (s.commit (ofL f.node) f).answers (ofL f.node) f.node f.id = g :: r ∧ _
    unfold NodeL.answers
    split
    · exact ⟨_, _, rfl, rfl, rfl, rfl, by simp, (by rw [wts_cons]; show 1 + 0 ≤ 1; omega), fun q hq => by rw [List.mem_singleton.1 hq]; exact ⟨rfl, rfl⟩⟩
    · exact ⟨_, _, rfl, rfl, rfl, rfl, by simp, Nat.zero_le _, fun q hq => by simp at hq⟩
theorem rc_enc {f : FrameL} (h : goodL f = 0) : (rc (encL f)).length ≤ 100 := by
  have := (enc_len h).1
  rw [rc_len]
  omega
/-- Executed at all: each operation is had, or what tells it is under way. -/
def Dn (S : Sys) (F : List FrameL) (n : Nat) : Prop :=
  (S.C n).fixed = true ∧ (∀ k, k < 6 → ((S.B k).ent n).state = 3) ∧ ∀ i, i < (S.C n).ops.length → (S.C n).has i = true ∨ ∃ f ∈ F, (f.kind = 3 ∨ f.kind = 5) ∧ touchB (ofL f.node) ((S.C n).ops.getD i (0, 0, 0)) = true
theorem took_done {s : NodeL} {f : FrameL} (h0 : (takeN s f.node f).2.2 = 0) (hk : f.kind = 3) (h3 : ((takeN s f.node f).1.ent f.id.toNat).state = 3) (ht : touchesL ((takeN s f.node f).1.ent f.id.toNat).ops (ofL f.node) = true) : ∃ q ∈ (takeN s f.node f).2.1, q.kind = 5 ∧ q.node = f.node := by
  rcases take_cases s f.node f with ⟨hh, _⟩ | ⟨_, _, _, _, _, _, ⟨hk1, _, _⟩ | ⟨_, e⟩⟩
  · exact absurd h0 hh
  · exact absurd (hk1.symm.trans hk) (by decide)
  · rw [e] at h3 ht ⊢
    have h3 : ((s.commit (ofL f.node) f).ent f.id.toNat).state = 3 := h3
    have ht : touchesL ((s.commit (ofL f.node) f).ent f.id.toNat).ops (ofL f.node) = true := ht
    show ∃ q ∈ (s.commit (ofL f.node) f).answers (ofL f.node) f.node f.id, _
    unfold NodeL.answers
    rw [if_pos ⟨h3, ht⟩]
    exact ⟨_, List.mem_cons_of_mem _ (List.mem_singleton.2 rfl), rfl, rfl⟩
theorem touch_of {ops : List OpL} {i : Nat} {sh : Int} (hi : i < ops.length) (h : touchB sh (ops.getD i (0, 0, 0)) = true) : touchesL ops sh = true := by
  rw [List.getD_eq_getElem?_getD, List.getElem?_eq_getElem hi] at h
  exact List.any_eq_true.2 ⟨_, List.getElem_mem hi, h⟩
/-- An Ask or a Commit is delivered. -/
theorem Phase.come {c : CluL} {S : Sys} {f : FrameL} {F : List FrameL} {n B : Nat} (h : Phase c S (f :: F) n B) (hB : B ≤ 60000) (hk : f.kind = 1 ∨ f.kind = 3) :
    ∃ T G, Phase (Go.Proofs.YtkoefoccbjhoiacGreat.come (c.without 0) f).1 T G n (B + 100) ∧ wts G + pend (T.C n) < wts (f :: F) + pend (S.C n) ∧ Ahead S T n ∧ (Dn S (f :: F) n → Dn T G n) := by
  obtain ⟨hM, hid⟩ := h.mem f (by simp)
  obtain ⟨hr1, _⟩ := h.inv.t.s.rng f hM
  have hn6 : f.node.toNat < 6 := by omega
  have hg := h.inv.good f hM
  have less : InvM (c.without 0) S := h.inv.less fun t ht => List.mem_of_mem_eraseIdx ht
  have hnet : (c.without 0).net = F.map encL := by
    show c.net.eraseIdx 0 = _
    rw [h.net]; rfl
  obtain ⟨hu, ht⟩ := h.up _ hn6
  have hl : ((c.without 0).log f.node.toNat).length ≤ 60000 := Nat.le_trans (h.log _ hn6) hB
  obtain ⟨h0, e⟩ := come_ok less hM hk hu ht hl
  have hI := come_sys less hM hk hu ht hl
  obtain ⟨A1, A3⟩ := take_answers h0
  obtain ⟨R, hR⟩ : ∃ R, R = (takeN (S.B f.node.toNat) f.node f).2.1 := ⟨_, rfl⟩
  have hpot := h.pot
  rw [wts_cons] at hpot
  have hlen := wts_len F
  have hRw : wts R < wt f ∧ R.length ≤ 2 ∧ ∀ q ∈ R, q.id = f.id := by
    rcases hk with hk | hk
    · obtain ⟨g, e1, e2, e3, e4⟩ := A1 hk
      rw [hR, e1]
      refine ⟨?_, by simp, fun q hq => by rw [List.mem_singleton.1 hq]; exact e4⟩
      have : wt g = 1 := by unfold wt; rw [e2]; rfl
      have : wt f = 2 := by unfold wt; rw [if_pos hk]
      rw [wts_cons]
      show wt g + 0 < wt f
      omega
    · obtain ⟨g, r, e1, e2, e3, e4, e5, e6, e7⟩ := A3 hk
      rw [hR, e1]
      refine ⟨?_, by simp; omega, fun q hq => ?_⟩
      · have : wt g = 1 := by unfold wt; rw [e2]; rfl
        have : wt f = 3 := by unfold wt; rw [hk]; rfl
        rw [wts_cons]
        omega
      · rcases List.mem_cons.1 hq with e | e
        · rw [e]; exact e4
        · exact (e7 q e).2
  have wf : wt f ≤ 3 := by unfold wt; split <;> (try split) <;> omega
  refine ⟨S.took f, F ++ R, ⟨hI, h.n32, h.begun, ?_, fun q hq => ?_, fun k hk6 => ?_, fun k hk6 => ?_, ?_, fun hf k hk6 htch => ?_, fun hf k hk6 => ?_⟩, ?_, took_ahead h.inv.t hM n, fun D => ?_⟩
  · rw [e]
    show sentTo (c.without 0).net (takeN (S.B f.node.toNat) f.node f).2.1 = _
    rw [hnet, ← hR, sentTo_room _ _ (by rw [List.length_map]; omega), List.map_append]
  · rcases List.mem_append.1 hq with hq | hq
    · obtain ⟨m1, m2⟩ := h.mem q (by simp [hq])
      exact ⟨Or.inl m1, m2⟩
    · exact ⟨Or.inr (hR ▸ hq), (hRw.2.2 q hq).trans hid⟩
  · rw [e]
    exact h.up k hk6
  · rw [e]
    show (upd (c.without 0).log f.node.toNat _ k).length ≤ B + 100
    by_cases ek : k = f.node.toNat
    · subst ek
      rw [upd_same, List.length_append]
      have := h.log _ hn6
      have := rc_enc hg
      have e : (c.without 0).log = c.log := rfl
      rw [e]
      omega
    · rw [upd_other _ _ ek]
      have := h.log k hk6
      exact Nat.le_trans this (by omega)
  · show wts (F ++ R) + pend (S.C n) ≤ 31
    rw [wts_app]
    omega
  · rcases h.asks hf k hk6 htch with a | ⟨g, hgm, hgk, hgn⟩
    · exact Or.inl a
    · right
      rcases List.mem_cons.1 hgm with eg | eg
      · rcases hk with hk | hk
        · obtain ⟨q, e1, e2, e3, _⟩ := A1 hk
          exact ⟨q, List.mem_append_right _ (by rw [hR, e1]; simp), Or.inr e2, by rw [e3, ← eg]; exact hgn⟩
        · rw [eg, hk] at hgk
          exact absurd hgk (by decide)
      · exact ⟨g, List.mem_append_left _ eg, hgk, hgn⟩
  · rcases h.coms hf k hk6 with a | ⟨g, hgm, hgk, hgn⟩
    · exact Or.inl a
    · right
      rcases List.mem_cons.1 hgm with eg | eg
      · rcases hk with hk | hk
        · rw [eg, hk] at hgk
          exact absurd hgk (by decide)
        · obtain ⟨q, r, e1, e2, e3, _⟩ := A3 hk
          exact ⟨q, List.mem_append_right _ (by rw [hR, e1]; simp), Or.inr e2, by rw [e3, ← eg]; exact hgn⟩
      · exact ⟨g, List.mem_append_left _ eg, hgk, hgn⟩
  · show wts (F ++ R) + pend (S.C n) < _
    rw [wts_app, wts_cons]
    omega
  · obtain ⟨fx, s3, dn⟩ := D
    have s3' : ∀ k, k < 6 → (((S.took f).B k).ent n).state = 3 := fun k hk6 => by
      have a := (took_ahead h.inv.t hM n).state k hk6 n
      have b := ((hI.t.s.good k hk6).state h.n32).2
      have := s3 k hk6
      omega
    refine ⟨fx, s3', fun i hi => ?_⟩
    rcases dn i hi with a | ⟨g, hgm, hgk, hgt⟩
    · exact Or.inl a
    · right
      rcases List.mem_cons.1 hgm with eg | eg
      · rw [eg] at hgk hgt
        have hk3 : f.kind = 3 := by clear A1 A3; omega
        have en : f.id.toNat = n := by clear A1 A3; omega
        have x3 := s3' _ hn6
        have xo := (hI.t.s.ent1 _ hn6 n h.n32 (by rw [x3]; decide)).2
        have Bs : (S.took f).B f.node.toNat = (takeN (S.B f.node.toNat) f.node f).1 := upd_same _ _ _
        rw [Bs] at x3 xo
        have xo : ((takeN (S.B f.node.toNat) f.node f).1.ent n).ops = (S.C n).ops := xo
        obtain ⟨q, q1, q2, q3⟩ := took_done h0 hk3 (by rw [en]; exact x3) (by rw [en, xo]; exact touch_of hi hgt)
        exact ⟨q, List.mem_append_right _ (by rw [hR]; exact q1), Or.inr q2, by rw [q3]; exact hgt⟩
      · exact ⟨g, List.mem_append_left _ eg, hgk, hgt⟩

end Go.Proofs.YtkoefoccbjhoiacGreat

namespace Go.Proofs.YtkoefoccbjhoiacGreat
open Go.RowKit

/-- The system when an answer is taken. -/
def Sys.heard (S : Sys) (f : FrameL) : Sys := ⟨S.B, upd S.C f.id.toNat (takeC (S.C f.id.toNat) f.id f).1, fun g => S.M g ∨ g ∈ (takeC (S.C f.id.toNat) f.id f).2.1⟩
theorem InvM.answer_at {c : CluL} {S : Sys} (h : InvM c S) {f : FrameL} (hM : S.M f) (h0 : (takeC (S.C f.id.toNat) f.id f).2.2 = 0) : InvM (c.answer f).1 (S.heard f) := by
  obtain ⟨_, hr2⟩ := h.t.s.rng f hM
  refine ⟨h.t.answer hM h0, InvU.answer h.t h.u hM h0, fun g hg => ?_, h.bound, fun t ht => ?_, ?_, fun n hn => log_same (h.log n hn) rfl rfl rfl rfl rfl, ⟨h.cnt.1, fun i hi => ?_⟩⟩
  · rcases hg with hg | hg
    · exact h.good g hg
    · exact again_good (takeC_sends hg).1
  · have ht : t ∈ sentTo c.net (takeC (c.cs f.id.toNat) f.id f).2.1 := ht
    rw [h.cs] at ht
    rcases mem_sent _ _ _ ht with ht | ⟨g, hg1, hg2⟩
    · obtain ⟨g, hg1, hg2⟩ := h.net t ht
      exact ⟨g, Or.inl hg1, hg2⟩
    · exact ⟨g, Or.inr hg1, hg2⟩
  · show upd c.cs f.id.toNat (takeC (c.cs f.id.toNat) f.id f).1 = _
    rw [h.cs]
    rfl
  · show (upd S.C f.id.toNat (takeC (S.C f.id.toNat) f.id f).1 i).begun = true ↔ i < c.cnt
    rw [← h.cnt.2 i hi]
    rcases upd_two S.C f.id.toNat (takeC (S.C f.id.toNat) f.id f).1 i with ⟨e1, e2⟩ | ⟨_, e2⟩
    · rw [e2, e1, takeC_begun_same]
    · rw [e2]
theorem takeC_hear {c : CaseL} {id : Int} {f : FrameL} (h0 : (takeC c id f).2.2 = 0) (hk : f.kind = 2) (hf : c.fixed = false) (ht : c.told f.node.toNat = false) (htc : touchesL c.ops (ofL f.node) = true) :
    takeC c id f = (c.hear f, if (c.hear f).fixed = true then againC (c.hear f) id else [], 0) := by
  unfold takeC at h0 ⊢
  split at h0
  · exact absurd h0 (show (2 : Int) ≠ 0 by decide)
  · rename_i h1
    rw [if_neg h1]
    split at h0
    · rename_i h2
      exact absurd h0 h2
    · rename_i h2
      rw [if_neg h2, if_neg (by rw [hk]; decide), if_pos hk, if_neg (by rw [hf, ht, htc]; decide)]
theorem takeC_knows {c : CaseL} {id : Int} {f : FrameL} (h0 : (takeC c id f).2.2 = 0) (hk : f.kind = 4) (hf : c.fixed = true) : (takeC c id f).1.known f.node.toNat = true := by
  unfold takeC at h0 ⊢
  split at h0
  · exact absurd h0 (show (2 : Int) ≠ 0 by decide)
  · rename_i h1
    rw [if_neg h1]
    split at h0
    · rename_i h2
      exact absurd h0 h2
    · rename_i h2
      rw [if_neg h2, if_neg (by rw [hk]; decide), if_neg (by rw [hk]; decide), if_neg (by rw [hf]; decide), if_pos hk]
      exact upd_same _ _ _
theorem run_ats_all (sh : Int) : ∀ (ops : List OpL) (i : Nat) (v : Nat → Int) (j : Nat), j < ops.length → touchB sh (ops.getD j (0, 0, 0)) = true → ((i + j : Nat) : Int) ∈ (runOps sh i ops v).2.1
  | [], _, _, j, h, _ => absurd h (Nat.not_lt_zero j)
  | o :: r, i, v, 0, _, ht => by
    have ht : (o.2.1 % 2 == sh) = true := ht
    unfold runOps
    rw [if_pos ht]
    exact List.mem_cons_self
  | o :: r, i, v, j + 1, h, ht => by
    have hr : j < r.length := by simpa using h
    have e : i + (j + 1) = i + 1 + j := by omega
    rw [e]
    unfold runOps
    split
    · exact List.mem_cons_of_mem _ (run_ats_all sh r (i + 1) _ j hr ht)
    · exact run_ats_all sh r (i + 1) v j hr ht
theorem dones_sets (sh : Int) : ∀ (l : List (Int × Int)) (c : CaseL) (p : Int × Int), p ∈ l → p.1 < c.ops.length → touchB sh (c.ops.getD p.1.toNat (0, 0, 0)) = true → (c.dones sh l).has p.1.toNat = true
  | [], _, _, h, _, _ => by simp at h
  | q :: l, c, p, h, h1, h2 => by
    show ((CaseL.done1 sh c q).dones sh l).has p.1.toNat = true
    rcases List.mem_cons.1 h with e | e
    · refine ((dones_keeps sh l _).2 _ ?_).1
      subst e
      unfold CaseL.done1
      cases hh : c.has p.1.toNat
      · rw [if_pos ⟨h1, h2, rfl⟩]
        exact upd_same _ _ _
      · rw [if_neg (by rintro ⟨_, _, h⟩; cases h)]
        exact hh
    · have so := (done1_keeps sh c q).1.ops
      exact dones_sets sh l _ p e (by rw [so]; exact h1) (by rw [so]; exact h2)
theorem takeC_dones {c : CaseL} {id : Int} {f : FrameL} (h0 : (takeC c id f).2.2 = 0) (hk : f.kind = 5) (hf : c.fixed = true) : (takeC c id f).1 = c.dones (ofL f.node) (f.ats.zip f.vals) := by
  unfold takeC at h0 ⊢
  split at h0
  · exact absurd h0 (show (2 : Int) ≠ 0 by decide)
  · rename_i h1
    rw [if_neg h1]
    split at h0
    · rename_i h2
      exact absurd h0 h2
    · rename_i h2
      rw [if_neg h2, if_neg (by rw [hk]; decide), if_neg (by rw [hk]; decide), if_neg (by rw [hf]; decide), if_neg (by rw [hk]; decide)]
theorem zip_has {xs vs : List Int} (h : vs.length = xs.length) {a : Int} (ha : a ∈ xs) : ∃ v, (a, v) ∈ xs.zip vs := by
  obtain ⟨i, hi, e⟩ := List.getElem_of_mem ha
  refine ⟨vs[i]'(by omega), ?_⟩
  have : (xs.zip vs)[i]'(by rw [List.length_zip]; omega) = (a, vs[i]'(by omega)) := by rw [List.getElem_zip, e]
  rw [← this]
  exact List.getElem_mem _
theorem Phase.answer {c : CluL} {S : Sys} {f : FrameL} {F : List FrameL} {n B : Nat} (h : Phase c S (f :: F) n B) (hk : f.kind ≠ 1 ∧ f.kind ≠ 3) :
    ∃ T G, Phase ((c.without 0).answer f).1 T G n (B + 100) ∧ wts G + pend (T.C n) < wts (f :: F) + pend (S.C n) ∧ Ahead S T n ∧ (Dn S (f :: F) n → Dn T G n) := by
  obtain ⟨hM, hid⟩ := h.mem f (by simp)
  obtain ⟨hr1, _⟩ := h.inv.t.s.rng f hM
  have hn6 : f.node.toNat < 6 := by omega
  have hg := h.inv.good f hM
  have en : f.id.toNat = n := by omega
  have less : InvM (c.without 0) S := h.inv.less fun t ht => List.mem_of_mem_eraseIdx ht
  have hnet : (c.without 0).net = F.map encL := by
    show c.net.eraseIdx 0 = _
    rw [h.net]; rfl
  have R0 := h.inv.t.case n h.n32 h.begun
  have own := h.inv.u.own n h.n32
  have h0 : (takeC (S.C n) f.id f).2.2 = 0 := takeC_ok R0.good h.begun rfl (by rw [hid]; exact own) hg hk
  have hI : InvM ((c.without 0).answer f).1 (S.heard f) := less.answer_at hM (by rw [en]; exact h0)
  obtain ⟨R, hR⟩ : ∃ R, R = (takeC (S.C n) f.id f).2.1 := ⟨_, rfl⟩
  obtain ⟨d, hd⟩ : ∃ d, d = (takeC (S.C n) f.id f).1 := ⟨_, rfl⟩
  have eC : (S.heard f).C n = d := by
    show upd S.C f.id.toNat (takeC (S.C f.id.toNat) f.id f).1 n = d
    rw [en, upd_same, hd]
  have eB : (S.heard f).B = S.B := rfl
  have rs := res_step (id := f.id) (f := f) R0
  rw [← hd] at rs
  have hpot := h.pot
  rw [wts_cons] at hpot
  have w1 : wt f = 1 := by unfold wt; rw [if_neg hk.1, if_neg hk.2]
  have hlen := wts_len F
  -- what is asked of the case then
  have core : wts R + pend d ≤ pend (S.C n) ∧
      (d.fixed = false → ∀ k : Nat, k < 6 → touchesL d.ops (ofL (k : Int)) = true → d.told k = true ∨ ∃ g ∈ F ++ R, (g.kind = 1 ∨ g.kind = 2) ∧ g.node = (k : Int)) ∧
      (d.fixed = true → ∀ k : Nat, k < 6 → d.known k = true ∨ ∃ g ∈ F ++ R, (g.kind = 3 ∨ g.kind = 4) ∧ g.node = (k : Int)) ∧ d.ops = (S.C n).ops := by
    have own' : hasL d.deps f.id = false := by
      have := hI.u.own n h.n32
      rw [eC] at this
      rw [hid]; exact this
    rcases takeC_cases (S.C n) f.id f with ⟨hh, _⟩ | ⟨_, _, hk2, hf, htl, htc, he, _⟩ | ⟨_, e2, hk2, hs, _, _⟩
    · exact absurd h0 hh
    · have E := takeC_hear h0 hk2 hf htl htc
      have ed : d = (S.C n).hear f := by rw [hd, E]
      have eR : R = if d.fixed = true then againC d f.id else [] := by rw [hR, E, ed]
      have ps : pend (S.C n) = 19 := by unfold pend; rw [if_neg (by rw [hf]; decide)]
      have eo : d.ops = (S.C n).ops := by rw [ed]; rfl
      cases hdf : d.fixed
      · rw [hdf] at eR
        have eR : R = [] := eR
        refine ⟨?_, fun _ k hk6 ht => ?_, fun e => (by cases e), eo⟩
        · rw [eR, ps]
          show 0 + pend d ≤ 19
          unfold pend
          split <;> omega
        · rw [eo] at ht
          by_cases ek : k = f.node.toNat
          · left
            rw [ed]
            show upd (S.C n).told f.node.toNat true k = true
            rw [ek, upd_same]
          · rcases h.asks hf k hk6 ht with a | ⟨g, hgm, hgk, hgn⟩
            · left
              rw [ed]
              show upd (S.C n).told f.node.toNat true k = true
              rw [upd_other _ _ ek]; exact a
            · right
              rcases List.mem_cons.1 hgm with eg | eg
              · rw [eg] at hgn
                exact absurd (by omega) ek
              · exact ⟨g, List.mem_append_left _ eg, hgk, hgn⟩
      · rw [hdf, if_pos rfl] at eR
        have hw := again_wt d f.id
        rw [if_pos hdf, ← eR] at hw
        refine ⟨?_, fun e => (by cases e), fun _ k hk6 => ?_, eo⟩
        · have : pend d = 0 := by unfold pend; rw [if_pos hdf]
          omega
        · rcases again_com (id := f.id) rs.1.good rs.1.begun (by omega) own' hdf hk6 with a | ⟨g, hgm, hgk, hgn⟩
          · exact Or.inl a.1
          · exact Or.inr ⟨g, List.mem_append_right _ (by rw [eR]; exact hgm), Or.inl hgk, hgn⟩
    · have eR : R = [] := by rw [hR, e2]
      rw [← hd] at hs
      refine ⟨?_, fun hdf k hk6 ht => ?_, fun hdf k hk6 => ?_, hs.ops⟩
      · rw [eR]
        show 0 + pend d ≤ pend (S.C n)
        unfold pend
        rw [hs.fixed]
        omega
      · rw [hs.ops] at ht
        rw [hs.fixed] at hdf
        rw [hs.told]
        rcases h.asks hdf k hk6 ht with a | ⟨g, hgm, hgk, hgn⟩
        · exact Or.inl a
        · rcases List.mem_cons.1 hgm with eg | eg
          · left
            rw [eg] at hgk hgn
            have en' : f.node.toNat = k := by omega
            rcases hk2 (hgk.resolve_left hk.1) with e | e | e
            · rw [hdf] at e; cases e
            · rw [en'] at e; exact e
            · rw [hgn, ht] at e; cases e
          · exact Or.inr ⟨g, List.mem_append_left _ eg, hgk, hgn⟩
      · rw [hs.fixed] at hdf
        rcases h.coms hdf k hk6 with a | ⟨g, hgm, hgk, hgn⟩
        · left
          rw [hd]; exact takeC_known_mono a
        · rcases List.mem_cons.1 hgm with eg | eg
          · left
            rw [eg] at hgk hgn
            have en' : f.node.toNat = k := by omega
            have hk4 := hgk.resolve_left hk.2
            have := takeC_knows h0 hk4 hdf
            rw [en', ← hd] at this
            exact this
          · exact Or.inr ⟨g, List.mem_append_left _ eg, hgk, hgn⟩
  obtain ⟨c1, c2, c3, c4⟩ := core
  have hRl := wts_len R
  have hp19 : pend (S.C n) ≤ 19 := by unfold pend; split <;> omega
  refine ⟨S.heard f, F ++ R, ⟨hI, h.n32, by rw [eC]; exact rs.1.begun, ?_, fun q hq => ?_, h.up, fun k hk6 => Nat.le_trans (h.log k hk6) (by omega), ?_, by rw [eC]; exact c2, by rw [eC]; exact c3⟩, ?_, ⟨fun _ _ _ => Int.le_refl _, fun i hi => ?_, fun _ => by rw [eC]; exact ⟨rs.1.begun, c4⟩, fun k hk => by rw [eC]; exact (rs.2 k hk).1⟩, fun D => ?_⟩
  · show sentTo (c.without 0).net (takeC ((c.without 0).cs f.id.toNat) f.id f).2.1 = _
    rw [less.cs, en, ← hR, hnet, sentTo_room _ _ (by rw [List.length_map]; omega), List.map_append]
  · rcases List.mem_append.1 hq with hq | hq
    · obtain ⟨m1, m2⟩ := h.mem q (by simp [hq])
      exact ⟨Or.inl m1, m2⟩
    · rw [hR] at hq
      refine ⟨Or.inr (by rw [en]; exact hq), ?_⟩
      rw [(mem_again (takeC_sends hq).1).2.2.2.1, hid]
  · rw [eC, wts_app]
    omega
  · rw [eC, wts_app, wts_cons]
    omega
  · show upd S.C f.id.toNat _ i = S.C i
    rw [upd_other _ _ (by omega)]
  · obtain ⟨fx, s3, dn⟩ := D
    unfold Dn
    rw [eC]
    refine ⟨?_, s3, fun i hi => ?_⟩
    · rcases takeC_cases (S.C n) f.id f with ⟨hh, _⟩ | ⟨_, _, _, hf, _⟩ | ⟨_, _, _, hs, _⟩
      · exact absurd h0 hh
      · rw [fx] at hf; cases hf
      · rw [hd, hs.fixed]; exact fx
    · rw [c4] at hi ⊢
      rcases dn i hi with a | ⟨g, hgm, hgk, hgt⟩
      · exact Or.inl (rs.2 i a).1
      · rcases List.mem_cons.1 hgm with eg | eg
        · left
          rw [eg] at hgk hgt
          have hk5 := hgk.resolve_left hk.2
          obtain ⟨d1, d2, d3⟩ := h.inv.t.s.don f hM hk5
          rw [en] at d1 d2 d3
          have hdid := (did_iff (h.inv.t.s.good _ hn6) h.n32).2 d1
          obtain ⟨pre, post, ep, _⟩ := split_of (h.inv.t.sort _ hn6).sorted.nodup hdid
          have V := (h.inv.t.val _ hn6).each pre n post ep
          have eo := (h.inv.t.s.ent1 _ hn6 n h.n32 (by rw [d1]; decide)).2
          have hnat : (f.node.toNat : Int) = f.node := by omega
          have F0 := (h.inv.t.s.good _ hn6).fine h.n32 (by rw [d1]; decide)
          have mem : ((0 + i : Nat) : Int) ∈ f.ats := by
            rw [d2, V.1, eo, hnat]
            exact run_ats_all (ofL f.node) _ 0 _ i hi hgt
          rw [Nat.zero_add] at mem
          obtain ⟨v, hv⟩ := zip_has (vs := f.vals) (by rw [d2, d3]; exact F0.vals) mem
          have := dones_sets (ofL f.node) _ (S.C n) _ hv (by show (i : Int) < _; omega) (by show touchB _ ((S.C n).ops.getD (i : Int).toNat _) = true; rw [Int.toNat_natCast]; exact hgt)
          rw [hd, takeC_dones h0 hk5 fx]
          exact this
        · exact Or.inr ⟨g, List.mem_append_left _ eg, hgk, hgt⟩
/-- The first under way is delivered. -/
theorem Phase.step {c : CluL} {S : Sys} {f : FrameL} {F : List FrameL} {n B : Nat} (h : Phase c S (f :: F) n B) (hB : B ≤ 60000) :
    ∃ T G, Phase (doA c ⟨2, 0, 0, []⟩).1 T G n (B + 100) ∧ wts G + pend (T.C n) < wts (f :: F) + pend (S.C n) ∧ Ahead S T n ∧ (Dn S (f :: F) n → Dn T G n) := by
  obtain ⟨hM, _⟩ := h.mem f (by simp)
  have ed : decL (encL f) = f := (ok_put (h.inv.good f hM)).2
  have e : (doA c ⟨2, 0, 0, []⟩).1 = ((c.without 0).bring (encL f)).1 := by
    unfold doA
    have hl : ¬ ((0 : Int) < 0 ∨ (c.net.length : Int) ≤ 0) := by
      rw [h.net, List.length_map, List.length_cons]
      omega
    have hh : c.net.getD (0 : Int).toNat [] = encL f := by rw [h.net]; rfl
    simp only [hh]
    rw [if_neg (by decide), if_pos (by decide), if_neg hl, if_neg (by decide), if_pos (by decide)]
    rfl
  rw [e]
  unfold CluL.bring
  rw [ed]
  split
  · rename_i hk
    exact h.come hB hk
  · rename_i hk
    exact h.answer ⟨fun k => hk (Or.inl k), fun k => hk (Or.inr k)⟩
/-- So often the first under way is delivered, until nothing is. -/
def drain : Nat → CluL → CluL → Prop
  | 0, c, d => d = c ∧ c.net = []
  | k + 1, c, d => c.net ≠ [] ∧ drain k (doA c ⟨2, 0, 0, []⟩).1 d
theorem Phase.drains : ∀ (p : Nat) {c : CluL} {S : Sys} {F : List FrameL} {n B : Nat}, Phase c S F n B → wts F + pend (S.C n) ≤ p → B + 100 * p ≤ 60000 →
    ∃ k d T, k ≤ p ∧ drain k c d ∧ Phase d T [] n (B + 100 * p) ∧ Ahead S T n ∧ (Dn S F n → Dn T [] n)
  | p, c, S, [], n, B, h, _, _ => ⟨0, c, S, Nat.zero_le _, ⟨rfl, by rw [h.net]; rfl⟩, { h with log := fun k hk => Nat.le_trans (h.log k hk) (by omega) }, Ahead.refl S n, fun D => D⟩
  | 0, c, S, f :: F, n, B, h, hp, _ => by
    rw [wts_cons] at hp
    have := wt_pos f
    omega
  | p + 1, c, S, f :: F, n, B, h, hp, hB => by
    obtain ⟨T, G, h1, h2, h3, h4⟩ := h.step (by omega)
    obtain ⟨k, d, U, k1, k2, k3, k4, k5⟩ := Phase.drains p h1 (by omega) (by omega)
    refine ⟨k + 1, d, U, by omega, ⟨?_, k2⟩, ?_, h3.trans k4, fun D => k5 (h4 D)⟩
    · rw [h.net]; simp
    · have e : B + 100 + 100 * p = B + 100 * (p + 1) := by omega
      rw [e] at k3
      exact k3
/-- At the end of a phase it is fixed, and Committed at all nodes. -/
theorem Phase.ended {c : CluL} {S : Sys} {n B : Nat} (h : Phase c S [] n B) : (S.C n).fixed = true ∧ ∀ k, k < 6 → (S.C n).known k = true ∧ 2 ≤ ((S.B k).ent n).state := by
  have hf : (S.C n).fixed = true := by
    cases e : (S.C n).fixed
    · have := h.inv.u.most n h.n32 h.begun e
      rw [all_most fun k hk ht => (h.asks e k hk ht).resolve_right (by rintro ⟨f, hf, _⟩; simp at hf)] at this
      cases this
    · rfl
  refine ⟨hf, fun k hk => ?_⟩
  have hkn := (h.coms hf k hk).resolve_right (by rintro ⟨f, hf, _⟩; simp at hf)
  exact ⟨hkn, h.inv.u.known n h.n32 k hk hkn⟩

end Go.Proofs.YtkoefoccbjhoiacGreat

namespace Go.Proofs.YtkoefoccbjhoiacGreat
open Go.RowKit

theorem runOps_off (sh : Int) (k : Nat) (hk : (k : Int) % 2 ≠ sh) : ∀ (ops : List OpL) (i : Nat) (v : Nat → Int), (∀ o ∈ ops, 0 ≤ o.2.1) → (runOps sh i ops v).1 k = v k
  | [], _, _, _ => rfl
  | o :: r, i, v, h => by
    have h0 := h o (by simp)
    have hr : ∀ p ∈ r, 0 ≤ p.2.1 := fun p hp => h p (by simp [hp])
    unfold runOps
    split
    · rename_i hs
      rw [runOps_off sh k hk r (i + 1) _ hr, upd_other _ _ (fun e => ?_)]
      apply hk
      have : (k : Int) = o.2.1 := by omega
      rw [this]
      simpa using hs
    · exact runOps_off sh k hk r (i + 1) v hr
theorem after_off (sh : Int) (k : Nat) (hk : (k : Int) % 2 ≠ sh) (ops : Nat → List OpL) : ∀ (l : List Nat) (v : Nat → Int), (∀ x ∈ l, ∀ o ∈ ops x, 0 ≤ o.2.1) → after sh ops l v k = v k
  | [], _, _ => rfl
  | x :: l, v, h => by
    show after sh ops l (runOps sh 0 (ops x) v).1 k = v k
    rw [after_off sh k hk ops l _ (fun y hy => h y (by simp [hy])), runOps_off sh k hk _ 0 v (h x (by simp))]
theorem InvT.alike {S : Sys} (h : InvT S) {n m : Nat} (hn : n < 6) (hm : m < 6) (hsh : ofL (n : Int) = ofL (m : Int)) (hset : ∀ x, x ∈ (S.B n).did ↔ x ∈ (S.B m).did) : (S.B n).vals = (S.B m).vals := by
  have A := h.s.sorted hn (h.sort n hn)
  have B := h.s.sorted hm (h.sort m hm)
  have opsE : ∀ {k : Nat}, k < 6 → ∀ y ∈ (S.B k).did, y < 32 ∧ ((S.B k).ent y).ops = (S.C y).ops ∧ (S.C y).fixed = true := fun {k} hk y hy => by
    have y32 := (h.sort k hk).sorted.lt y hy
    exact ⟨y32, (h.s.ent1 k hk y y32 (by rw [(did_iff (h.s.good k hk) y32).1 hy]; decide)).2, h.s.did_fixed hk y32 hy⟩
  have keys : ∀ {k : Nat}, k < 6 → ∀ y ∈ (S.B k).did, ∀ o ∈ (S.C y).ops, 0 ≤ o.2.1 := fun hk y hy => h.keys y (opsE hk y hy).1 (opsE hk y hy).2.2
  rw [(h.val n hn).all, (h.val m hm).all, after_congr (ops' := fun y => (S.C y).ops) _ _ _ (fun y hy => (opsE hn y hy).2.1), after_congr (ops' := fun y => (S.C y).ops) _ (S.B m).did _ (fun y hy => (opsE hm y hy).2.1), hsh]
  funext k
  by_cases hk : (k : Int) % 2 = ofL (m : Int)
  · rw [after_key _ k hk _ _ _ (keys hn), after_key _ k hk _ _ _ (keys hm), keyFold_filter k _ (S.B n).did _ (by unfold Within; decide), keyFold_filter k _ (S.B m).did _ (by unfold Within; decide)]
    congr 1
    have sh2 : ∃ sh : Nat, sh < 2 ∧ ofL (m : Int) = (sh : Int) := by
      rw [ofL_nat]
      split
      · exact ⟨0, by omega, rfl⟩
      · exact ⟨1, by omega, rfl⟩
    obtain ⟨sh, hs, esh⟩ := sh2
    refine same_list (List.Pairwise.filter _ A.nodup) (List.Pairwise.filter _ B.nodup) (fun y => by rw [List.mem_filter, List.mem_filter, hset y]) (fun y hy z hz hyz => ?_)
    have hy1 := List.mem_filter.1 hy
    have hz1 := List.mem_filter.1 hz
    have ym := (hset y).1 hy1.1
    have zm := (hset z).1 hz1.1
    rw [idx_filter hy hz, idx_filter (List.mem_filter.2 ⟨ym, hy1.2⟩) (List.mem_filter.2 ⟨zm, hz1.2⟩)]
    obtain ⟨y32, _, fy⟩ := opsE hn y hy1.1
    obtain ⟨z32, _, fz⟩ := opsE hn z hz1.1
    obtain ⟨q, hq, eq⟩ := write_has hy1.2
    have q0 := h.keys y y32 fy q hq
    refine A.alike B hy1.1 hz1.1 ym zm hyz (h.s.hang y32 z32 hyz fy fz hs ?_)
    have : (sh : Int) = q.2.1 % 2 := by
      rw [← esh, ← hk]
      congr 1
      omega
    rw [this]
    exact meets_at hq q0 (h.keys z z32 fz) (eq ▸ hz1.2)
  · rw [after_off _ k hk _ _ _ (keys hn), after_off _ k hk _ _ _ (keys hm)]

end Go.Proofs.YtkoefoccbjhoiacGreat

namespace Go.Proofs.YtkoefoccbjhoiacGreat
open Go.RowKit

/-- All are up, nothing is under way. -/
structure Calm (c : CluL) (S : Sys) (B : Nat) : Prop where
  inv : InvM c S
  net : c.net = []
  up : ∀ k, k < 6 → c.up k = true ∧ c.tear k = none
  log : ∀ k, k < 6 → (c.log k).length ≤ B
theorem Phase.calm {c : CluL} {S : Sys} {n B : Nat} (h : Phase c S [] n B) : Calm c S B := ⟨h.inv, by rw [h.net]; rfl, h.up, h.log⟩
theorem again_len (c : CaseL) (id : Int) : (againC c id).length ≤ 18 := by
  have h1 := wts_len (againC c id)
  have h2 := again_wt c id
  split at h2 <;> omega
/-- Who has it sends again: a phase begins. -/
theorem Calm.phase {c : CluL} {S : Sys} {B n : Nat} (h : Calm c S B) (hn : n < c.cnt) : ∃ T F, Phase (doA c ⟨5, (n : Int), 0, []⟩).1 T F n B ∧ Ahead S T n ∧ T.C = S.C ∧ T.B = S.B ∧ F = againC (S.C n) (n : Int) := by
  have n32 : n < 32 := by have := h.inv.cnt.1; omega
  have hb := (h.inv.cnt.2 n n32).2 hn
  have R0 := h.inv.t.case n n32 hb
  have own := h.inv.u.own n n32
  have e : (doA c ⟨5, (n : Int), 0, []⟩).1 = { c with net := sentTo c.net (againC (S.C n) (n : Int)) } := by
    unfold doA
    simp only
    rw [if_neg (by decide), if_neg (by decide), if_pos (by decide), if_neg (by omega), Int.toNat_natCast, h.inv.cs]
  have enet : sentTo c.net (againC (S.C n) (n : Int)) = (againC (S.C n) (n : Int)).map encL := by
    have := again_len (S.C n) (n : Int)
    rw [sentTo_room _ _ (by rw [h.net]; simp; omega), h.net, List.nil_append]
  have hI : InvM { c with net := sentTo c.net (againC (S.C n) (n : Int)) } ⟨S.B, S.C, fun g => S.M g ∨ g ∈ againC (S.C n) (n : Int)⟩ := by
    refine ⟨h.inv.t.again n32, h.inv.u.again n, fun g hg => ?_, h.inv.bound, fun t ht => ?_, h.inv.cs, fun n hn => log_same (h.inv.log n hn) rfl rfl rfl rfl rfl, h.inv.cnt⟩
    · rcases hg with hg | hg
      · exact h.inv.good g hg
      · exact again_good hg
    · rcases mem_sent _ _ _ ht with ht | ⟨g, hg1, hg2⟩
      · obtain ⟨g, hg1, hg2⟩ := h.inv.net t ht
        exact ⟨g, Or.inl hg1, hg2⟩
      · exact ⟨g, Or.inr hg1, hg2⟩
  rw [e]
  refine ⟨_, againC (S.C n) (n : Int), ⟨hI, n32, hb, enet, fun f hf => ⟨Or.inr hf, (mem_again hf).2.2.2.1⟩, h.up, h.log, ?_, fun hf k hk ht => ?_, fun hf k hk => ?_⟩, ⟨fun _ _ _ => Int.le_refl _, fun _ _ => rfl, fun b => ⟨b, rfl⟩, fun _ h => h⟩, rfl, rfl, rfl⟩
  · have hw := again_wt (S.C n) (n : Int)
    show wts (againC (S.C n) (n : Int)) + pend (S.C n) ≤ 31
    unfold pend
    split at hw <;> rename_i e
    · rw [if_pos e]; omega
    · rw [if_neg e]; omega
  · rcases again_ask R0.good hb (by omega) own hf hk ht with a | ⟨g, g1, g2, g3⟩
    · exact Or.inl a
    · exact Or.inr ⟨g, g1, Or.inl g2, g3⟩
  · rcases again_com R0.good hb (by omega) own hf hk with a | ⟨g, g1, g2, g3⟩
    · exact Or.inl a.1
    · exact Or.inr ⟨g, g1, Or.inl g2, g3⟩
/-- Then copies of a shard are alike. -/
theorem InvM.copies {c : CluL} {S : Sys} (h : InvM c S) {k m : Nat} (hk : k < 6) (hm : m < 6) (hs : ofL (k : Int) = ofL (m : Int)) (hk3 : ∀ i, i < c.cnt → ((S.B k).ent i).state = 3) (hm3 : ∀ i, i < c.cnt → ((S.B m).ent i).state = 3) : (S.B k).vals = (S.B m).vals := by
  have one : ∀ {k : Nat}, k < 6 → (∀ i, i < c.cnt → ((S.B k).ent i).state = 3) → ∀ x, x ∈ (S.B k).did ↔ x < c.cnt := fun {k} hk h3 x => by
    constructor
    · intro hx
      have x32 := (h.t.sort k hk).sorted.lt x hx
      exact (h.cnt.2 x x32).1 (h.t.s.ent1 k hk x x32 (by rw [(did_iff (h.t.s.good k hk) x32).1 hx]; decide)).1
    · intro hx
      have x32 : x < 32 := by have := h.cnt.1; omega
      exact (did_iff (h.t.s.good k hk) x32).2 (h3 x hx)
  exact h.t.alike hk hm hs fun x => by rw [one hk hk3, one hm hm3]

end Go.Proofs.YtkoefoccbjhoiacGreat

namespace Go.Proofs.YtkoefoccbjhoiacGreat
open Go.RowKit

end Go.Proofs.YtkoefoccbjhoiacGreat
