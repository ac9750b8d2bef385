/-
  Plain mathematics of the whole, 22: all come up, nothing is under way, and twice again: all are told.
  A cluster as it lies in memory: one block of 2001 cells (how many acts, how many begun, six members of 205, 32 cases of 24, what is under way), and the lists that they name.
  Two rows of numbers are alike.
  Two rows of numbers, of truths, compared.
  Plain mathematics of a case, as its functions count: what is wanted of a node, how many told, whether all is had.
  A case by value, and in a box of its own.
  The zero values of package cluster; the contracts of its refuse, isNode, mayTear, hasBegun, New.
  Lists of texts that a call made; the contract of slices.Clone over texts.
  The contracts of post's small functions: isZero.
  The contracts of post's Good and isCaseOf.
  The contracts of post's lacksValue and lacks.
  A list of frames that a call made, read one by one.
  A list of frames that a call makes, one behind the other: the frames' lists lie beside the row.
  The contract of post's message.
  The contract of post's Again.
  The contract of post's Begin.
  The contract of post's Result.
  The contract of post's refusal.
  A case behind a pointer: its box, its lists behind it; what a store makes of it. The contract of post's takeKnown.
  The contract of post's mostTold.
  The contract of post's takeDone.
  The contract of package txn's include: it puts the transactions of a list into a set.
  The contract of package txn's Union.
  The contract of post's takeTold.
  What a Take answers, by its kind; a case whose lists are new.
  The contracts of what a cluster shows: Log, Net, Node, Case.
  The contract of a cluster's Case.
  A list of frames in memory.
  The contract of cluster's send: what is sent is under way, behind all others, but where sixty are.
  What a cluster replies; the contracts of its tell and again.
  Stores of whole members; the contract of a member's goDown.
  The contracts of the document's own byteOf and sixBytes.
  The contracts of package book's mayBeLong, Write and Tear.
  The contract of package book's first.
  The contract of package book's Read.
  The contract of a member's rise.
  What a member's take does, in plain words; what its walks share.
  The contract of a cluster's begin.
  The contract of post's Take (what is refused).
  The contract of post's Take (Told).
  The contract of post's Take (Known).
  The contract of post's Take (Done).
  The contract of post's Take.
  The contract of a cluster's comeToCase.
-/
import Derived.Test.YtkoefoccbjhoiacGreatNil10
import Derived.Test.YtkoefoccbjhoiacGreatNil6
import Derived.Test.YtkoefoccbjhoiacGreatNil2
import Derived.Test.YtkoefoccbjhoiacGreatNil8
import Derived.Test.YtkoefoccbjhoiacGreatNil9
import Derived.Test.YtkoefoccbjhoiacGreatNil4
import Derived.Maps.AppendAt
import Derived.Test.YtkoefoccbjhoiacGreatNil1
import Derived.Deep.RegionHeld3
import Derived.Deep.DrawnRows
namespace Go.Proofs.YtkoefoccbjhoiacGreat
open Go.RowKit

theorem cnt_same {c d : CluL} {S T : Sys} {n : Nat} (h : InvM c S) (k : InvM d T) (a : Ahead S T n) (hb : (S.C n).begun = true) : d.cnt = c.cnt := by
  have e : ∀ i, i < 32 → (i < d.cnt ↔ i < c.cnt) := fun i hi => by
    rw [← h.cnt.2 i hi, ← k.cnt.2 i hi]
    by_cases ei : i = n
    · subst ei
      exact ⟨fun _ => hb, fun _ => (a.mine hb).1⟩
    · rw [a.other i ei]
  have h1 := h.cnt.1
  have h2 := k.cnt.1
  rcases Nat.lt_trichotomy d.cnt c.cnt with l | l | l
  · have := (e d.cnt (by omega)).2 l; omega
  · exact l
  · have := (e c.cnt (by omega)).1 l; omega
/-- One phase. -/
theorem Calm.round {c : CluL} {S : Sys} {B n : Nat} (h : Calm c S B) (hn : n < c.cnt) (hB : B + 3100 ≤ 60000) :
    ∃ k d T, k ≤ 31 ∧ drain k (doA c ⟨5, (n : Int), 0, []⟩).1 d ∧ Calm d T (B + 3100) ∧ d.cnt = c.cnt ∧ Ahead S T n ∧ ((T.C n).fixed = true ∧ ∀ k, k < 6 → 2 ≤ ((T.B k).ent n).state) ∧
      ((S.C n).fixed = true → (∀ k, k < 6 → ((S.B k).ent n).state = 3) → (resultC (T.C n)).2 = true) := by
  have n32 : n < 32 := by have := h.inv.cnt.1; omega
  have hb := (h.inv.cnt.2 n n32).2 hn
  have R0 := h.inv.t.case n n32 hb
  have own := h.inv.u.own n n32
  obtain ⟨T0, F, P, A, eC, eB, eF⟩ := h.phase hn
  obtain ⟨k, d, T, k1, k2, k3, k4, k5⟩ := P.drains 31 P.pot (by omega)
  obtain ⟨e1, e2⟩ := k3.ended
  refine ⟨k, d, T, k1, k2, k3.calm, cnt_same h.inv k3.inv (A.trans k4) hb, A.trans k4, ⟨e1, fun k hk => (e2 k hk).2⟩, fun hf h3 => ?_⟩
  have D0 : Dn T0 F n := by
    unfold Dn
    rw [eC, eB]
    refine ⟨hf, h3, fun i hi => ?_⟩
    cases hh : (S.C n).has i
    · right
      have key : ∀ k : Nat, k < 6 → touchB (ofL (k : Int)) ((S.C n).ops.getD i (0, 0, 0)) = true → ∃ f ∈ F, (f.kind = 3 ∨ f.kind = 5) ∧ touchB (ofL f.node) ((S.C n).ops.getD i (0, 0, 0)) = true := by
        intro k hk ht
        rcases again_com R0.good hb (by omega) own hf hk with ⟨_, a⟩ | ⟨g, g1, g2, g3⟩
        · unfold CaseL.lacks at a
          rw [List.any_eq_false] at a
          exact absurd (by rw [ht, hh]; rfl) (a i (List.mem_range.2 hi))
        · exact ⟨g, by rw [eF]; exact g1, Or.inl g2, by rw [g3]; exact ht⟩
      by_cases e : touchB (ofL ((0 : Nat) : Int)) ((S.C n).ops.getD i (0, 0, 0)) = true
      · exact key 0 (by omega) e
      · refine key 3 (by omega) ?_
        unfold touchB ofL at e ⊢
        simp at e ⊢
        omega
    · exact Or.inl rfl
  obtain ⟨_, _, dn⟩ := k5 D0
  have RT := k3.inv.t.case n n32 k3.begun
  have hl := fun sh => has_lacks (c := T.C n) (fun i hi => (dn i hi).resolve_right (by rintro ⟨f, hf, _⟩; simp at hf)) sh
  unfold resultC
  rw [if_neg]
  rintro (e | e | e | e)
  · rw [k3.begun] at e; cases e
  · rw [RT.good] at e; cases e
  · rw [hl] at e; cases e
  · rw [hl] at e; cases e
/-- The first round, so far. -/
def Once (c : CluL) (S : Sys) (B n : Nat) : Prop := Calm c S B ∧ ∀ i, i < n → (S.C i).fixed = true ∧ ∀ k, k < 6 → 2 ≤ ((S.B k).ent i).state
theorem Once.step {c : CluL} {S : Sys} {B n : Nat} (h : Once c S B n) (hn : n < c.cnt) (hB : B + 3100 ≤ 60000) : ∃ k d T, k ≤ 31 ∧ drain k (doA c ⟨5, (n : Int), 0, []⟩).1 d ∧ Once d T (B + 3100) (n + 1) ∧ d.cnt = c.cnt := by
  obtain ⟨k, d, T, h1, h2, h3, h4, h5, h6, _⟩ := h.1.round hn hB
  refine ⟨k, d, T, h1, h2, ⟨h3, fun i hi => ?_⟩, h4⟩
  by_cases e : i = n
  · rw [e]; exact h6
  · obtain ⟨a, b⟩ := h.2 i (by omega)
    exact ⟨by rw [h5.other i e]; exact a, fun k hk => Int.le_trans (b k hk) (h5.state k hk i)⟩
/-- The second round, so far. -/
structure Twice (c : CluL) (S : Sys) (B n : Nat) : Prop where
  calm : Calm c S B
  all : ∀ i, i < c.cnt → (S.C i).fixed = true ∧ ∀ k, k < 6 → ((S.B k).ent i).state = 3
  told : ∀ i, i < n → (resultC (S.C i)).2 = true
theorem Twice.step {c : CluL} {S : Sys} {B n : Nat} (h : Twice c S B n) (hn : n < c.cnt) (hB : B + 3100 ≤ 60000) : ∃ k d T, k ≤ 31 ∧ drain k (doA c ⟨5, (n : Int), 0, []⟩).1 d ∧ Twice d T (B + 3100) (n + 1) ∧ d.cnt = c.cnt := by
  obtain ⟨k, d, T, h1, h2, h3, h4, h5, h6, h7⟩ := h.calm.round hn hB
  obtain ⟨a, b⟩ := h.all n hn
  have r := h7 a b
  refine ⟨k, d, T, h1, h2, ⟨h3, fun i hi => ?_, fun i hi => ?_⟩, h4⟩
  · rw [h4] at hi
    have i32 : i < 32 := by have := h.calm.inv.cnt.1; omega
    refine ⟨?_, fun k hk => ?_⟩
    · by_cases e : i = n
      · rw [e]; exact h6.1
      · rw [h5.other i e]; exact (h.all i hi).1
    · have := h5.state k hk i
      have s3 := (h.all i hi).2 k hk
      have := ((h3.inv.t.s.good k hk).state i32).2
      omega
  · by_cases e : i = n
    · rw [e]; exact r
    · rw [h5.other i e]; exact h.told i (by omega)
/-- Behind the second: all are told, all nodes have executed them, copies are alike. -/
theorem Twice.done {c : CluL} {S : Sys} {B : Nat} (h : Twice c S B c.cnt) :
    (∀ i, i < c.cnt → (resultC (c.cs i)).2 = true ∧ ∀ k, k < 6 → ((c.st k).ent i).state = 3) ∧ ∀ k m : Nat, k < 6 → m < 6 → ofL (k : Int) = ofL (m : Int) → (c.st k).vals = (c.st m).vals := by
  have st : ∀ k, k < 6 → c.st k = S.B k := fun k hk => by
    obtain ⟨_, _, _, _, _, _, l, _⟩ := h.calm.inv.log k hk
    exact (l (h.calm.up k hk).1).2
  refine ⟨fun i hi => ⟨by rw [h.calm.inv.cs]; exact h.told i hi, fun k hk => by rw [st k hk]; exact (h.all i hi).2 k hk⟩, fun k m hk hm hs => ?_⟩
  rw [st k hk, st m hm]
  exact h.calm.inv.copies hk hm hs (fun i hi => (h.all i hi).2 k hk) (fun i hi => (h.all i hi).2 m hm)

end Go.Proofs.YtkoefoccbjhoiacGreat

namespace Go.Proofs.YtkoefoccbjhoiacGreat
open Go.RowKit
set_option linter.unusedVariables false
set_option linter.unusedSimpArgs false

def TextsIn (ok : Nat → Prop) (w : World) (a : Option Addr) (zs : List (List UInt8)) : Prop :=
  zs = [] ∨ ∃ b off, a = some ⟨b, off, none⟩ ∧ ok b ∧ ∀ i, i < zs.length → w.cell? ⟨b, off + i, none⟩ = some (.string (str (zs.getD i [])))
theorem TextsIn.later {ok : Nat → Prop} {w w' : World} {a : Option Addr} {zs : List (List UInt8)} (h : TextsIn ok w a zs) (hB : SameOn ok w w') : TextsIn ok w' a zs := by
  rcases h with h | ⟨b, off, ha, hb, hc⟩
  · exact Or.inl h
  · exact Or.inr ⟨b, off, ha, hb, fun i hi => hB.cell (hc i hi) hb⟩
theorem TextsIn.mono {ok ok' : Nat → Prop} {w : World} {a : Option Addr} {zs : List (List UInt8)} (h : TextsIn ok w a zs) (hk : ∀ k, k < w.heap.size → ok k → ok' k) : TextsIn ok' w a zs := by
  rcases h with h | ⟨b, off, ha, hb, hc⟩
  · exact Or.inl h
  · cases zs with
    | nil => exact Or.inl rfl
    | cons z r => exact Or.inr ⟨b, off, ha, hk b (World.block_lt_of_cell? w _ (hc 0 (by simp))) hb, hc⟩
/-- A value that is a list of texts. -/
def IsT (ok : Nat → Prop) (w : World) (v : Value) (zs : List (List UInt8)) : Prop := ∃ a cap, v = .slice a zs.length cap ∧ TextsIn ok w a zs ∧ zs.length * 16 ≤ 140737488355328 ∧ zs.length ≤ cap ∧ (a = none → zs.length = 0 ∧ cap = 0)
theorem IsT.later {ok : Nat → Prop} {w w' : World} {v : Value} {zs : List (List UInt8)} (h : IsT ok w v zs) (hB : SameOn ok w w') : IsT ok w' v zs := by
  obtain ⟨a, cap, h1, h2, h3⟩ := h
  exact ⟨a, cap, h1, h2.later hB, h3⟩
theorem IsT.mono {ok ok' : Nat → Prop} {w : World} {v : Value} {zs : List (List UInt8)} (h : IsT ok w v zs) (hk : ∀ k, k < w.heap.size → ok k → ok' k) : IsT ok' w v zs := by
  obtain ⟨a, cap, h1, h2, h3⟩ := h
  exact ⟨a, cap, h1, h2.mono hk, h3⟩
theorem IsT.nil (ok : Nat → Prop) (w : World) : IsT ok w (.slice none 0 0) [] := ⟨none, 0, rfl, Or.inl rfl, by decide, Nat.le_refl _, fun _ => ⟨rfl, rfl⟩⟩
theorem IsT.one {ok : Nat → Prop} {w : World} {v : Value} {zs : List (List UInt8)} (h : IsT ok w v zs) : v.oneCell' = true := by
  obtain ⟨a, cap, rfl, _⟩ := h
  rfl

/-- A member: its node, its log, whether it is down, whether a tear is set, and where. -/
structure MemC (ok : Nat → Prop) (w : World) (mv : Nat → Value) (up : Bool) (st : NodeL) (log : List UInt8) (tear : Option Int) : Prop where
  st : NodeC ok w mv st
  log : mv 201 = .string (str log)
  down : mv 202 = .bool (!up)
  torn : mv 203 = .bool tear.isSome
  tear : mv 204 = .int .i64 (tear.getD 0)
theorem NodeC.same {ok : Nat → Prop} {w : World} {nv nv' : Nat → Value} {s : NodeL} (h : NodeC ok w nv s) (hn : ∀ j, j < 201 → nv' j = nv j) : NodeC ok w nv' s :=
  ⟨⟨fun i hi => (h.es.ent i hi).same fun j hj => hn _ (by omega), fun k hk => by rw [hn _ (by omega)]; exact h.es.vals k hk⟩, by rw [hn _ (by omega)]; exact h.order⟩
theorem CaseC.same {ok : Nat → Prop} {w : World} {nv nv' : Nat → Value} {c : CaseL} (h : CaseC ok w nv c) (hn : ∀ j, j < 24 → nv' j = nv j) : CaseC ok w nv' c :=
  ⟨by rw [hn _ (by omega)]; exact h.begun, by rw [hn _ (by omega)]; exact h.fixed, by rw [hn _ (by omega)]; exact h.ops, fun i hi => by rw [hn _ (by omega)]; exact h.told i hi, fun i hi => by rw [hn _ (by omega)]; exact h.known i hi,
    by rw [hn _ (by omega)]; exact h.deps, fun i hi => by rw [hn _ (by omega)]; exact h.has i hi, fun i hi => by rw [hn _ (by omega)]; exact h.vals i hi⟩
theorem MemC.same {ok : Nat → Prop} {w : World} {nv nv' : Nat → Value} {up : Bool} {st : NodeL} {log : List UInt8} {tear : Option Int} (h : MemC ok w nv up st log tear) (hn : ∀ j, j < 205 → nv' j = nv j) : MemC ok w nv' up st log tear :=
  ⟨h.st.same fun j hj => hn j (by omega), by rw [hn _ (by omega)]; exact h.log, by rw [hn _ (by omega)]; exact h.down, by rw [hn _ (by omega)]; exact h.torn, by rw [hn _ (by omega)]; exact h.tear⟩
theorem MemC.later {ok : Nat → Prop} {w w' : World} {nv : Nat → Value} {up : Bool} {st : NodeL} {log : List UInt8} {tear : Option Int} (h : MemC ok w nv up st log tear) (hB : SameOn ok w w') : MemC ok w' nv up st log tear := ⟨h.st.later hB, h.log, h.down, h.torn, h.tear⟩
theorem MemC.mono {ok ok' : Nat → Prop} {w : World} {nv : Nat → Value} {up : Bool} {st : NodeL} {log : List UInt8} {tear : Option Int} (h : MemC ok w nv up st log tear) (hk : ∀ k, k < w.heap.size → ok k → ok' k) : MemC ok' w nv up st log tear := ⟨h.st.mono hk, h.log, h.down, h.torn, h.tear⟩
theorem MemC.one {ok : Nat → Prop} {w : World} {nv : Nat → Value} {up : Bool} {st : NodeL} {log : List UInt8} {tear : Option Int} (h : MemC ok w nv up st log tear) : ∀ i, i < 205 → (nv i).oneCell' = true := by
  intro i hi
  by_cases h0 : i < 201
  · exact h.st.one i h0
  by_cases h1 : i = 201
  · subst h1; rw [h.log]; rfl
  by_cases h2 : i = 202
  · subst h2; rw [h.down]; rfl
  by_cases h3 : i = 203
  · subst h3; rw [h.torn]; rfl
  · obtain rfl : i = 204 := by omega
    rw [h.tear]; rfl

structure CluC (ok : Nat → Prop) (w : World) (cv : Nat → Value) (acts : Nat) (c : CluL) : Prop where
  acts : cv 0 = .int .i64 acts
  cnt : cv 1 = .int .i64 c.cnt
  mem : ∀ n, n < 6 → MemC ok w (fun i => cv (2 + n * 205 + i)) (c.up n) (c.st n) (c.log n) (c.tear n)
  cs : ∀ n, n < 32 → CaseC ok w (fun i => cv (1232 + n * 24 + i)) (c.cs n)
  net : IsT ok w (cv 2000) c.net
theorem CluC.later {ok : Nat → Prop} {w w' : World} {cv : Nat → Value} {acts : Nat} {c : CluL} (h : CluC ok w cv acts c) (hB : SameOn ok w w') : CluC ok w' cv acts c :=
  ⟨h.acts, h.cnt, fun n hn => (h.mem n hn).later hB, fun n hn => (h.cs n hn).later hB, h.net.later hB⟩
theorem CluC.mono {ok ok' : Nat → Prop} {w : World} {cv : Nat → Value} {acts : Nat} {c : CluL} (h : CluC ok w cv acts c) (hk : ∀ k, k < w.heap.size → ok k → ok' k) : CluC ok' w cv acts c :=
  ⟨h.acts, h.cnt, fun n hn => (h.mem n hn).mono hk, fun n hn => (h.cs n hn).mono hk, h.net.mono hk⟩
theorem CluC.one {ok : Nat → Prop} {w : World} {cv : Nat → Value} {acts : Nat} {c : CluL} (h : CluC ok w cv acts c) : ∀ i, i < 2001 → (cv i).oneCell' = true := by
  intro i hi
  by_cases h0 : i = 0
  · subst h0; rw [h.acts]; rfl
  by_cases h1 : i = 1
  · subst h1; rw [h.cnt]; rfl
  by_cases h2 : i < 1232
  · have := (h.mem ((i - 2) / 205) (by omega)).one ((i - 2) % 205) (by omega)
    rw [show 2 + (i - 2) / 205 * 205 + (i - 2) % 205 = i by omega] at this
    exact this
  by_cases h3 : i < 2000
  · have := (h.cs ((i - 1232) / 24) (by omega)).one ((i - 1232) % 24) (by omega)
    rw [show 1232 + (i - 1232) / 24 * 24 + (i - 1232) % 24 = i by omega] at this
    exact this
  · obtain rfl : i = 2000 := by omega
    exact h.net.one
/-- A member is another one. -/
theorem CluC.setMem {ok : Nat → Prop} {w : World} {cv cv' : Nat → Value} {acts : Nat} {c : CluL} (h : CluC ok w cv acts c) {n : Nat} (hn : n < 6) (ho : ∀ i, i < 2001 → (i < 2 + n * 205 ∨ 2 + n * 205 + 205 ≤ i) → cv' i = cv i)
    {up : Bool} {st : NodeL} {log : List UInt8} {tear : Option Int} (hm : MemC ok w (fun i => cv' (2 + n * 205 + i)) up st log tear) : CluC ok w cv' acts { c with up := upd c.up n up, st := upd c.st n st, log := upd c.log n log, tear := upd c.tear n tear } := by
  refine ⟨by rw [ho 0 (by omega) (by omega)]; exact h.acts, by rw [ho 1 (by omega) (by omega)]; exact h.cnt, fun k hk => ?_, fun k hk => (h.cs k hk).same fun j hj => ho _ (by omega) (by omega), by rw [ho 2000 (by omega) (by omega)]; exact h.net⟩
  show MemC ok w _ (upd c.up n up k) (upd c.st n st k) (upd c.log n log k) (upd c.tear n tear k)
  by_cases e : k = n
  · subst e
    rw [upd_same, upd_same, upd_same, upd_same]
    exact hm
  · rw [upd_other _ _ e, upd_other _ _ e, upd_other _ _ e, upd_other _ _ e]
    exact (h.mem k hk).same fun j hj => ho _ (by omega) (by omega)
/-- One cell ahead of the members, or what is under way. -/
def putC (cv : Nat → Value) (m : Nat) (v : Value) (i : Nat) : Value := if i = m then v else cv i
/-- A cluster at block p: its lists lie in blocks of which 'ok' holds, never in its own. -/
structure CluAt (ok : Nat → Prop) (w : World) (p : Nat) (cv : Nat → Value) (acts : Nat) (c : CluL) : Prop where
  row : w.heap[p]? = some (.cells (rowF 2001 cv) 92 (0, 0))
  clu : CluC ok w cv acts c
  out : ¬ ok p
theorem CluAt.blk {ok : Nat → Prop} {w : World} {p : Nat} {cv : Nat → Value} {acts : Nat} {c : CluL} (h : CluAt ok w p cv acts c) : BlkAt 2001 w p cv := ⟨_, h.row⟩
theorem CluAt.lt {ok : Nat → Prop} {w : World} {p : Nat} {cv : Nat → Value} {acts : Nat} {c : CluL} (h : CluAt ok w p cv acts c) : p < w.heap.size := h.blk.lt
theorem CluAt.later {ok : Nat → Prop} {w w' : World} {p : Nat} {cv : Nat → Value} {acts : Nat} {c : CluL} (h : CluAt ok w p cv acts c) (hB : SameOn ok w w') (hp : w'.heap[p]? = w.heap[p]?) : CluAt ok w' p cv acts c := ⟨hp.trans h.row, h.clu.later hB, h.out⟩
theorem CluAt.below {ok : Nat → Prop} {w w' : World} {p : Nat} {cv : Nat → Value} {acts : Nat} {c : CluL} (h : CluAt ok w p cv acts c) (hb : Below w.heap.size w w') : CluAt ok w' p cv acts c := h.later (SameOn.of_size hb) (hb.block p h.lt)
theorem CluAt.mono {ok ok' : Nat → Prop} {w : World} {p : Nat} {cv : Nat → Value} {acts : Nat} {c : CluL} (h : CluAt ok w p cv acts c) (hk : ∀ k, k < w.heap.size → ok k → ok' k) (ho : ¬ ok' p) : CluAt ok' w p cv acts c := ⟨h.row, h.clu.mono hk, ho⟩
theorem CluAt.cell {ok : Nat → Prop} {w : World} {p : Nat} {cv : Nat → Value} {acts : Nat} {c : CluL} (h : CluAt ok w p cv acts c) {i : Nat} (hi : i < 2001) : w.cell? ⟨p, i, none⟩ = some (cv i) := h.blk.cell hi
theorem CluAt.frozen {ok : Nat → Prop} {w : World} {p : Nat} {cv : Nat → Value} {acts : Nat} {c : CluL} (h : CluAt ok w p cv acts c) (i : Nat) : w.frozen? ⟨p, i, none⟩ = false := h.blk.frozen i
/-- One cell is written. -/
theorem CluAt.put {ok : Nat → Prop} {w : World} {p : Nat} {cv : Nat → Value} {acts acts' : Nat} {c c' : CluL} (h : CluAt ok w p cv acts c) (m : Nat) (v : Value) (hc : CluC ok w (putC cv m v) acts' c') : CluAt ok (w.setCell ⟨p, m, none⟩ v) p (putC cv m v) acts' c' := by
  refine ⟨?_, hc.later (fun k _ hk => Below.heap_setCell _ _ _ _ (fun e => h.out (by have e : k = p := e; rw [← e]; exact hk))), h.out⟩
  rw [heap_setCell_same w p m _ _ _ h.row, rowF_set]
  rfl
/-- Many cells are written. -/
def putsC (cv : Nat → Value) (o : Nat) (vs : List Value) (i : Nat) : Value := if o ≤ i ∧ i < o + vs.length then vs.getD (i - o) (.bool false) else cv i
theorem heap_setCells_other (w : World) {p k : Nat} (hk : k ≠ p) : ∀ (vs : List Value) (o : Nat) (w : World), (w.setCells p o vs).heap[k]? = w.heap[k]?
  | [], _, _ => rfl
  | v :: vs, o, w => by
    rw [World.setCells, heap_setCells_other w hk vs (o + 1)]
    exact Below.heap_setCell _ _ _ _ hk
theorem heap_setCells_row {p : Nat} {t : TypeId} : ∀ (vs : List Value) (o : Nat) {w : World} {f : Nat → Value}, w.heap[p]? = some (.cells (rowF 2001 f) t (0, 0)) → o + vs.length ≤ 2001 → (w.setCells p o vs).heap[p]? = some (.cells (rowF 2001 (putsC f o vs)) t (0, 0))
  | [], o, w, f, h, _ => by
    show w.heap[p]? = _
    rw [h, rowF_congr (g := putsC f o []) fun i _ => ?_]
    unfold putsC
    rw [if_neg (by simp)]
  | v :: vs, o, w, f, h, hl => by
    have hl : o + (vs.length + 1) ≤ 2001 := hl
    rw [World.setCells]
    have h1 : (w.setCell ⟨p, o, none⟩ v).heap[p]? = some (.cells (rowF 2001 (fun i => if i = o then v else f i)) t (0, 0)) := by rw [heap_setCell_same w p o _ _ _ h, rowF_set]
    rw [heap_setCells_row vs (o + 1) h1 (by omega), rowF_congr (g := putsC f o (v :: vs)) fun i _ => ?_]
    unfold putsC
    simp only [List.length_cons]
    by_cases e : i = o
    · subst e
      rw [if_neg (by omega), if_pos rfl, if_pos (by omega)]
      simp
    · by_cases e2 : o + 1 ≤ i ∧ i < o + 1 + vs.length
      · rw [if_pos e2, if_pos (by omega)]
        obtain ⟨k, hk⟩ : ∃ k, i - o = k + 1 := ⟨i - o - 1, by omega⟩
        rw [hk, show i - (o + 1) = k by omega]
        simp
      · rw [if_neg e2, if_neg e, if_neg (by omega)]
theorem CluAt.puts {ok : Nat → Prop} {w : World} {p : Nat} {cv : Nat → Value} {acts acts' : Nat} {c c' : CluL} (h : CluAt ok w p cv acts c) (o : Nat) (vs : List Value) (hl : o + vs.length ≤ 2001) (hc : CluC ok w (putsC cv o vs) acts' c') : CluAt ok (w.setCells p o vs) p (putsC cv o vs) acts' c' :=
  ⟨heap_setCells_row vs o h.row hl, hc.later (fun k _ hk => heap_setCells_other w (fun e => h.out (by rw [← e]; exact hk)) vs o w), h.out⟩
theorem putsC_in {cv : Nat → Value} {o : Nat} {N : Nat} {f : Nat → Value} {i : Nat} (hi : i < N) : putsC cv o (rowF N f).toList (o + i) = f i := by
  unfold putsC
  have hl : (rowF N f).toList.length = N := by simp [rowF]
  rw [hl, if_pos (by omega), show o + i - o = i by omega]
  simp [rowF, hi]
theorem putsC_out {cv : Nat → Value} {o : Nat} {N : Nat} {f : Nat → Value} {i : Nat} (hi : i < o ∨ o + N ≤ i) : putsC cv o (rowF N f).toList i = cv i := by
  unfold putsC
  have hl : (rowF N f).toList.length = N := by simp [rowF]
  rw [hl, if_neg (by omega)]

theorem CluAt.range {ok : Nat → Prop} {w : World} {p : Nat} {cv : Nat → Value} {acts : Nat} {c : CluL} (h : CluAt ok w p cv acts c) {o n : Nat} (ho : o + n ≤ 2001) : w.rangeAt p o (rowF n fun i => cv (o + i)).toList := h.blk.range ho
end Go.Proofs.YtkoefoccbjhoiacGreat

namespace Go.Proofs.YtkoefoccbjhoiacGreat
open Go.RowKit

theorem run_part_ints {P : Program} {e : TypeId} (he : P.underlying e = some (.int .i64)) (hi : (P.info? e).map (·.size) = some 1) {n : Nat} (S : Nat → Int) {k : Nat} (hk : k < n) (w : World) :
    (part e (rowF n fun i => .int .i64 (S i)) k).run P w = .ok (.int .i64 (S k)) w := by
  cases hq : P.info? e with
  | none => simp [hq] at hi
  | some i =>
    have hs : i.size = 1 := by simpa [hq] using hi
    have hg := rowF_get (fun i => Value.int .i64 (S i)) hk
    simp [part, isAgg, run_underlying he, sizeOf, typeInfo, hq, hs, hg, go_sem]
    try omega
theorem run_equalIn_row {P : Program} {t e : TypeId} {n : Nat} (d : Nat) (ht : P.underlying t = some (.array n e)) (he : P.underlying e = some (.int .i64)) (hi : (P.info? e).map (·.size) = some 1) (S : Nat → Int) (w : World) :
    (Op.equalIn (d + 2) t (.agg (rowF n fun i => .int .i64 (S i))) (.agg (rowF n fun i => .int .i64 (S i)))).run P w = .ok true w := by
  have hsz : ∀ w, (sizeOf e).run P w = .ok 1 w := by
    intro w
    cases hq : P.info? e with
    | none => simp [hq] at hi
    | some i =>
      have hs : i.size = 1 := by simpa [hq] using hi
      simp [sizeOf, typeInfo, hq, hs]
  rw [Op.equalIn]
  simp only [Sem.run_bind, run_underlying ht, Result.andThen_ok, hsz, Std.Legacy.Range.forIn_eq_forIn_range', Std.Legacy.Range.size, Nat.sub_zero, Nat.add_sub_cancel, Nat.div_one]
  have hl : ∀ i ∈ List.range' 0 n 1, i < n := fun i hi => by simpa using (List.mem_range'_1.1 hi).2
  generalize List.range' 0 n 1 = l at hl ⊢
  induction l with
  | nil => simp
  | cons i l ih =>
    have hk : i < n := hl i (by simp)
    have px := run_part_ints he hi S hk w
    have pe : (Op.equalIn (d + 1) e (.int .i64 (S i)) (.int .i64 (S i))).run P w = .ok true w := by simp [Op.equalIn, run_underlying he]
    simp only [List.forIn_cons, Sem.run_bind, Nat.mul_one, px, pe, Result.andThen_ok]
    simp only [Bool.not_true, Bool.false_eq_true, if_false, Sem.run_pure, Result.andThen_ok]
    simpa only [Nat.mul_one] using ih fun j hj => hl j (by simp [hj])
theorem Tryz.infoInt1 : (Tryz.prog.info? 3).map (·.size) = some 1 := by kernel_rfl
theorem Tryz.infoVals : (Tryz.prog.info? 30).map (·.size) = some 8 := by kernel_rfl
theorem Tryz.valsGuard : Tryz.prog.eqGuardType Tryz.prog.depth 30 = false := by kernel_rfl

end Go.Proofs.YtkoefoccbjhoiacGreat

namespace Go.Proofs.YtkoefoccbjhoiacGreat
open Go.RowKit

def sameI (n : Nat) (S T : Nat → Int) : Bool := (List.range n).all fun i => S i == T i
theorem run_equalIn_rows {P : Program} {t e : TypeId} {n : Nat} (d : Nat) (ht : P.underlying t = some (.array n e)) (he : P.underlying e = some (.int .i64)) (hi : (P.info? e).map (·.size) = some 1) (S T : Nat → Int) (w : World) :
    (Op.equalIn (d + 2) t (.agg (rowF n fun i => .int .i64 (S i))) (.agg (rowF n fun i => .int .i64 (T i)))).run P w = .ok (sameI n S T) w := by
  have hsz : ∀ w, (sizeOf e).run P w = .ok 1 w := by
    intro w
    cases hq : P.info? e with
    | none => simp [hq] at hi
    | some i =>
      have hs : i.size = 1 := by simpa [hq] using hi
      simp [sizeOf, typeInfo, hq, hs]
  unfold sameI
  rw [List.range_eq_range', Op.equalIn]
  simp only [Sem.run_bind, run_underlying ht, Result.andThen_ok, hsz, Std.Legacy.Range.forIn_eq_forIn_range', Std.Legacy.Range.size, Nat.sub_zero, Nat.add_sub_cancel, Nat.div_one]
  have hl : ∀ i ∈ List.range' 0 n 1, i < n := fun i hi => by simpa using (List.mem_range'_1.1 hi).2
  generalize List.range' 0 n 1 = l at hl ⊢
  induction l with
  | nil => simp
  | cons i l ih =>
    have hk : i < n := hl i (by simp)
    have px := run_part_ints he hi S hk w
    have py := run_part_ints he hi T hk w
    have pe : (Op.equalIn (d + 1) e (.int .i64 (S i)) (.int .i64 (T i))).run P w = .ok (S i == T i) w := by simp [Op.equalIn, run_underlying he]
    simp only [List.forIn_cons, Sem.run_bind, Nat.mul_one, px, py, pe, Result.andThen_ok, List.all_cons]
    cases hb : (S i == T i)
    · simp
    · simp only [Bool.not_true, Bool.false_eq_true, if_false, Sem.run_pure, Result.andThen_ok, Bool.true_and]
      simpa only [Nat.mul_one] using ih fun j hj => hl j (by simp [hj])
theorem Tryz.infoSix : (Tryz.prog.info? 43).map (·.size) = some 6 := by kernel_rfl
theorem Tryz.infoFour : (Tryz.prog.info? 44).map (·.size) = some 4 := by kernel_rfl
theorem Tryz.infoFourI : (Tryz.prog.info? 45).map (·.size) = some 4 := by kernel_rfl
theorem Tryz.sixGuard : Tryz.prog.eqGuardType Tryz.prog.depth 43 = false := by kernel_rfl
theorem Tryz.fourGuard : Tryz.prog.eqGuardType Tryz.prog.depth 44 = false := by kernel_rfl
theorem Tryz.fourIGuard : Tryz.prog.eqGuardType Tryz.prog.depth 45 = false := by kernel_rfl

/-- The parts of a case that lie in its box. -/
theorem rowF_list (n : Nat) (f : Nat → Value) : (rowF n f).toList = (List.range n).map f := by simp [rowF]
theorem BlkAt.truths {w : World} {b o n N : Nat} {nv : Nat → Value} {S : Nat → Bool} (h : BlkAt N w b nv) (hn : o + n ≤ N) (hs : ∀ i, i < n → nv (o + i) = .bool (S i)) : w.rangeAt b o (bools n S).toList := by
  have := h.range (o := o) (n := n) hn
  rw [bools_row, rowF_list, ← List.map_congr_left (fun i hi => hs i (List.mem_range.1 hi))]
  exact this
theorem BlkAt.numbers {w : World} {b o n N : Nat} {nv : Nat → Value} {S : Nat → Int} (h : BlkAt N w b nv) (hn : o + n ≤ N) (hs : ∀ i, i < n → nv (o + i) = .int .i64 (S i)) : w.rangeAt b o (rowF n fun i => .int .i64 (S i)).toList := by
  have := h.range (o := o) (n := n) hn
  rw [rowF_list, ← List.map_congr_left (fun i hi => hs i (List.mem_range.1 hi))]
  exact this

end Go.Proofs.YtkoefoccbjhoiacGreat

namespace Go.Proofs.YtkoefoccbjhoiacGreat
open Go.RowKit

end Go.Proofs.YtkoefoccbjhoiacGreat

namespace Go.Proofs.YtkoefoccbjhoiacGreat
open Go.RowKit

/-- A case by value: its cells are 'gr'. -/
def CaseV (w : World) (gr : Array Value) (c : CaseL) : Prop := ∃ nv, gr = rowF 24 nv ∧ CaseC (· < w.heap.size) w nv c
theorem CaseV.later {w w' : World} {gr : Array Value} {c : CaseL} (h : CaseV w gr c) (hb : Below w.heap.size w w') : CaseV w' gr c := by
  obtain ⟨nv, e, h⟩ := h
  exact ⟨nv, e, h.below hb⟩
theorem CaseV.size {w : World} {gr : Array Value} {c : CaseL} (h : CaseV w gr c) : gr.size = 24 := by
  obtain ⟨nv, e, _⟩ := h
  rw [e, rowF_size]
theorem CaseV.info {w : World} {gr : Array Value} {c : CaseL} (h : CaseV w gr c) : (Tryz.prog.info? 47).map (·.size) = some gr.size := by rw [h.size]; exact Tryz.infoCase
theorem CaseV.one {w : World} {gr : Array Value} {c : CaseL} (h : CaseV w gr c) : gr.all (·.oneCell') = true := by
  obtain ⟨nv, e, h⟩ := h
  rw [e]
  exact rowF_all h.one
/-- A case in a box. -/
structure InBox (b : Nat) (w : World) (gr : Array Value) (c : CaseL) : Prop where
  row : w.heap[b]? = some (.cells gr 47 (0, 0))
  case : CaseV w gr c
theorem InBox.later {b : Nat} {w w' : World} {gr : Array Value} {c : CaseL} (h : InBox b w gr c) (hb : Below w.heap.size w w') : InBox b w' gr c :=
  ⟨by rw [hb.block b (Array.getElem?_eq_some_iff.1 h.row).1]; exact h.row, h.case.later hb⟩
theorem InBox.lt {b : Nat} {w : World} {gr : Array Value} {c : CaseL} (h : InBox b w gr c) : b < w.heap.size := (Array.getElem?_eq_some_iff.1 h.row).1
theorem InBox.new {w : World} {gr : Array Value} {c : CaseL} (h : CaseV w gr c) : InBox w.heap.size (w.alloc (.cells gr 47)) gr c :=
  ⟨heap_new _ _, h.later ((Below.refl _ _).alloc (Nat.le_refl _) _)⟩
theorem InBox.blk {b : Nat} {w : World} {gr : Array Value} {c : CaseL} (h : InBox b w gr c) : ∃ nv, gr = rowF 24 nv ∧ BlkAt 24 w b nv ∧ CaseC (· < w.heap.size) w nv c := by
  obtain ⟨nv, e, hc⟩ := h.case
  exact ⟨nv, e, ⟨_, by rw [← e]; exact h.row⟩, hc⟩
theorem InBox.begun {b : Nat} {w : World} {gr : Array Value} {c : CaseL} (h : InBox b w gr c) : w.cell? ⟨b, 0, none⟩ = some (.bool c.begun) := by
  obtain ⟨nv, _, hb, hc⟩ := h.blk
  rw [hb.cell (by omega), hc.begun]
theorem InBox.fixed {b : Nat} {w : World} {gr : Array Value} {c : CaseL} (h : InBox b w gr c) : w.cell? ⟨b, 1, none⟩ = some (.bool c.fixed) := by
  obtain ⟨nv, _, hb, hc⟩ := h.blk
  rw [hb.cell (by omega), hc.fixed]
theorem InBox.ops {b : Nat} {w : World} {gr : Array Value} {c : CaseL} (h : InBox b w gr c) : ∃ a cap, w.cell? ⟨b, 2, none⟩ = some (.slice a c.ops.length cap) ∧ SlOps w a cap c.ops ∧ c.ops.length * 24 ≤ 140737488355328 := by
  obtain ⟨nv, _, hb, hc⟩ := h.blk
  obtain ⟨a, cap, e, hs⟩ := hc.ops.sl
  obtain ⟨_, _, _, _, hl, _⟩ := hc.ops
  exact ⟨a, cap, by rw [hb.cell (by omega), e], hs, hl⟩
theorem InBox.deps {b : Nat} {w : World} {gr : Array Value} {c : CaseL} (h : InBox b w gr c) : ∃ a cap, w.cell? ⟨b, 15, none⟩ = some (.slice a c.deps.length cap) ∧ SlInts w a cap c.deps ∧ c.deps.length * 8 ≤ 140737488355328 := by
  obtain ⟨nv, _, hb, hc⟩ := h.blk
  obtain ⟨a, cap, e, hs⟩ := hc.deps.sl
  obtain ⟨_, _, _, _, hl, _⟩ := hc.deps
  exact ⟨a, cap, by rw [hb.cell (by omega), e], hs, hl⟩
theorem InBox.told {b : Nat} {w : World} {gr : Array Value} {c : CaseL} (h : InBox b w gr c) {i : Nat} (hi : i < 6) : w.cell? ⟨b, 3 + i, none⟩ = some (.bool (c.told i)) := by
  obtain ⟨nv, _, hb, hc⟩ := h.blk
  rw [hb.cell (by omega), hc.told i hi]
theorem InBox.known {b : Nat} {w : World} {gr : Array Value} {c : CaseL} (h : InBox b w gr c) {i : Nat} (hi : i < 6) : w.cell? ⟨b, 9 + i, none⟩ = some (.bool (c.known i)) := by
  obtain ⟨nv, _, hb, hc⟩ := h.blk
  rw [hb.cell (by omega), hc.known i hi]
theorem InBox.has {b : Nat} {w : World} {gr : Array Value} {c : CaseL} (h : InBox b w gr c) {i : Nat} (hi : i < 4) : w.cell? ⟨b, 16 + i, none⟩ = some (.bool (c.has i)) := by
  obtain ⟨nv, _, hb, hc⟩ := h.blk
  rw [hb.cell (by omega), hc.has i hi]
theorem InBox.vals {b : Nat} {w : World} {gr : Array Value} {c : CaseL} (h : InBox b w gr c) {i : Nat} (hi : i < 4) : w.cell? ⟨b, 20 + i, none⟩ = some (.int .i64 (c.vals i)) := by
  obtain ⟨nv, _, hb, hc⟩ := h.blk
  rw [hb.cell (by omega), hc.vals i hi]
theorem InBox.rTold {b : Nat} {w : World} {gr : Array Value} {c : CaseL} (h : InBox b w gr c) : w.rangeAt b 3 (bools 6 c.told).toList := by
  obtain ⟨nv, _, hb, hc⟩ := h.blk
  exact hb.truths (by omega) hc.told
theorem InBox.rKnown {b : Nat} {w : World} {gr : Array Value} {c : CaseL} (h : InBox b w gr c) : w.rangeAt b 9 (bools 6 c.known).toList := by
  obtain ⟨nv, _, hb, hc⟩ := h.blk
  exact hb.truths (by omega) hc.known
theorem InBox.rHas {b : Nat} {w : World} {gr : Array Value} {c : CaseL} (h : InBox b w gr c) : w.rangeAt b 16 (bools 4 c.has).toList := by
  obtain ⟨nv, _, hb, hc⟩ := h.blk
  exact hb.truths (by omega) hc.has
theorem InBox.rVals {b : Nat} {w : World} {gr : Array Value} {c : CaseL} (h : InBox b w gr c) : w.rangeAt b 20 (rowF 4 fun i => .int .i64 (c.vals i)).toList := by
  obtain ⟨nv, _, hb, hc⟩ := h.blk
  exact hb.numbers (by omega) hc.vals
theorem InBox.range {b : Nat} {w : World} {gr : Array Value} {c : CaseL} (h : InBox b w gr c) : w.rangeAt b 0 gr.toList := by
  intro j v hv
  rw [cell_of_row w b (0 + j) _ _ _ h.row, Nat.zero_add]
  simpa using hv
theorem CaseV.len {w : World} {gr : Array Value} {c : CaseL} (h : CaseV w gr c) : (Tryz.prog.info? 47).map (·.size) = some gr.toList.length := by rw [Array.length_toList]; exact h.info
theorem zero_case (w : World) : CaseV w (rowF 24 zcv) zeroC := ⟨zcv, rfl, zcv_case _ w⟩
theorem Tryz.sizeSix (S : Nat → Bool) : (Tryz.prog.info? 43).map (·.size) = some (bools 6 S).toList.length := by rw [bools_len]; exact Tryz.infoSix
theorem Tryz.sizeFour (S : Nat → Bool) : (Tryz.prog.info? 44).map (·.size) = some (bools 4 S).toList.length := by rw [bools_len]; exact Tryz.infoFour
theorem Tryz.sizeFourI (S : Nat → Int) : (Tryz.prog.info? 45).map (·.size) = some (rowF 4 fun i => Value.int .i64 (S i)).toList.length := by rw [rowF_list, List.length_map, List.length_range]; exact Tryz.infoFourI
theorem row_six (S : Nat → Bool) : RowT Tryz.prog 43 (bools 6 S).toList.length := ⟨_, Tryz.underlying43, rfl, Tryz.sizeSix S⟩
theorem row_four (S : Nat → Bool) : RowT Tryz.prog 44 (bools 4 S).toList.length := ⟨_, Tryz.underlying44, rfl, Tryz.sizeFour S⟩
theorem row_fourI (S : Nat → Int) : RowT Tryz.prog 45 (rowF 4 fun i => Value.int .i64 (S i)).toList.length := ⟨_, Tryz.underlying45, rfl, Tryz.sizeFourI S⟩
theorem CaseV.row {w : World} {gr : Array Value} {c : CaseL} (h : CaseV w gr c) : RowT Tryz.prog 47 gr.size := ⟨_, Tryz.underlying47, rfl, h.info⟩
end Go.Proofs.YtkoefoccbjhoiacGreat

namespace Go.Proofs.YtkoefoccbjhoiacGreat
open Go.RowKit

/-- A reply whose list lies from B on. -/
def ReplyV (B : Nat) (w : World) (v : Value) (r : ReplyL) : Prop := ∃ x, v = .agg #[.int .i64 r.code, .int .i64 r.n, x] ∧ IsI (B ≤ ·) w x r.vals
theorem ReplyV.later {B : Nat} {w w' : World} {v : Value} {r : ReplyL} (h : ReplyV B w v r) (hb : Below w.heap.size w w') : ReplyV B w' v r := by
  obtain ⟨x, e, h⟩ := h
  exact ⟨x, e, h.later (SameOn.of_size hb)⟩
theorem ReplyV.same {B : Nat} {w w' : World} {v : Value} {r : ReplyL} (h : ReplyV B w v r) (hb : SameOn (B ≤ ·) w w') : ReplyV B w' v r := by
  obtain ⟨x, e, h⟩ := h
  exact ⟨x, e, h.later hb⟩
theorem ReplyV.mono {B B' : Nat} {w : World} {v : Value} {r : ReplyL} (h : ReplyV B w v r) (hB : B' ≤ B) : ReplyV B' w v r := by
  obtain ⟨x, e, h⟩ := h
  exact ⟨x, e, h.mono fun k _ (hk : B ≤ k) => by omega⟩
/-- An act that came in. -/
def ActV (w : World) (v : Value) (a : ActL) : Prop := ∃ ad cap, v = .agg #[.int .i64 a.kind, .int .i64 a.n, .int .i64 a.m, .slice ad a.ops.length cap] ∧ SlOps w ad cap a.ops
theorem ActV.later {w w' : World} {v : Value} {a : ActL} (h : ActV w v a) (hb : Below w.heap.size w w') : ActV w' v a := by
  obtain ⟨ad, cap, e, h⟩ := h
  exact ⟨ad, cap, e, h.later hb⟩

theorem Tryz.infoReply3 : (Tryz.prog.info? 38).map (·.size) = some 3 := by kernel_rfl
set_option maxRecDepth 100000 in
set_option maxHeartbeats 400000 in
theorem q_refuse (e : Int) (w : World) :
    Calls Tryz.prog 46 #[.int .i64 e] w fun r w' => r = .returned (.agg #[.int .i64 e, .int .i64 0, .slice none 0 0]) ∧ Below w.heap.size w w' := by
  go_enter Tryz.func46, Tryz.ntmps46
  go_wp2
  exact bodyPost_ret (v := .agg #[.int .i64 e, .int .i64 0, .slice none 0 0]) (results_cell_row Tryz.results46 _ _ w.heap.size 38 _ (0, 0) _ rfl (heap_new _ _) Tryz.underlying38 rfl Tryz.infoReply3) rfl ⟨rfl, (Below.refl _ _).alloc (Nat.le_refl _) _⟩

end Go.Proofs.YtkoefoccbjhoiacGreat

namespace Go.Proofs.YtkoefoccbjhoiacGreat
open Go.RowKit

def textCells (zs : List (List UInt8)) : List Value := zs.map fun z => Value.string (str z)
theorem TextsIn.news {w w1 : World} {ad : Addr} {zs : List (List UInt8)} (h : TextsIn (· < w.heap.size) w (some ad) zs) (hb : Below w.heap.size w w1) : ∀ j u, (textCells zs)[j]? = some u → w1.cell? (ad.add j) = some u := by
  intro j u hu
  rcases h with rfl | ⟨b, off, hb', hlt, hc⟩
  · simp [textCells] at hu
  · obtain rfl : ad = ⟨b, off, none⟩ := by simpa using hb'
    have hj : j < zs.length := by
      obtain ⟨hj, _⟩ := List.getElem?_eq_some_iff.1 hu
      simpa [textCells] using hj
    rw [add_none, hb.cell (p := ⟨b, off + j, none⟩) hlt, hc j hj]
    simp [textCells, hj] at hu
    simp [List.getD, hj, hu]
/-- What the call made for itself. -/
theorem IsT.of_owns {w : World} {base : Nat} {e : TypeId} {v : Value} {zs : List (List UInt8)} (h : w.ownsRow base e 1 v zs.length (textCells zs)) (hl : zs.length * 16 ≤ 140737488355328) : IsT (base ≤ ·) w v zs := by
  rcases h.2 with ⟨rfl, hn⟩ | ⟨g, cap, cur, rfl, hg, hh, hc, hm, hcur, hx⟩
  · exact ⟨none, 0, by rw [hn], Or.inl (List.eq_nil_of_length_eq_zero hn), hl, by omega, fun _ => ⟨hn, rfl⟩⟩
  · refine ⟨some ⟨g, 0, none⟩, cap, rfl, Or.inr ⟨g, 0, rfl, hg, fun i hi => ?_⟩, hl, hc, fun e => by cases e⟩
    rw [cell_of_row w g (0 + i) cur e _ hh]
    have h1 : (cur.toList.take (zs.length * 1))[i]? = (textCells zs)[i]? := by rw [hx]
    rw [List.getElem?_take_of_lt (by omega)] at h1
    simp only [Array.getElem?_toList] at h1
    rw [Nat.zero_add, h1]
    simp [textCells, List.getD, hi]

end Go.Proofs.YtkoefoccbjhoiacGreat

namespace Go.Proofs.YtkoefoccbjhoiacGreat
open Go.RowKit

def isZeroB (c : CaseL) : Bool := !c.fixed && (decide (c.ops.length + c.deps.length = 0) && (sameB 6 c.told (fun _ => false) && (sameB 6 c.known (fun _ => false) && (sameB 4 c.has (fun _ => false) && sameI 4 c.vals (fun _ => 0)))))

end Go.Proofs.YtkoefoccbjhoiacGreat

namespace Go.Proofs.YtkoefoccbjhoiacGreat
open Go.RowKit

theorem zero_good {c : CaseL} (hb : c.begun = false) : goodCB c = isZeroB c := by
  unfold goodCB isZeroB
  rw [if_neg (by rw [hb]; decide), Bool.eq_iff_iff]
  simp only [Bool.and_eq_true, Bool.not_eq_true', List.isEmpty_iff, noneB, sameB, sameI, List.all_eq_true, List.mem_range, decide_eq_true_eq, beq_iff_eq]
  constructor
  · rintro ⟨⟨⟨⟨⟨⟨h1, h2⟩, h3⟩, h4⟩, h5⟩, h6⟩, h7⟩
    exact ⟨h1, by rw [h2, h5]; rfl, h3, h4, h6, h7⟩
  · rintro ⟨h1, h2, h3, h4, h6, h7⟩
    exact ⟨⟨⟨⟨⟨⟨h1, List.eq_nil_of_length_eq_zero (by omega)⟩, h3⟩, h4⟩, List.eq_nil_of_length_eq_zero (by omega)⟩, h6⟩, h7⟩

end Go.Proofs.YtkoefoccbjhoiacGreat

namespace Go.Proofs.YtkoefoccbjhoiacGreat
open Go.RowKit

end Go.Proofs.YtkoefoccbjhoiacGreat

namespace Go.Proofs.YtkoefoccbjhoiacGreat
open Go.RowKit

theorem flat7 : ∀ (css : List (List Value)) (i j : Nat), (∀ k, k < css.length → (css.getD k []).length = 7) → i < css.length → j < 7 → css.flatten[i * 7 + j]? = (css.getD i [])[j]?
  | [], i, j, _, hi, _ => by simp at hi
  | c :: css, 0, j, h, _, hj => by
    have h0 : c.length = 7 := by have := h 0 (by simp); simpa using this
    simp only [List.flatten_cons, Nat.zero_mul, Nat.zero_add, List.getD_cons_zero]
    rw [List.getElem?_append_left (by omega)]
  | c :: css, i + 1, j, h, hi, hj => by
    have h0 : c.length = 7 := by have := h 0 (by simp); simpa using this
    have ih := flat7 css i j (fun k hk => by have := h (k + 1) (by simp; omega); simpa using this) (by simp at hi; omega) hj
    simp only [List.flatten_cons, List.getD_cons_succ]
    rw [List.getElem?_append_right (by omega), ← ih]
    congr 1
    omega
/-- The i-th of them. -/
theorem FramesV.at {B : Nat} {w : World} {a : Option Addr} {cap : Nat} {fs : List FrameL} (h : FramesV B w (.slice a fs.length cap) fs) {i : Nat} (hi : i < fs.length) :
    ∃ g cs, a = some ⟨g, 0, none⟩ ∧ g < w.heap.size ∧ w.rangeAt g (i * 7) cs ∧ cs.length = 7 ∧ FrameV w (.agg cs.toArray) fs[i] := by
  obtain ⟨css, h1, h2, h3⟩ := h
  rcases h2.2 with ⟨_, h0⟩ | ⟨g, cp, cur, hv, hB, hg, hc, hm, hcs, htk⟩
  · omega
  · simp only [Value.slice.injEq] at hv
    obtain ⟨rfl, _, rfl⟩ := hv
    have hlt : g < w.heap.size := (Array.getElem?_eq_some_iff.1 hg).1
    refine ⟨g, css.getD i [], rfl, hlt, fun j u hu => ?_, (h3 i hi).1, (h3 i hi).2.v⟩
    have hj : j < 7 := by
      have := (List.getElem?_eq_some_iff.1 hu).1
      rw [(h3 i hi).1] at this
      exact this
    have hf := flat7 css i j (fun k hk => (h3 k (by omega)).1) (by omega) hj
    rw [hu, ← htk, List.getElem?_take_of_lt (by omega)] at hf
    rw [cell_of_row w g (i * 7 + j) cur _ _ hg]
    simpa using hf
theorem FramesV.form {B : Nat} {w : World} {v : Value} {fs : List FrameL} (h : FramesV B w v fs) : ∃ a cap, v = .slice a fs.length cap := by
  obtain ⟨css, _, h2, _⟩ := h
  obtain ⟨a, cap, e, _⟩ := own_form h2
  exact ⟨a, cap, e⟩
theorem FramesV.len {B : Nat} {w : World} {v : Value} {fs : List FrameL} (h : FramesV B w v fs) : fs.length ≤ maxLen := by
  obtain ⟨css, _, h2, _⟩ := h
  rcases h2.2 with ⟨_, h0⟩ | ⟨g, cp, cur, _, _, _, hc, hm, _⟩
  · omega
  · omega

end Go.Proofs.YtkoefoccbjhoiacGreat

namespace Go.Proofs.YtkoefoccbjhoiacGreat
open Go.RowKit

/-- A frame whose lists lie in blocks of which 'ok' holds. -/
def FrameIn (ok : Nat → Prop) (w : World) (v : Value) (f : FrameL) : Prop := ∃ a3 c3 a4 c4 a5 c5 a6 c6,
  v = .agg #[.int .i64 f.kind, .int .i64 f.node, .int .i64 f.id, .slice a3 f.ops.length c3, .slice a4 f.deps.length c4, .slice a5 f.ats.length c5, .slice a6 f.vals.length c6] ∧
  (SlOps w a3 c3 f.ops ∧ OpsIn ok w a3 f.ops) ∧ (SlInts w a4 c4 f.deps ∧ IntsIn ok w a4 f.deps) ∧ (SlInts w a5 c5 f.ats ∧ IntsIn ok w a5 f.ats) ∧ (SlInts w a6 c6 f.vals ∧ IntsIn ok w a6 f.vals)
theorem FrameIn.g {B : Nat} {w : World} {v : Value} {f : FrameL} (h : FrameIn (B ≤ ·) w v f) : FrameG B w v f := h
theorem FrameIn.v {ok : Nat → Prop} {w : World} {v : Value} {f : FrameL} (h : FrameIn ok w v f) : FrameV w v f := by
  obtain ⟨a3, c3, a4, c4, a5, c5, a6, c6, e, h3, h4, h5, h6⟩ := h
  exact ⟨a3, c3, a4, c4, a5, c5, a6, c6, e, h3.1, h4.1, h5.1, h6.1⟩
theorem FrameIn.same {ok : Nat → Prop} {w w' : World} {v : Value} {f : FrameL} (h : FrameIn ok w v f) (hb : SameOn ok w w') : FrameIn ok w' v f := by
  obtain ⟨a3, c3, a4, c4, a5, c5, a6, c6, e, h3, h4, h5, h6⟩ := h
  exact ⟨a3, c3, a4, c4, a5, c5, a6, c6, e, slO_same h3 hb, slI_same h4 hb, slI_same h5 hb, slI_same h6 hb⟩
theorem FrameIn.mono {ok ok' : Nat → Prop} {w : World} {v : Value} {f : FrameL} (h : FrameIn ok w v f) (hk : ∀ k, k < w.heap.size → ok k → ok' k) : FrameIn ok' w v f := by
  obtain ⟨a3, c3, a4, c4, a5, c5, a6, c6, e, h3, h4, h5, h6⟩ := h
  exact ⟨a3, c3, a4, c4, a5, c5, a6, c6, e, ⟨h3.1, h3.2.mono hk⟩, ⟨h4.1, h4.2.mono hk⟩, ⟨h5.1, h5.2.mono hk⟩, ⟨h6.1, h6.2.mono hk⟩⟩

/-- A list of frames of which the lists lie beside it, where 'ok' holds. -/
structure FrC (ok : Nat → Prop) (base : Nat) (w : World) (v : Value) (fs : List FrameL) (css : List (List Value)) : Prop where
  len : css.length = fs.length
  own : w.ownsRow base 123 7 v fs.length css.flatten
  each : ∀ i (h : i < fs.length), (css.getD i []).length = 7 ∧ FrameIn (fun b => ok b ∧ v.ownBlock ≠ some b) w (.agg (css.getD i []).toArray) fs[i]
theorem FrC.nil (ok : Nat → Prop) (base : Nat) (w : World) : FrC ok base w (.slice none 0 0) [] [] := ⟨rfl, World.ownsRow_nil _ _ _ _, fun _ h => by simp at h⟩
theorem FrC.v {ok : Nat → Prop} {base B : Nat} {w : World} {v : Value} {fs : List FrameL} {css : List (List Value)} (h : FrC ok base w v fs css) (hB : B ≤ base) (hok : ∀ b, ok b → B ≤ b) : FramesV B w v fs :=
  ⟨css, h.len, own_mono h.own hB, fun i hi => ⟨(h.each i hi).1, ((h.each i hi).2.mono (fun b _ hb => hok b hb.1)).g⟩⟩
theorem FrC.later {ok : Nat → Prop} {base : Nat} {w w' : World} {v : Value} {fs : List FrameL} {css : List (List Value)} (h : FrC ok base w v fs css) (hb : Below w.heap.size w w') : FrC ok base w' v fs css :=
  ⟨h.len, own_same h.own (fun k hk => hb.block k (World.ownsRow.lt h.own k hk).2), fun i hi => ⟨(h.each i hi).1, (h.each i hi).2.same (SameOn.of_size hb)⟩⟩
theorem FrC.mono {ok ok' : Nat → Prop} {base : Nat} {w : World} {v : Value} {fs : List FrameL} {css : List (List Value)} (h : FrC ok base w v fs css) (hk : ∀ k, k < w.heap.size → ok k → ok' k) : FrC ok' base w v fs css :=
  ⟨h.len, h.own, fun i hi => ⟨(h.each i hi).1, (h.each i hi).2.mono (fun b hb h => ⟨hk b hb h.1, h.2⟩)⟩⟩
/-- One more. -/
theorem FrC.snoc {ok : Nat → Prop} {base : Nat} {x Q : World} {v v' : Value} {fs : List FrameL} {css : List (List Value)} (h : FrC ok base x v fs css) {cs : List Value} {f : FrameL} (hl : cs.length = 7)
    (hf : FrameIn (fun b => ok b ∧ v.ownBlock ≠ some b) x (.agg cs.toArray) f) (hown : Q.ownsRow base 123 7 v' (fs.length + 1) (css.flatten ++ cs)) (hg : x.grownBy Q v.ownBlock)
    (hat : v'.ownBlock = v.ownBlock ∨ v'.ownBlock = some x.heap.size) : FrC ok base Q v' (fs ++ [f]) (css ++ [cs]) := by
  have step : ∀ {u : Value} {g : FrameL}, FrameIn (fun b => ok b ∧ v.ownBlock ≠ some b) x u g → FrameIn (fun b => ok b ∧ v'.ownBlock ≠ some b) Q u g := by
    intro u g hu
    have h1 : FrameIn (fun b => (ok b ∧ v.ownBlock ≠ some b) ∧ b < x.heap.size) x u g := hu.mono (fun b hb h => ⟨h, hb⟩)
    have h2 := h1.same (w' := Q) (fun b hb hk => hg.block b hb (fun e => hk.1.2 e.symm))
    refine h2.mono (fun b _ hk => ⟨hk.1.1, fun e => ?_⟩)
    rcases hat with hat | hat
    · exact hk.1.2 (by rw [← hat]; exact e)
    · rw [hat] at e
      have hb := hk.2
      cases e
      omega
  refine ⟨by simp [h.len], by simpa using hown, fun i hi => ?_⟩
  by_cases hlt : i < fs.length
  · have e1 : (css ++ [cs]).getD i [] = css.getD i [] := by simp [List.getD, List.getElem?_append_left (show i < css.length by rw [h.len]; exact hlt)]
    rw [e1, List.getElem_append_left hlt]
    exact ⟨(h.each i hlt).1, step (h.each i hlt).2⟩
  · have hie : i = fs.length := by simp at hi; omega
    subst hie
    have e1 : (css ++ [cs]).getD fs.length [] = cs := by rw [← h.len]; simp [List.getD]
    rw [e1]
    refine ⟨hl, ?_⟩
    rw [List.getElem_append_right (Nat.le_refl _)]
    simp only [Nat.sub_self, List.getElem_cons_zero]
    exact step hf
theorem FrC.one {ok : Nat → Prop} {base : Nat} {w : World} {v : Value} {fs : List FrameL} {css : List (List Value)} (h : FrC ok base w v fs css) : fs.length ≤ maxLen := by
  rcases h.own.2 with ⟨_, h0⟩ | ⟨g, cp, cur, _, _, _, hc, hm, _⟩
  · omega
  · omega
end Go.Proofs.YtkoefoccbjhoiacGreat

namespace Go.Proofs.YtkoefoccbjhoiacGreat
open Go.RowKit

end Go.Proofs.YtkoefoccbjhoiacGreat

namespace Go.Proofs.YtkoefoccbjhoiacGreat
open Go.RowKit

end Go.Proofs.YtkoefoccbjhoiacGreat

namespace Go.Proofs.YtkoefoccbjhoiacGreat
open Go.RowKit
set_option linter.unusedSimpArgs false

end Go.Proofs.YtkoefoccbjhoiacGreat

namespace Go.Proofs.YtkoefoccbjhoiacGreat
open Go.RowKit

end Go.Proofs.YtkoefoccbjhoiacGreat

namespace Go.Proofs.YtkoefoccbjhoiacGreat
open Go.RowKit

end Go.Proofs.YtkoefoccbjhoiacGreat

namespace Go.Proofs.YtkoefoccbjhoiacGreat
open Go.RowKit

structure PBox (lo B : Nat) (w : World) (nv : Nat → Value) (c : CaseL) : Prop where
  row : w.heap[B]? = some (.cells (rowF 24 nv) 47 (0, 0))
  case : CaseC (lo ≤ ·) w nv c
  lt : B < lo
theorem PBox.blk {lo B : Nat} {w : World} {nv : Nat → Value} {c : CaseL} (h : PBox lo B w nv c) : BlkAt 24 w B nv := ⟨_, h.row⟩
theorem PBox.later {lo B : Nat} {w w' : World} {nv : Nat → Value} {c : CaseL} (h : PBox lo B w nv c) (hb : Below w.heap.size w w') : PBox lo B w' nv c :=
  ⟨by rw [hb.block B h.blk.lt]; exact h.row, h.case.later (SameOn.of_size hb), h.lt⟩
theorem PBox.drew {lo B : Nat} {w : World} {nv : Nat → Value} {c : CaseL} (h : PBox lo B w nv c) : PBox lo B w.drew nv c := h.later (Below.drew (Below.refl _ _))
def putV (nv : Nat → Value) (m : Nat) (v : Value) (i : Nat) : Value := if i = m then v else nv i
theorem PBox.put {lo B : Nat} {w : World} {nv : Nat → Value} {c c' : CaseL} (h : PBox lo B w nv c) (m : Nat) (v : Value) (hc : CaseC (lo ≤ ·) w (putV nv m v) c') : PBox lo B (w.setCell ⟨B, m, none⟩ v) (putV nv m v) c' := by
  refine ⟨?_, hc.later (fun k _ hk => Below.heap_setCell _ _ _ _ (show k ≠ B by have := h.lt; have : lo ≤ k := hk; omega)), h.lt⟩
  rw [heap_setCell_same w B m _ _ _ h.row, rowF_set]
  rfl
end Go.Proofs.YtkoefoccbjhoiacGreat

namespace Go.Proofs.YtkoefoccbjhoiacGreat
open Go.RowKit

end Go.Proofs.YtkoefoccbjhoiacGreat

namespace Go.Proofs.YtkoefoccbjhoiacGreat
open Go.RowKit

end Go.Proofs.YtkoefoccbjhoiacGreat

namespace Go.Proofs.YtkoefoccbjhoiacGreat
open Go.RowKit

end Go.Proofs.YtkoefoccbjhoiacGreat

namespace Go.Proofs.YtkoefoccbjhoiacGreat
open Go.RowKit

end Go.Proofs.YtkoefoccbjhoiacGreat

namespace Go.Proofs.YtkoefoccbjhoiacGreat
open Go.RowKit
set_option linter.unusedVariables false

end Go.Proofs.YtkoefoccbjhoiacGreat

namespace Go.Proofs.YtkoefoccbjhoiacGreat
open Go.RowKit

/-- A case by value whose lists lie from lo on. -/
def CaseG (lo : Nat) (w : World) (gr : Array Value) (c : CaseL) : Prop := ∃ nv, gr = rowF 24 nv ∧ CaseC (fun b => lo ≤ b) w nv c
theorem CaseG.v {lo : Nat} {w : World} {gr : Array Value} {c : CaseL} (h : CaseG lo w gr c) : CaseV w gr c := by
  obtain ⟨nv, e, h⟩ := h
  exact ⟨nv, e, h.any⟩
/-- Out of its box, into another one. -/
theorem PBox.out {B : Nat} {w : World} {nv : Nat → Value} {c : CaseL} (h : PBox (B + 3) B w nv c) (r : Array Value) : CaseG B (w.setRow (B + 2) r) (rowF 24 nv) c :=
  ⟨nv, rfl, (h.case.later (w' := w.setRow (B + 2) r) (fun k _ hk => setRow_other _ _ (by have : B + 3 ≤ k := hk; omega))).mono (fun k _ hk => by have : B + 3 ≤ k := hk; show B ≤ k; omega)⟩
end Go.Proofs.YtkoefoccbjhoiacGreat

namespace Go.Proofs.YtkoefoccbjhoiacGreat
open Go.RowKit
set_option linter.unusedVariables false
set_option linter.unusedSimpArgs false

end Go.Proofs.YtkoefoccbjhoiacGreat

namespace Go.Proofs.YtkoefoccbjhoiacGreat
open Go.RowKit
set_option linter.unusedVariables false
set_option linter.unusedSimpArgs false

end Go.Proofs.YtkoefoccbjhoiacGreat

namespace Go.Proofs.YtkoefoccbjhoiacGreat
open Go.RowKit

end Go.Proofs.YtkoefoccbjhoiacGreat

namespace Go.Proofs.YtkoefoccbjhoiacGreat
open Go.RowKit
set_option linter.unusedSimpArgs false

end Go.Proofs.YtkoefoccbjhoiacGreat

namespace Go.Proofs.YtkoefoccbjhoiacGreat
open Go.RowKit
set_option linter.unusedVariables false
set_option linter.unusedSimpArgs false

theorem one3 (a b : Int) (x : Option Addr) (n m : Nat) : (#[.int .i64 a, .int .i64 b, .slice x n m] : Array Value).all (·.oneCell') = true := by simp [Value.oneCell']
/-- What a cluster replies, and what it is then. -/
def DoP (ok : Nat → Prop) (p acts : Nat) (w : World) (e : Ending) (w' : World) (r : CluL × ReplyL) : Prop :=
  ∃ v, e = .returned v ∧ ReplyV w.heap.size w' v r.2 ∧ (∃ cv', CluAt ok w' p cv' acts r.1) ∧ w.grownBy w' (some p)
theorem box_done {ok : Nat → Prop} {p acts b : Nat} {w1 : World} {cs : Array Value} {c : CluL} (h : ∃ cv', CluAt (fun x => ok x ∧ x ≠ b) w1 p cv' acts c) (hb : p ≠ b) (hop : ¬ ok p) : ∃ cv', CluAt ok (w1.setRow b cs) p cv' acts c := by
  obtain ⟨cv', h⟩ := h
  exact ⟨cv', (h.later (w' := w1.setRow b cs) (fun k _ hk => setRow_other _ _ hk.2) (setRow_other _ _ hb)).mono (fun _ _ hk => hk.1) hop⟩
theorem grownQ_row {w w1 : World} {p b : Nat} (h : w.grownBy w1 (some p)) (hb : w.heap.size ≤ b) (cs : Array Value) : w.grownBy (w1.setRow b cs) (some p) :=
  ⟨h.os, h.tape, h.output, by rw [size_setRow]; exact h.size, fun k hk hr => by rw [setRow_other _ _ (by omega)]; exact h.block k hk hr⟩
theorem DoP.done {ok : Nat → Prop} {p acts b B : Nat} {w w1 : World} {c : CluL} {x : Value} {r : ReplyL} (h : ∃ cv', CluAt (fun x => ok x ∧ x ≠ b) w1 p cv' acts c) (hg : w.grownBy w1 (some p)) (hp : p < w.heap.size) (hb : w.heap.size ≤ b) (hop : ¬ ok p) (hv : IsI (B ≤ ·) w1 x r.vals) (hB : b < B) :
    DoP ok p acts w (.returned (.agg #[.int .i64 r.code, .int .i64 r.n, x])) (w1.setRow b #[.int .i64 r.code, .int .i64 r.n, x]) (c, r) :=
  ⟨_, rfl, ⟨_, rfl, (hv.later (fun k _ (hk : B ≤ k) => setRow_other _ _ (by omega))).mono (fun k _ (hk : B ≤ k) => by show w.heap.size ≤ k; omega)⟩, box_done h (by omega) hop, grownQ_row hg hb _⟩

end Go.Proofs.YtkoefoccbjhoiacGreat

namespace Go.Proofs.YtkoefoccbjhoiacGreat
open Go.RowKit
set_option linter.unusedVariables false
set_option linter.unusedSimpArgs false

theorem updQ_self {α : Type} (L : Nat → α) (n : Nat) : upd L n (L n) = L := by
  funext k
  by_cases e : k = n
  · subst e; rw [upd_same]
  · rw [upd_other _ _ e]
theorem CluAt.there {ok : Nat → Prop} {p : Nat} {cv : Nat → Value} {acts : Nat} {c : CluL} {w : World} (h : CluAt ok w p cv acts c) {o n : Nat} (ho : o + n ≤ 2001) : w.there p o n := h.blk.there ho
/-- A whole member is written. -/
theorem CluAt.setMem {ok : Nat → Prop} {p : Nat} {cv : Nat → Value} {acts : Nat} {c : CluL} {w : World} (h : CluAt ok w p cv acts c) {n : Nat} (hn : n < 6) {mv : Nat → Value} {up : Bool} {st : NodeL} {log : List UInt8} {tear : Option Int} (hm : MemC ok w mv up st log tear) :
    CluAt ok (w.setCells p (2 + n * 205) (rowF 205 mv).toList) p (putsC cv (2 + n * 205) (rowF 205 mv).toList) acts { c with up := upd c.up n up, st := upd c.st n st, log := upd c.log n log, tear := upd c.tear n tear } :=
  h.puts _ _ (by rw [Array.length_toList, rowF_size]; omega) (h.clu.setMem hn (fun i _ hi => putsC_out hi) (hm.same fun j hj => putsC_in hj))
end Go.Proofs.YtkoefoccbjhoiacGreat

namespace Go.Proofs.YtkoefoccbjhoiacGreat
open Go.RowKit

end Go.Proofs.YtkoefoccbjhoiacGreat

namespace Go.Proofs.YtkoefoccbjhoiacGreat
open Go.RowKit

end Go.Proofs.YtkoefoccbjhoiacGreat

namespace Go.Proofs.YtkoefoccbjhoiacGreat
open Go.RowKit

end Go.Proofs.YtkoefoccbjhoiacGreat

namespace Go.Proofs.YtkoefoccbjhoiacGreat
open Go.RowKit

end Go.Proofs.YtkoefoccbjhoiacGreat

namespace Go.Proofs.YtkoefoccbjhoiacGreat
open Go.RowKit
set_option linter.unusedVariables false
set_option linter.unusedSimpArgs false

end Go.Proofs.YtkoefoccbjhoiacGreat

namespace Go.Proofs.YtkoefoccbjhoiacGreat
open Go.RowKit

end Go.Proofs.YtkoefoccbjhoiacGreat

namespace Go.Proofs.YtkoefoccbjhoiacGreat
open Go.RowKit
set_option linter.unusedVariables false
set_option linter.unusedSimpArgs false

end Go.Proofs.YtkoefoccbjhoiacGreat

namespace Go.Proofs.YtkoefoccbjhoiacGreat
open Go.RowKit

end Go.Proofs.YtkoefoccbjhoiacGreat

namespace Go.Proofs.YtkoefoccbjhoiacGreat
open Go.RowKit

end Go.Proofs.YtkoefoccbjhoiacGreat

namespace Go.Proofs.YtkoefoccbjhoiacGreat
open Go.RowKit

end Go.Proofs.YtkoefoccbjhoiacGreat

namespace Go.Proofs.YtkoefoccbjhoiacGreat
open Go.RowKit

end Go.Proofs.YtkoefoccbjhoiacGreat

namespace Go.Proofs.YtkoefoccbjhoiacGreat
open Go.RowKit


end Go.Proofs.YtkoefoccbjhoiacGreat

namespace Go.Proofs.YtkoefoccbjhoiacGreat
open Go.RowKit
set_option linter.unusedVariables false
set_option linter.unusedSimpArgs false

end Go.Proofs.YtkoefoccbjhoiacGreat
