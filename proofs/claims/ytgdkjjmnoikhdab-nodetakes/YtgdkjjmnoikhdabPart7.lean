/-
  Plain mathematics of a node: Good and Take as the document says them, whole; and what holds of them.
 The contracts of package wire's reader: small and wide, behind a pointer.
 How a slice of ints that came in is read: its elements, and where they lie.
 How a slice of operations, or of ints, that came in is read: its elements' numbers, and where they lie.
 The state of the reading of a frame: where the reader, the frame under way and its lists lie.
-/
import Derived.Test.YtgdkjjmnoikhdabPart6
import Derived.Lib.Strings
import Derived.Laws.BitsLemmas
import Derived.Test.YtgdkjjmnoikhdabPart1
import Derived.ProofKit
import Derived.OpenShut
import Derived.ShutString
import Derived.ChangeOld
import Derived.Below
import Derived.Deep.Slices
import Derived.Test.YtgdkjjmnoikhdabPart5
import Derived.Deep.AppendLies
namespace Go.Proofs.Ytgdkjjmnoikhdab
open Go.RowKit

/-- P5.1, of one transaction, as a truth. -/
def entB (e : EntryL) (n : Nat) : Bool :=
  if e.state = 0 then e.ops.isEmpty && e.first.isEmpty && e.deps.isEmpty && e.ats.isEmpty && e.vals.isEmpty
  else decide (1 ≤ e.state ∧ e.state ≤ 3) && goodOpsL e.ops && (risingFrom (-1) e.first && !hasL e.first n) && (risingFrom (-1) e.deps && !hasL e.deps n) && (decide (e.state ≠ 1) || e.deps.isEmpty) &&
    (decide (e.state = 3) || e.ats.isEmpty) && atsFrom (-1) e.ops.length e.ats && decide (e.vals.length = e.ats.length)
def goodNB (s : NodeL) : Bool := ((List.range 32).all fun n => entB (s.ent n) n && decide (s.order.count (n : Int) = if (s.ent n).state = 3 then 1 else 0)) && s.order.all fun x => decide (0 ≤ x ∧ x < 32)

theorem entB_iff {e : EntryL} {n : Nat} : entB e n = true ↔ e = zeroE ∨ Fine e n := by
  obtain ⟨st, ops, fi, de, ats, vals⟩ := e
  unfold entB
  by_cases h : st = 0
  · subst h
    rw [if_pos rfl]
    constructor
    · intro h
      simp at h
      obtain ⟨⟨⟨⟨rfl, rfl⟩, rfl⟩, rfl⟩, rfl⟩ := h
      exact Or.inl rfl
    · rintro (h | h)
      · cases h; rfl
      · have h1 : (1 : Int) ≤ 0 := h.st.1
        omega
  · rw [if_neg h]
    simp only [Bool.and_eq_true, Bool.or_eq_true, decide_eq_true_iff, Bool.not_eq_true', List.isEmpty_iff]
    constructor
    · rintro ⟨⟨⟨⟨⟨⟨⟨h1, h2⟩, h3⟩, h4⟩, h5⟩, h6⟩, h7⟩, h8⟩
      exact Or.inr ⟨h1, h2, h3, h4, fun e => h5.resolve_left (fun h => h e), fun e => h6.resolve_left e, h7, h8⟩
    · rintro (e | F)
      · cases e; exact absurd rfl h
      · refine ⟨⟨⟨⟨⟨⟨⟨F.st, F.ops⟩, F.first⟩, F.deps⟩, ?_⟩, ?_⟩, F.ats⟩, F.vals⟩
        · by_cases e : st = 1
          · exact Or.inr (F.asked e)
          · exact Or.inl e
        · by_cases e : st = 3
          · exact Or.inl e
          · exact Or.inr (F.told e)
theorem goodNB_iff {s : NodeL} : goodNB s = true ↔ GoodN s := by
  unfold goodNB
  simp only [Bool.and_eq_true, List.all_eq_true, List.mem_range, decide_eq_true_iff, entB_iff]
  exact ⟨fun h => ⟨fun n hn => (h.1 n hn).1, fun n hn => (h.1 n hn).2, h.2⟩, fun h => ⟨fun n hn => ⟨h.ent n hn, h.cnt n hn⟩, h.lt⟩⟩

/-- P5.2, P5.3. -/
def takeN (s : NodeL) (who : Int) (f : FrameL) : NodeL × List FrameL × Int :=
  if goodNB s = false ∨ who < 0 ∨ 5 < who ∨ f.node ≠ who then (s, [], 2)
  else if goodL f ≠ 0 then (s, [], goodL f)
  else if f.kind = 1 then
    if touchesL f.ops (ofL who) = false then (s, [], 4)
    else (s.asked (ofL who) f, [⟨2, who, f.id, [], ((s.asked (ofL who) f).ent f.id.toNat).first, [], []⟩], 0)
  else if f.kind = 3 then (s.commit (ofL who) f, (s.commit (ofL who) f).answers (ofL who) who f.id, 0)
  else (s, [], 3)

/-- What a frame that is taken makes of a node: one of two things. -/
theorem take_cases (s : NodeL) (who : Int) (f : FrameL) :
    ((takeN s who f).2.2 ≠ 0 ∧ (takeN s who f).1 = s ∧ (takeN s who f).2.1 = []) ∨
    (GoodN s ∧ goodL f = 0 ∧ (takeN s who f).2.2 = 0 ∧ f.node = who ∧ 0 ≤ who ∧ who ≤ 5 ∧
      ((f.kind = 1 ∧ touchesL f.ops (ofL who) = true ∧ takeN s who f = (s.asked (ofL who) f, [⟨2, who, f.id, [], ((s.asked (ofL who) f).ent f.id.toNat).first, [], []⟩], 0)) ∨
       (f.kind = 3 ∧ takeN s who f = (s.commit (ofL who) f, (s.commit (ofL who) f).answers (ofL who) who f.id, 0)))) := by
  by_cases h1 : goodNB s = false ∨ who < 0 ∨ 5 < who ∨ f.node ≠ who
  · left
    have e : takeN s who f = (s, [], 2) := by unfold takeN; rw [if_pos h1]
    rw [e]
    exact ⟨(show (2 : Int) ≠ 0 by decide), rfl, rfl⟩
  · by_cases h2 : goodL f ≠ 0
    · left
      have e : takeN s who f = (s, [], goodL f) := by unfold takeN; rw [if_neg h1, if_pos h2]
      rw [e]
      exact ⟨h2, rfl, rfl⟩
    · have hg : GoodN s := goodNB_iff.1 (by
        cases h : goodNB s
        · exact absurd (Or.inl h) h1
        · rfl)
      have hn : f.node = who ∧ 0 ≤ who ∧ who ≤ 5 := by
        refine ⟨?_, ?_, ?_⟩
        · by_cases e : f.node = who
          · exact e
          · exact absurd (Or.inr (Or.inr (Or.inr e))) h1
        · by_cases e : who < 0
          · exact absurd (Or.inr (Or.inl e)) h1
          · omega
        · by_cases e : 5 < who
          · exact absurd (Or.inr (Or.inr (Or.inl e))) h1
          · omega
      have h2' : goodL f = 0 := by omega
      by_cases h3 : f.kind = 1
      · by_cases h4 : touchesL f.ops (ofL who) = false
        · left
          have e : takeN s who f = (s, [], 4) := by unfold takeN; rw [if_neg h1, if_neg h2, if_pos h3, if_pos h4]
          rw [e]
          exact ⟨(show (4 : Int) ≠ 0 by decide), rfl, rfl⟩
        · right
          have e : takeN s who f = (s.asked (ofL who) f, [⟨2, who, f.id, [], ((s.asked (ofL who) f).ent f.id.toNat).first, [], []⟩], 0) := by unfold takeN; rw [if_neg h1, if_neg h2, if_pos h3, if_neg h4]
          exact ⟨hg, h2', by rw [e], hn.1, hn.2.1, hn.2.2, Or.inl ⟨h3, by simpa using h4, e⟩⟩
      · by_cases h5 : f.kind = 3
        · right
          have e : takeN s who f = (s.commit (ofL who) f, (s.commit (ofL who) f).answers (ofL who) who f.id, 0) := by unfold takeN; rw [if_neg h1, if_neg h2, if_neg h3, if_pos h5]
          exact ⟨hg, h2', by rw [e], hn.1, hn.2.1, hn.2.2, Or.inr ⟨h5, e⟩⟩
        · left
          have e : takeN s who f = (s, [], 3) := by unfold takeN; rw [if_neg h1, if_neg h2, if_neg h3, if_neg h5]
          rw [e]
          exact ⟨(show (3 : Int) ≠ 0 by decide), rfl, rfl⟩

theorem take_good {s : NodeL} {who : Int} {f : FrameL} (h : (takeN s who f).2.2 = 0) : GoodN (takeN s who f).1 := by
  rcases take_cases s who f with ⟨h1, _⟩ | ⟨hg, hf, _, _, _, _, ⟨hk, _, e⟩ | ⟨hk, e⟩⟩
  · exact absurd h h1
  · rw [e]; exact good_asked hg _ hf hk
  · rw [e]; exact good_commit hg _ hf hk
theorem take_sort {s : NodeL} {who : Int} {f : FrameL} (S : SortN s) : SortN (takeN s who f).1 := by
  rcases take_cases s who f with ⟨_, h1, _⟩ | ⟨hg, hf, _, _, _, _, ⟨hk, _, e⟩ | ⟨hk, e⟩⟩
  · rw [h1]; exact S
  · rw [e]; exact sort_asked hg S _ hf
  · rw [e]; exact sort_commit hg S _ hf hk
/-- P5.2, P5.3: what comes twice is taken once, and answered likewise. -/
theorem take_twice {s : NodeL} {who : Int} {f : FrameL} (h : (takeN s who f).2.2 = 0) (h0 : ∀ n, 0 ≤ (s.ent n).state) : takeN (takeN s who f).1 who f = takeN s who f := by
  have hg' := take_good h
  rcases take_cases s who f with ⟨h1, _⟩ | ⟨hg, hf, _, hn, hw, hw2, ⟨hk, ht, e⟩ | ⟨hk, e⟩⟩
  · exact absurd h h1
  · rw [e] at hg' ⊢
    have hg2 : goodNB (s.asked (ofL who) f) = true := goodNB_iff.2 hg'
    show takeN (s.asked (ofL who) f) who f = _
    unfold takeN
    rw [if_neg (by rintro (h | h | h | h); · rw [hg2] at h; cases h
                   · omega
                   · omega
                   · exact h hn), if_neg (by rw [hf]; decide), if_pos hk, if_neg (by rw [ht]; decide), asked_twice]
  · rw [e] at hg' ⊢
    have hg2 : goodNB (s.commit (ofL who) f) = true := goodNB_iff.2 hg'
    show takeN (s.commit (ofL who) f) who f = _
    unfold takeN
    rw [if_neg (by rintro (h | h | h | h); · rw [hg2] at h; cases h
                   · omega
                   · omega
                   · exact h hn), if_neg (by rw [hf]; decide), if_neg (by rw [hk]; decide), if_pos hk, commit_twice s _ f h0]
theorem take_keeps (s : NodeL) (who : Int) (f : FrameL) (h0 : ∀ n, 0 ≤ (s.ent n).state) : Keeps s (takeN s who f).1 := by
  rcases take_cases s who f with ⟨_, h1, _⟩ | ⟨_, _, _, _, _, _, ⟨_, _, e⟩ | ⟨_, e⟩⟩
  · rw [h1]; exact Keeps.refl s
  · rw [e]; exact keeps_asked s _ f
  · rw [e]; exact keeps_commit s _ f h0

end Go.Proofs.Ytgdkjjmnoikhdab

namespace Go.Proofs.Ytgdkjjmnoikhdab
open Go.RowKit

/-- All but block c is as it was. -/
structure Beside (c : Nat) (w w' : World) : Prop where
 os : w'.os = w.os
 tape : w'.tape = w.tape
 output : w'.output = w.output
 size : w'.heap.size = w.heap.size
 block : ∀ k, k ≠ c → w'.heap[k]? = w.heap[k]?

theorem Beside.refl (c : Nat) (w : World) : Beside c w w := ⟨rfl, rfl, rfl, rfl, fun _ _ => rfl⟩
theorem Beside.trans {c : Nat} {a b d : World} (h : Beside c a b) (k : Beside c b d) : Beside c a d :=
 ⟨k.os.trans h.os, k.tape.trans h.tape, k.output.trans h.output, k.size.trans h.size, fun i hi => (k.block i hi).trans (h.block i hi)⟩
theorem Beside.setCell {c : Nat} {a w : World} (h : Beside c a w) (o : Nat) (u : Value) : Beside c a (w.setCell ⟨c, o, none⟩ u) :=
 h.trans ⟨rfl, rfl, rfl, by simp [World.setCell], fun k hk => Below.heap_setCell _ _ _ _ hk⟩
theorem Beside.drew {c : Nat} {a w : World} (h : Beside c a w) : Beside c a w.drew := ⟨h.os, h.tape, h.output, h.size, h.block⟩
theorem Beside.below {c B : Nat} {w w' : World} (h : Beside c w w') (hB : B ≤ c) : Below B w w' := ⟨h.os, h.tape, h.output, by rw [h.size]; exact Nat.le_refl _, fun k hk => h.block k (by omega)⟩
theorem Beside.cell {c : Nat} {w w' : World} (h : Beside c w w') {p : Addr} (hp : p.block ≠ c) : w'.cell? p = w.cell? p := World.cell?_of_block (w := w) (h.block p.block hp)
theorem Beside.frozen {c : Nat} {w w' : World} (h : Beside c w w') {p : Addr} (hp : p.block ≠ c) : w'.frozen? p = w.frozen? p := World.frozen?_of_block (w := w) (h.block p.block hp)
theorem Beside.grown {c : Nat} {w w' : World} (h : Beside c w w') : w.grownBy w' (some c) := ⟨h.os, h.tape, h.output, by rw [h.size]; exact Nat.le_refl _, fun k _ hk => h.block k (by intro e; exact hk (by rw [e]))⟩

def str (l : List UInt8) : ByteArray := ⟨l.toArray⟩
theorem str_size (l : List UInt8) : (str l).size = l.length := by show l.toArray.size = _; simp
theorem str_data (l : List UInt8) : (str l).data.toList = l := rfl
theorem str_empty (l : List UInt8) : (str l).toList.isEmpty = l.isEmpty := by
 rw [show (str l).toList = l from by rw [Lib.toList_data]; rfl]
theorem str_cut (c : UInt8) (t : List UInt8) : (str (c :: t)).extract 1 (t.length + 1) = str t := by
 apply ByteArray.ext
 apply Array.toList_inj.1
 rw [Lib.extract_data]
 simp [str]
theorem wrap_byte (c : UInt8) : wrap64 (c.toNat : Int) = (c.toNat : Int) := by
 have := c.toNat_lt
 unfold wrap64
 omega

/-- A reader at block c. -/
def RdAt (w : World) (c : Nat) (r : Rd) : Prop := ∃ t, w.heap[c]? = some (.cells #[.string (str r.rest), .bool r.short] t (0, 0))
theorem RdAt.rest {w : World} {c : Nat} {r : Rd} (h : RdAt w c r) : w.cell? ⟨c, 0, none⟩ = some (.string (str r.rest)) := by
 obtain ⟨t, h⟩ := h
 rw [cell_of_row w c 0 _ t _ h]
 rfl
theorem RdAt.short {w : World} {c : Nat} {r : Rd} (h : RdAt w c r) : w.cell? ⟨c, 1, none⟩ = some (.bool r.short) := by
 obtain ⟨t, h⟩ := h
 rw [cell_of_row w c 1 _ t _ h]
 rfl
theorem RdAt.frozen {w : World} {c : Nat} {r : Rd} (h : RdAt w c r) (i : Nat) : w.frozen? ⟨c, i, none⟩ = false := by
 obtain ⟨t, h⟩ := h
 exact frozen_of_row w c i _ t h
theorem RdAt.putShort {w : World} {c : Nat} {r : Rd} (h : RdAt w c r) (b : Bool) : RdAt (w.setCell ⟨c, 1, none⟩ (.bool b)) c ⟨r.rest, b⟩ := by
 obtain ⟨t, h⟩ := h
 exact ⟨t, by rw [heap_setCell_same w c 1 _ t _ h]; rfl⟩
theorem RdAt.putRest {w : World} {c : Nat} {r : Rd} (h : RdAt w c r) (l : List UInt8) : RdAt (w.setCell ⟨c, 0, none⟩ (.string (str l))) c ⟨l, r.short⟩ := by
 obtain ⟨t, h⟩ := h
 exact ⟨t, by rw [heap_setCell_same w c 0 _ t _ h]; rfl⟩

set_option maxRecDepth 100000 in
set_option maxHeartbeats 400000 in
theorem small_any (c : Nat) (r : Rd) (w : World) (hr : RdAt w c r) :
  Calls Try.prog 101 #[.pointer (some ⟨c, 0, none⟩)] w fun e w' => e = .returned (.int .i64 r.one) ∧ RdAt w' c r.next ∧ Beside c w w' := by
 obtain ⟨l, b⟩ := r
 have c0 := hr.rest
 have f0 := hr.frozen 0
 have f1 := hr.frozen 1
 have c1 := hr.short
 cases l with
 | nil =>
  have H : Hid (RdAt w c ⟨[], b⟩) := hr
  have e0 := str_empty []
  clear hr
  go_enter Try.func101, Try.ntmps101
  go_wp2
  go_ret
  exact ⟨rfl, H.out.putShort true, (Beside.refl _ _).setCell _ _⟩
 | cons x t =>
  have H : Hid (RdAt w c ⟨x :: t, b⟩) := hr
  have e0 := str_empty (x :: t)
  have e1 := str_size (x :: t)
  clear hr
  go_enter Try.func101, Try.ntmps101
  go_wp2
  go_ret
  rw [str_cut]
  exact ⟨ret_int (wrap_byte x), H.out.putRest t, (Beside.refl _ _).setCell _ _⟩

theorem wraps_i64 (n : Int) (h₀ : 0 ≤ n) (h₁ : n < 2 ^ 63) : IntKind.i64.wrap n = n := by rw [IntKind.wrap_i64]; omega
theorem or_byte {n c : Int} (h : 0 ≤ n) (h' : n < 1099511627776) (h0 : 0 ≤ c) (h1 : c < 256) : bits .or .i64 (n * 256) c = n * 256 + c :=
 bits_join .i64 63 (by decide) wraps_i64 8 (n * 256) c (by omega) (by omega) (by omega) h0 (by omega) (by omega)
theorem pow_five : ∀ k : Nat, k < 6 → (256 : Int) ^ k ≤ 1099511627776 := by decide

set_option maxRecDepth 100000 in
set_option maxHeartbeats 400000 in
theorem wide_any (c : Nat) (r : Rd) (w : World) (hr : RdAt w c r) :
  Calls Try.prog 102 #[.pointer (some ⟨c, 0, none⟩)] w fun e w' => e = .returned (.int .i64 r.wide) ∧ RdAt w' c r.next6 ∧ Beside c w w' := by
 go_enter Try.func102, Try.ntmps102
 go_wp2
 go_loopw [3, 4] (fun v i wr => ∃ (k : Nat) (n : Int) (rk : Rd), k ≤ 6 ∧ i = .int .i64 k ∧ v = .int .i64 n ∧ 0 ≤ n ∧ n < 256 ^ k ∧ Hid (Rd.num 6 0 r = Rd.num (6 - k) n rk) ∧ Hid (Rd.after 6 r = Rd.after (6 - k) rk) ∧ RdAt wr c rk ∧ Beside c w wr) (fun _ i _ => 6 - (intOf i).toNat)
 case atStart => exact ⟨0, 0, r, by omega, rfl, rfl, by omega, by omega, rfl, rfl, hr, Beside.refl _ _⟩
 case round =>
  obtain ⟨k, n, rk, hk, rfl, rfl, hn0, hn1, H1, H2, hrk, hB⟩ := hrel
  by_cases hlt : k < 6
  · have hp := pow_five k hlt
   go_wp2_with fail
   refine (small_any c rk wr hrk).mono ?_
   rintro e w1 ⟨rfl, hr1, hb1⟩
   go_wp2
   go_roundw
   case rel =>
    rw [or_byte hn0 (by omega) rk.one_lo rk.one_hi]
    have o1 := rk.one_lo
    have o2 := rk.one_hi
    refine ⟨k + 1, n * 256 + rk.one, rk.next, by omega, by go_num, rfl, by omega, by rw [Int.pow_succ]; omega, ?_, ?_, hr1, hB.trans hb1⟩
    · obtain ⟨j, hj⟩ : ∃ j, 6 - k = j + 1 := ⟨5 - k, by omega⟩
     have hj' : 6 - (k + 1) = j := by omega
     unfold Hid at *
     rw [hj', H1, hj]
     rfl
    · obtain ⟨j, hj⟩ : ∃ j, 6 - k = j + 1 := ⟨5 - k, by omega⟩
     have hj' : 6 - (k + 1) = j := by omega
     unfold Hid at *
     rw [hj', H2, hj]
     rfl
   case measure => simp [intOf]; omega
  · go_wp2
   go_ret
   obtain rfl : k = 6 := by omega
   have e1 : Rd.num 6 0 r = n := H1.out
   have e2 : Rd.after 6 r = rk := H2.out
   refine ⟨ret_int ?_, by unfold Rd.next6; rw [e2]; exact hrk, hB⟩
   unfold Rd.wide wrap64
   rw [e1]
   omega

end Go.Proofs.Ytgdkjjmnoikhdab

namespace Go.Proofs.Ytgdkjjmnoikhdab
open Go.ChangeShapes Go.WideShapes Go.ChangeAt Go.RowKit Go.Deep

theorem own : ownKnob Try.prog.godebug = none := by kernel_rfl
theorem laidOut : laidOutB Try.prog = true := by kernel_rfl
theorem Try.cellsInt : Try.prog.cellsOf 3 = 1 := by kernel_rfl
theorem Try.bytesInt : Try.prog.bytesOf 3 = 8 := by kernel_rfl

def Fits (x : Int) : Prop := (Lit.int .i64 x).wf = true

theorem add_none {b off j : Nat} : (⟨b, off, none⟩ : Addr).add j = ⟨b, off + j, none⟩ := by
 unfold Addr.add
 split
 · subst_vars; simp
 · simp

theorem lt_of_cell {w : World} {a : Addr} {v : Value} (h : w.cell? a = some v) : a.block < w.heap.size := by
 by_cases hq : a.block < w.heap.size
 · exact hq
 · have hn : w.heap[a.block]? = none := Array.getElem?_eq_none (by omega)
  simp [World.cell?, hn] at h

section
variable {H : Type} {enc : TypeId × Value → H} {P : Program} {w : World} {base : Nat} {spare : Nat → Bool} {held : Bool}

/-- A slice of ints that came in. -/
theorem open_intsAt {t e : TypeId} {fuel : Nat} {a : Option Addr} {len cap : Nat} {x : DataW H × List MemPlace} (ht : P.underlying t = some (.slice e)) (he : P.underlying e = some (.int .i64)) (hc : P.cellsOf e = 1)
  (h : DataW.trod enc P w base spare held fuel t [.slice a len cap] = some x) :
  len ≤ maxLen ∧ ∃ zs : List Int, zs.length = len ∧ IntsAt w.heap.size w a zs ∧ (∀ n ∈ zs, Fits n) ∧ (a = none → len = 0 ∧ cap = 0) ∧ len ≤ cap := by
 rcases open_ints ht he hc h with ⟨hcs, _⟩ | ⟨x, l, c, zs, hcs, _, hl, hm, hz, _, hcell, hwz⟩
 · simp at hcs
  obtain ⟨rfl, rfl, rfl⟩ := hcs
  exact ⟨Nat.zero_le _, [], rfl, Or.inl rfl, by simp, fun _ => ⟨rfl, rfl⟩, Nat.le_refl _⟩
 · simp at hcs
  obtain ⟨rfl, rfl, rfl⟩ := hcs
  have hlen : len ≤ zs.length := by rw [hz]; split <;> omega
  refine ⟨by omega, zs.take len, by simp; omega, ?_, fun n hn => hwz n (List.mem_of_mem_take hn), fun h => by simp at h, hl⟩
  by_cases h0 : len = 0
  · left
   simp [h0]
  · right
   obtain ⟨b, off, spot⟩ := x
   have hc0 := hcell 0 (by omega)
   have hs : spot = none := by simpa [Addr.add] using World.cell?_spot hc0
   subst hs
   refine ⟨b, off, rfl, by simpa [Addr.add] using lt_of_cell hc0, fun i hi => ?_⟩
   have hi' : i < len := by simp at hi; omega
   have := hcell i (by omega)
   rw [add_none] at this
   rw [this]
   simp [List.getD, hi']

/-- What a slice that came in reads as: as many elements as its length. -/
theorem slice_datum {t e : TypeId} {fuel : Nat} {a : Option Addr} {len cap : Nat} {d : DataW H} {p : List MemPlace} (ht : P.underlying t = some (.slice e)) (h : DataW.trod enc P w base spare held fuel t [.slice a len cap] = some (d, p)) :
  len = 0 ∨ ∃ elems sp, d = .slice elems sp ∧ elems.length = len := by
 rcases open_slice ht h with ⟨hcs, _⟩ | ⟨x, l, c, m, n, D, Pl, hcs, hb, hl, hm, hmm, hx, _⟩
 · simp at hcs
  exact Or.inl hcs.2.1
 · simp at hcs
  obtain ⟨rfl, rfl, rfl⟩ := hcs
  simp only [Prod.mk.injEq] at hx
  exact Or.inr ⟨_, _, hx.1, by simp⟩

end

end Go.Proofs.Ytgdkjjmnoikhdab

namespace Go.Proofs.Ytgdkjjmnoikhdab
open Go.ChangeShapes Go.WideShapes Go.ChangeAt Go.RowKit Go.Deep

theorem Try.cellsOp : Try.prog.cellsOf 88 = 3 := by kernel_rfl

theorem Try.bytesOp : Try.prog.bytesOf 88 = 24 := by kernel_rfl

def FitsOp (o : OpL) : Prop := Fits o.1 ∧ Fits o.2.1 ∧ Fits o.2.2

section
variable {H : Type} {enc : TypeId × Value → H} {P : Program} {w : World} {base : Nat} {spare : Nat → Bool} {held : Bool}

/-- A slice of operations that came in. -/
theorem open_opsAt {t e f : TypeId} {fuel : Nat} {a : Option Addr} {len cap : Nat} {x : DataW H × List MemPlace} {f0 f1 f2 : Field} (ht : P.underlying t = some (.slice e)) (he : P.underlying e = some (.struct #[f0, f1, f2])) (hf : P.underlying f = some (.int .i64))
  (hc : P.cellsOf e = 3) (hcf : P.cellsOf f = 1) (y0 : f0.type = f) (y1 : f1.type = f) (y2 : f2.type = f) (o0 : f0.offset = 0) (o1 : f1.offset = 1) (o2 : f2.offset = 2)
  (h : DataW.trod enc P w base spare held fuel t [.slice a len cap] = some x) :
  len ≤ maxLen ∧ ∃ zs : List OpL, zs.length = len ∧ OpsAt w a zs ∧ (∀ o ∈ zs, FitsOp o) ∧ (a = none → len = 0 ∧ cap = 0) ∧ len ≤ cap := by
 rcases open_slice ht h with ⟨hcs, _⟩ | ⟨x, l, c, m, n, D, Pl, hcs, hb, hl, hm, hmm, _, hx⟩
 · simp at hcs
  obtain ⟨rfl, rfl, rfl⟩ := hcs
  exact ⟨Nat.zero_le _, [], rfl, Or.inl rfl, by simp, fun _ => ⟨rfl, rfl⟩, Nat.le_refl _⟩
 · simp at hcs
  obtain ⟨rfl, rfl, rfl⟩ := hcs
  have hlm : len ≤ m := by rw [hmm]; split <;> omega
  have each : ∀ i, i < len → ∃ q : OpL, w.cell? (x.add (i * 3)) = some (.int .i64 q.1) ∧ w.cell? (x.add (i * 3 + 1)) = some (.int .i64 q.2.1) ∧ w.cell? (x.add (i * 3 + 2)) = some (.int .i64 q.2.2) ∧ FitsOp q := by
   intro i hi
   obtain ⟨cs', h1, h2⟩ := hx i (by omega)
   rw [hc] at h1
   obtain ⟨_, hlen, hcell⟩ := World.cells?_some h1
   obtain ⟨xs, k, hk, hxy, _, hxl, hfs⟩ := DataW.trod_struct he h2
   match xs, hxl, cs', hlen with
   | [z0, z1, z2], _, [v0, v1, v2], _ =>
    have g0 := hfs 0 f0 rfl
    have g1 := hfs 1 f1 rfl
    have g2 := hfs 2 f2 rfl
    simp [y0, y1, y2, o0, o1, o2, hcf] at g0 g1 g2
    obtain ⟨n0, r0, _, q0⟩ := DataW.trod_int hf g0
    obtain ⟨n1, r1, _, q1⟩ := DataW.trod_int hf g1
    obtain ⟨n2, r2, _, q2⟩ := DataW.trod_int hf g2
    simp at r0 r1 r2
    subst r0 r1 r2
    have e0 := hcell 0 (by omega)
    have e1 := hcell 1 (by omega)
    have e2 := hcell 2 (by omega)
    rw [add_add] at e0 e1 e2
    exact ⟨(n0, n1, n2), by simpa using e0, by simpa using e1, by simpa using e2, q0, q1, q2⟩
  obtain ⟨Q, hQ⟩ := choose_lt each
  refine ⟨by omega, (List.range len).map Q, by simp, ?_, ?_, fun h => by simp at h, hl⟩
  · by_cases h0 : len = 0
   · left
    simp [h0]
   · right
    obtain ⟨b, off, spot⟩ := x
    have hc0 := (hQ 0 (by omega)).1
    have hs : spot = none := by simpa [Addr.add] using World.cell?_spot hc0
    subst hs
    refine ⟨b, off, rfl, by simpa [Addr.add] using lt_of_cell hc0, fun i hi => ?_⟩
    have hi' : i < len := by simpa using hi
    obtain ⟨t0, t1, t2, _⟩ := hQ i hi'
    rw [add_none] at t0 t1 t2
    have hg : ((List.range len).map Q).getD i (0, 0, 0) = Q i := by simp [List.getD, hi']
    rw [hg]
    exact ⟨t0, t1, t2⟩
  · intro o ho
   obtain ⟨i, hi, rfl⟩ := List.mem_map.1 ho
   exact (hQ i (List.mem_range.1 hi)).2.2.2

end

end Go.Proofs.Ytgdkjjmnoikhdab

namespace Go.Proofs.Ytgdkjjmnoikhdab
open Go.RowKit

theorem Try.infoOp : (Try.prog.info? 88).map (fun i => (i.zero, i.size, i.bytes)) = some (some (.agg #[.int .i64 0, .int .i64 0, .int .i64 0]), 3, 24) := by kernel_rfl

/-- A frame's seven cells at block b. -/
def FAt (w : World) (b : Nat) (a0 a1 a2 : Int) (v3 v4 v5 v6 : Value) : Prop := ∃ t, w.heap[b]? = some (.cells #[.int .i64 a0, .int .i64 a1, .int .i64 a2, v3, v4, v5, v6] t (0, 0))

section
variable {w w' : World} {b : Nat} {a0 a1 a2 : Int} {v3 v4 v5 v6 : Value}
theorem FAt.cell (h : FAt w b a0 a1 a2 v3 v4 v5 v6) :
  w.cell? ⟨b, 0, none⟩ = some (.int .i64 a0) ∧ w.cell? ⟨b, 1, none⟩ = some (.int .i64 a1) ∧ w.cell? ⟨b, 2, none⟩ = some (.int .i64 a2) ∧
  w.cell? ⟨b, 3, none⟩ = some v3 ∧ w.cell? ⟨b, 4, none⟩ = some v4 ∧ w.cell? ⟨b, 5, none⟩ = some v5 ∧ w.cell? ⟨b, 6, none⟩ = some v6 := by
 obtain ⟨t, h⟩ := h
 refine ⟨?_, ?_, ?_, ?_, ?_, ?_, ?_⟩ <;> (rw [cell_of_row w b _ _ t _ h]; rfl)
theorem FAt.frozen (h : FAt w b a0 a1 a2 v3 v4 v5 v6) (i : Nat) : w.frozen? ⟨b, i, none⟩ = false := by
 obtain ⟨t, h⟩ := h
 exact frozen_of_row w b i _ t h
theorem FAt.block (h : FAt w b a0 a1 a2 v3 v4 v5 v6) (e : w'.heap[b]? = w.heap[b]?) : FAt w' b a0 a1 a2 v3 v4 v5 v6 := by
 obtain ⟨t, h⟩ := h
 exact ⟨t, by rw [e]; exact h⟩
theorem FAt.lt (h : FAt w b a0 a1 a2 v3 v4 v5 v6) : b < w.heap.size := by
 obtain ⟨t, h⟩ := h
 exact (Array.getElem?_eq_some_iff.1 h).1
theorem FAt.put3 (h : FAt w b a0 a1 a2 v3 v4 v5 v6) (v : Value) : FAt (w.setCell ⟨b, 3, none⟩ v) b a0 a1 a2 v v4 v5 v6 := by
 obtain ⟨t, h⟩ := h
 exact ⟨t, by rw [heap_setCell_same w b 3 _ t _ h]; rfl⟩
theorem FAt.put4 (h : FAt w b a0 a1 a2 v3 v4 v5 v6) (v : Value) : FAt (w.setCell ⟨b, 4, none⟩ v) b a0 a1 a2 v3 v v5 v6 := by
 obtain ⟨t, h⟩ := h
 exact ⟨t, by rw [heap_setCell_same w b 4 _ t _ h]; rfl⟩
theorem FAt.put5 (h : FAt w b a0 a1 a2 v3 v4 v5 v6) (v : Value) : FAt (w.setCell ⟨b, 5, none⟩ v) b a0 a1 a2 v3 v4 v v6 := by
 obtain ⟨t, h⟩ := h
 exact ⟨t, by rw [heap_setCell_same w b 5 _ t _ h]; rfl⟩
theorem FAt.put6 (h : FAt w b a0 a1 a2 v3 v4 v5 v6) (v : Value) : FAt (w.setCell ⟨b, 6, none⟩ v) b a0 a1 a2 v3 v4 v5 v := by
 obtain ⟨t, h⟩ := h
 exact ⟨t, by rw [heap_setCell_same w b 6 _ t _ h]; rfl⟩
end

theorem RdAt.block {w w' : World} {c : Nat} {r : Rd} (h : RdAt w c r) (e : w'.heap[c]? = w.heap[c]?) : RdAt w' c r := by
 obtain ⟨t, h⟩ := h
 exact ⟨t, by rw [e]; exact h⟩
theorem RdAt.lt {w : World} {c : Nat} {r : Rd} (h : RdAt w c r) : c < w.heap.size := by
 obtain ⟨t, h⟩ := h
 exact (Array.getElem?_eq_some_iff.1 h).1
theorem RdAt.alloc {w : World} {c : Nat} {r : Rd} (h : RdAt w c r) (o : Obj) : RdAt (w.alloc o) c r := h.block (Below.heap_alloc _ _ _ h.lt)

/-- but for block c, what was there is as it was -/
theorem grownR_trans {w w1 w2 : World} {c : Nat} (h : w.grownBy w1 (some c)) (k : w1.grownBy w2 (some c)) : w.grownBy w2 (some c) :=
 ⟨k.os.trans h.os, k.tape.trans h.tape, k.output.trans h.output, Nat.le_trans h.size k.size, fun i hi hn => (k.block i (Nat.lt_of_lt_of_le hi h.size) hn).trans (h.block i hi hn)⟩
theorem grown_far {w w1 w2 : World} {c : Nat} {row : Option Nat} (h : w.grownBy w1 (some c)) (k : w1.grownBy w2 row) (hr : ∀ g, row = some g → w.heap.size ≤ g) : w.grownBy w2 (some c) :=
 ⟨k.os.trans h.os, k.tape.trans h.tape, k.output.trans h.output, Nat.le_trans h.size k.size, fun i hi hn => (k.block i (Nat.lt_of_lt_of_le hi h.size) (fun e => by have := hr i e.symm; omega)).trans (h.block i hi hn)⟩
theorem grown_put {w w1 : World} {c b : Nat} (h : w.grownBy w1 (some c)) (hb : w.heap.size ≤ b) (o : Nat) (v : Value) : w.grownBy (w1.setCell ⟨b, o, none⟩ v) (some c) :=
 ⟨h.os, h.tape, h.output, by simp [World.setCell]; exact h.size, fun i hi hn => (Below.heap_setCell _ _ _ _ (by simp; omega)).trans (h.block i hi hn)⟩

/-- The state of the reading: the reader at c, the frame under way at B3, the result's cells at B2; else nothing old has turned. -/
structure Fr (w : World) (c B2 B3 : Nat) (a0 a1 a2 : Int) (wr : World) (rk : Rd) (v3 v4 v5 v6 : Value) : Prop where
 rd : RdAt wr c rk
 f : FAt wr B3 a0 a1 a2 v3 v4 v5 v6
 z : FAt wr B2 0 0 0 (.slice none 0 0) (.slice none 0 0) (.slice none 0 0) (.slice none 0 0)
 g : w.grownBy wr (some c)
 l1 : c < w.heap.size
 l2 : w.heap.size ≤ B2
 l3 : B2 < B3

section
variable {w wr w1 : World} {c B2 B3 : Nat} {a0 a1 a2 : Int} {rk rj : Rd} {v3 v4 v5 v6 : Value}
theorem Fr.small (h : Fr w c B2 B3 a0 a1 a2 wr rk v3 v4 v5 v6) (k : RdAt w1 c rj) (hb : Beside c wr w1) : Fr w c B2 B3 a0 a1 a2 w1 rj v3 v4 v5 v6 :=
 have h1 := h.l1
 have h2 := h.l2
 have h3 := h.l3
 ⟨k, h.f.block (hb.block _ (by omega)), h.z.block (hb.block _ (by omega)), grownR_trans h.g hb.grown, h1, h2, h3⟩
theorem Fr.grown (h : Fr w c B2 B3 a0 a1 a2 wr rk v3 v4 v5 v6) {row : Option Nat} (hg : wr.grownBy w1 row) (hr : ∀ g, row = some g → B3 < g) : Fr w c B2 B3 a0 a1 a2 w1 rk v3 v4 v5 v6 :=
 have h1 := h.l1
 have h2 := h.l2
 have h3 := h.l3
 have n : ∀ k, k ≤ B3 → some k ≠ row := fun k hk e => by have := hr k e.symm; omega
 ⟨h.rd.block (hg.block _ h.rd.lt (n _ (by omega))), h.f.block (hg.block _ h.f.lt (n _ (by omega))), h.z.block (hg.block _ h.z.lt (n _ (by omega))), grown_far h.g hg (fun g e => by have := hr g e; omega), h1, h2, h3⟩
theorem Fr.alloc (h : Fr w c B2 B3 a0 a1 a2 wr rk v3 v4 v5 v6) (o : Obj) : Fr w c B2 B3 a0 a1 a2 (wr.alloc o) rk v3 v4 v5 v6 :=
 h.grown (World.grownBy_alloc wr o none) (by simp)
theorem Fr.drew (h : Fr w c B2 B3 a0 a1 a2 wr rk v3 v4 v5 v6) : Fr w c B2 B3 a0 a1 a2 wr.drew rk v3 v4 v5 v6 :=
 ⟨h.rd, h.f, h.z, ⟨h.g.os, h.g.tape, h.g.output, h.g.size, h.g.block⟩, h.l1, h.l2, h.l3⟩
theorem Fr.put3 (h : Fr w c B2 B3 a0 a1 a2 wr rk v3 v4 v5 v6) (v : Value) : Fr w c B2 B3 a0 a1 a2 (wr.setCell ⟨B3, 3, none⟩ v) rk v v4 v5 v6 :=
 have h1 := h.l1
 have h2 := h.l2
 have h3 := h.l3
 ⟨h.rd.block (Below.heap_setCell _ _ _ _ (by simp; omega)), h.f.put3 v, h.z.block (Below.heap_setCell _ _ _ _ (by simp; omega)), grown_put h.g (by omega) _ _, h1, h2, h3⟩
theorem Fr.put4 (h : Fr w c B2 B3 a0 a1 a2 wr rk v3 v4 v5 v6) (v : Value) : Fr w c B2 B3 a0 a1 a2 (wr.setCell ⟨B3, 4, none⟩ v) rk v3 v v5 v6 :=
 have h1 := h.l1
 have h2 := h.l2
 have h3 := h.l3
 ⟨h.rd.block (Below.heap_setCell _ _ _ _ (by simp; omega)), h.f.put4 v, h.z.block (Below.heap_setCell _ _ _ _ (by simp; omega)), grown_put h.g (by omega) _ _, h1, h2, h3⟩
theorem Fr.put5 (h : Fr w c B2 B3 a0 a1 a2 wr rk v3 v4 v5 v6) (v : Value) : Fr w c B2 B3 a0 a1 a2 (wr.setCell ⟨B3, 5, none⟩ v) rk v3 v4 v v6 :=
 have h1 := h.l1
 have h2 := h.l2
 have h3 := h.l3
 ⟨h.rd.block (Below.heap_setCell _ _ _ _ (by simp; omega)), h.f.put5 v, h.z.block (Below.heap_setCell _ _ _ _ (by simp; omega)), grown_put h.g (by omega) _ _, h1, h2, h3⟩
theorem Fr.put6 (h : Fr w c B2 B3 a0 a1 a2 wr rk v3 v4 v5 v6) (v : Value) : Fr w c B2 B3 a0 a1 a2 (wr.setCell ⟨B3, 6, none⟩ v) rk v3 v4 v5 v :=
 have h1 := h.l1
 have h2 := h.l2
 have h3 := h.l3
 ⟨h.rd.block (Below.heap_setCell _ _ _ _ (by simp; omega)), h.f.put6 v, h.z.block (Below.heap_setCell _ _ _ _ (by simp; omega)), grown_put h.g (by omega) _ _, h1, h2, h3⟩
theorem Fr.start (hr : RdAt w1 c rk) (hb : Beside c (w.alloc (.cells #[.int .i64 0, .int .i64 0, .int .i64 0, .slice none 0 0, .slice none 0 0, .slice none 0 0, .slice none 0 0] 43)) w1) (hc : c < w.heap.size) (a0 a1 a2 : Int) :
  Fr w c w.heap.size w1.heap.size a0 a1 a2 (w1.alloc (.cells #[.int .i64 a0, .int .i64 a1, .int .i64 a2, .slice none 0 0, .slice none 0 0, .slice none 0 0, .slice none 0 0] 43)) rk (.slice none 0 0) (.slice none 0 0) (.slice none 0 0) (.slice none 0 0) := by
 have hs : w1.heap.size = w.heap.size + 1 := by have := hb.size; simpa using this
 refine ⟨hr.alloc _, ⟨_, heap_new _ _⟩, ⟨43, ?_⟩, ?_, hc, Nat.le_refl _, by omega⟩
 · rw [Below.heap_alloc _ _ _ (by omega), hb.block _ (by omega), heap_new]
 · exact grownR_trans (World.grownBy_alloc w _ _) (grownR_trans hb.grown (World.grownBy_alloc _ _ _))
end

def opCells (o : OpL) : List Value := [.int .i64 o.1, .int .i64 o.2.1, .int .i64 o.2.2]
def opsCells (zs : List OpL) : List Value := zs.flatMap opCells
theorem opsCells_snoc (zs : List OpL) (o : OpL) : opsCells (zs ++ [o]) = opsCells zs ++ opCells o := by simp [opsCells]

theorem own_small {w w1 : World} {c base : Nat} {e : TypeId} {size : Nat} {v : Value} {n : Nat} {xs : List Value} (h : w.ownsRow base e size v n xs) (hb : Beside c w w1) (hc : c < base) : w1.ownsRow base e size v n xs :=
 h.kept hb.grown (by
  cases hv : v.ownBlock with
  | none => exact Or.inl rfl
  | some k => right; intro e; have := (h.lt k hv).1; simp at e; omega)

theorem alloc_size (w : World) (o : Obj) : (w.alloc o).heap.size = w.heap.size + 1 := by simp
theorem one_op (o : OpL) : ∀ u ∈ opCells o, u.oneCell' = true := by simp [opCells, Value.oneCell']
theorem len_ok {k n : Nat} (h : k < n) (h' : n < 256) : k + 1 ≤ maxLen := by unfold maxLen; omega
theorem len24_ok {k n : Nat} (h : k < n) (h' : n < 256) : (k + 1) * 24 ≤ 140737488355328 := by omega
theorem len8_ok {k n : Nat} (h : k < n) (h' : n < 256) : (k + 1) * 8 ≤ 140737488355328 := by omega
theorem lt_ok {w : World} {b : Nat} {o : Obj} (h : b < w.heap.size) : b + 1 ≤ (w.alloc o).heap.size := by rw [alloc_size]; omega
theorem Fr.after {w x4 x5 : World} {c B2 B3 : Nat} {a0 a1 a2 : Int} {rk : Rd} {v3 v4 v5 v6 v : Value} {o : Obj} {e : TypeId} {size n : Nat} {xs : List Value} (F : Fr w c B2 B3 a0 a1 a2 x4 rk v3 v4 v5 v6)
  (hown : x4.ownsRow (B3 + 1) e size v n xs) (hg : (x4.alloc o).grownBy x5 v.ownBlock) : Fr w c B2 B3 a0 a1 a2 x5 rk v3 v4 v5 v6 :=
 (F.alloc o).grown hg (fun g h => by have := (hown.lt g h).1; omega)

theorem le_small {w w1 : World} {b c : Nat} (h : b ≤ w.heap.size) (hb : Beside c w.drew w1) : b ≤ w1.heap.size := by rw [hb.size]; exact h
theorem le_alloc {w : World} {b : Nat} {o : Obj} (h : b ≤ w.heap.size) : b ≤ (w.alloc o).heap.size := by rw [alloc_size]; omega
theorem le_grown {w w1 : World} {b : Nat} {o : Obj} {row : Option Nat} (h : b ≤ w.heap.size) (hg : (w.alloc o).grownBy w1 row) : b ≤ w1.heap.size := by have := hg.size; rw [alloc_size] at this; omega
theorem le_put {w : World} {b : Nat} {a : Addr} {v : Value} (h : b ≤ w.heap.size) : b ≤ (w.setCell a v).heap.size := by simpa [World.setCell] using h
theorem own_far {x y : World} {o : Obj} {b base : Nat} {e e' : TypeId} {size size' : Nat} {v v' : Value} {n n' : Nat} {xs xs' : List Value} (h : x.ownsRow b e size v n xs) (hl : ∀ k, v.ownBlock = some k → k < base)
  (h' : x.ownsRow base e' size' v' n' xs') (hg : (x.alloc o).grownBy y v'.ownBlock) : y.ownsRow b e size v n xs :=
 (h.alloc o).kept hg (by
  cases hv : v.ownBlock with
  | none => exact Or.inl rfl
  | some k => right; intro e; have h1 := hl k hv; have h2 := (h'.lt k e.symm).1; omega)
theorem own_apart {x y : World} {o : Obj} {b : Nat} {e : TypeId} {size : Nat} {v v' : Value} {n : Nat} {xs : List Value} (h : x.ownsRow b e size v n xs) (ha : ∀ k, v'.ownBlock = some k → v.ownBlock ≠ some k)
  (hg : (x.alloc o).grownBy y v'.ownBlock) : y.ownsRow b e size v n xs :=
 (h.alloc o).kept hg (by
  cases hv : v.ownBlock with
  | none => exact Or.inl rfl
  | some k => right; intro e; exact ha k e.symm hv)
theorem apart_new {x : World} {b g : Nat} {e : TypeId} {size : Nat} {v v' : Value} {n : Nat} {xs : List Value} (ha : ∀ k, v'.ownBlock = some k → v.ownBlock ≠ some k) (h : x.ownsRow b e size v n xs)
  (hat : v'.ownBlock = some g ∨ g = x.heap.size + 1) : v.ownBlock ≠ some g := by
 rcases hat with h1 | rfl
 · exact ha g h1
 · intro e
  have := (h.lt _ e).2
  omega
theorem apart_flip {v : Value} {g n cap : Nat} (h : v.ownBlock ≠ some g) : ∀ k, v.ownBlock = some k → (Value.slice (some ⟨g, 0, none⟩) n cap).ownBlock ≠ some k := by
 intro k hk e
 simp [Value.ownBlock] at e
 exact h (by rw [hk, e])
theorem apart_both {x : World} {b g g' n n' cap cap' : Nat} {e : TypeId} {size : Nat} {v : Value} {m : Nat} {xs : List Value} (h : v.ownBlock ≠ some g) (ho : x.ownsRow b e size (.slice (some ⟨g, 0, none⟩) n cap) m xs) (hat : v.ownBlock = some g' ∨ g' = x.heap.size + 1) :
  ∀ k, (Value.slice (some ⟨g, 0, none⟩) n cap).ownBlock = some k → (Value.slice (some ⟨g', 0, none⟩) n' cap').ownBlock ≠ some k := by
 intro k hk e
 have hg : g < x.heap.size := (ho.lt g rfl).2
 simp [Value.ownBlock] at hk e
 rcases hat with h1 | h1
 · exact h (by rw [h1]; congr 1; omega)
 · omega
theorem own_put {x : World} {b c o : Nat} {e : TypeId} {size : Nat} {v u : Value} {n : Nat} {xs : List Value} (h : x.ownsRow b e size v n xs) (hc : c < b) : (x.setCell ⟨c, o, none⟩ u).ownsRow b e size v n xs :=
 ownsRow_setCell_below h hc u
theorem ops_end {r : List OpL × Rd} {n k : Nat} {zs : List OpL} {rk : Rd} (h : ¬ k < n) (HR : Hid (r = (zs ++ (Rd.ops (n - k) rk).1, (Rd.ops (n - k) rk).2))) : r = (zs, rk) := by
 have : n - k = 0 := by omega
 unfold Hid at HR
 rw [HR, this]
 simp [Rd.ops]
theorem nums_end {r : List Int × Rd} {n k : Nat} {zs : List Int} {rk : Rd} (h : ¬ k < n) (HR : Hid (r = (zs ++ (Rd.nums (n - k) rk).1, (Rd.nums (n - k) rk).2))) : r = (zs, rk) := by
 have : n - k = 0 := by omega
 unfold Hid at HR
 rw [HR, this]
 simp [Rd.nums]
theorem told_end {r : List Int × List Int × Rd} {n k : Nat} {xs ys : List Int} {rk : Rd} (h : ¬ k < n) (HR : Hid (r = (xs ++ (Rd.told (n - k) rk).1, ys ++ (Rd.told (n - k) rk).2.1, (Rd.told (n - k) rk).2.2))) : r = (xs, ys, rk) := by
 have : n - k = 0 := by omega
 unfold Hid at HR
 rw [HR, this]
 simp [Rd.told]
theorem d1_start {r : Rd} {zs : List OpL} {rk : Rd} (h : r.o1 = (zs, rk)) : r.d1 = Rd.nums rk.one.toNat rk.next := by unfold Rd.d1; rw [h]
theorem t1_start {r : Rd} {zs : List Int} {rk : Rd} (h : r.d1 = (zs, rk)) : r.t1 = Rd.told rk.one.toNat rk.next := by unfold Rd.t1; rw [h]
theorem ops_go {r : List OpL × Rd} {n k : Nat} {zs : List OpL} {rk : Rd} (h : k < n) (HR : Hid (r = (zs ++ (Rd.ops (n - k) rk).1, (Rd.ops (n - k) rk).2))) :
  Hid (r = (zs ++ [(rk.one, rk.next.one, rk.next.next.wide)] ++ (Rd.ops (n - (k + 1)) rk.next.next.next6).1, (Rd.ops (n - (k + 1)) rk.next.next.next6).2)) := by
 obtain ⟨j, hj⟩ : ∃ j, n - k = j + 1 := ⟨n - k - 1, by omega⟩
 have hj' : n - (k + 1) = j := by omega
 unfold Hid at *
 rw [HR, hj', hj]
 simp [Rd.ops]
theorem nums_go {r : List Int × Rd} {n k : Nat} {zs : List Int} {rk : Rd} (h : k < n) (HR : Hid (r = (zs ++ (Rd.nums (n - k) rk).1, (Rd.nums (n - k) rk).2))) :
  Hid (r = (zs ++ [rk.one] ++ (Rd.nums (n - (k + 1)) rk.next).1, (Rd.nums (n - (k + 1)) rk.next).2)) := by
 obtain ⟨j, hj⟩ : ∃ j, n - k = j + 1 := ⟨n - k - 1, by omega⟩
 have hj' : n - (k + 1) = j := by omega
 unfold Hid at *
 rw [HR, hj', hj]
 simp [Rd.nums]
theorem told_go {r : List Int × List Int × Rd} {n k : Nat} {xs ys : List Int} {rk : Rd} (h : k < n) (HR : Hid (r = (xs ++ (Rd.told (n - k) rk).1, ys ++ (Rd.told (n - k) rk).2.1, (Rd.told (n - k) rk).2.2))) :
  Hid (r = (xs ++ [rk.one] ++ (Rd.told (n - (k + 1)) rk.next.next6).1, ys ++ [rk.next.wide] ++ (Rd.told (n - (k + 1)) rk.next.next6).2.1, (Rd.told (n - (k + 1)) rk.next.next6).2.2)) := by
 obtain ⟨j, hj⟩ : ∃ j, n - k = j + 1 := ⟨n - k - 1, by omega⟩
 have hj' : n - (k + 1) = j := by omega
 unfold Hid at *
 rw [HR, hj', hj]
 simp [Rd.told]

def SlOps (w : World) (a : Option Addr) (cap : Nat) (zs : List OpL) : Prop := OpsAt w a zs ∧ zs.length ≤ maxLen ∧ zs.length ≤ cap ∧ (a = none → zs.length = 0 ∧ cap = 0)
/-- A value that is a frame. -/
def FrameV (w : World) (v : Value) (f : FrameL) : Prop := ∃ a3 c3 a4 c4 a5 c5 a6 c6,
 v = .agg #[.int .i64 f.kind, .int .i64 f.node, .int .i64 f.id, .slice a3 f.ops.length c3, .slice a4 f.deps.length c4, .slice a5 f.ats.length c5, .slice a6 f.vals.length c6] ∧
 SlOps w a3 c3 f.ops ∧ SlInts w a4 c4 f.deps ∧ SlInts w a5 c5 f.ats ∧ SlInts w a6 c6 f.vals
theorem SlOps.later {w w' : World} {a : Option Addr} {cap : Nat} {zs : List OpL} (h : SlOps w a cap zs) (hb : Below w.heap.size w w') : SlOps w' a cap zs :=
 ⟨h.1.later hb, h.2⟩
theorem FrameV.later {w w' : World} {v : Value} {f : FrameL} (h : FrameV w v f) (hb : Below w.heap.size w w') : FrameV w' v f := by
 obtain ⟨a3, c3, a4, c4, a5, c5, a6, c6, e, h3, h4, h5, h6⟩ := h
 exact ⟨a3, c3, a4, c4, a5, c5, a6, c6, e, h3.later hb, h4.later hb, h5.later hb, h6.later hb⟩

theorem opsCells_len (zs : List OpL) : (opsCells zs).length = zs.length * 3 := by
 induction zs with
 | nil => rfl
 | cons o zs ih => simp [opsCells, opCells] at *; omega
theorem opsCells_get : ∀ (zs : List OpL) (i : Nat), i < zs.length → (opsCells zs)[i * 3]? = some (.int .i64 (zs.getD i (0, 0, 0)).1) ∧ (opsCells zs)[i * 3 + 1]? = some (.int .i64 (zs.getD i (0, 0, 0)).2.1) ∧ (opsCells zs)[i * 3 + 2]? = some (.int .i64 (zs.getD i (0, 0, 0)).2.2)
 | [], i, h => by simp at h
 | o :: zs, 0, _ => by simp [opsCells, opCells]
 | o :: zs, i + 1, h => by
  have ih := opsCells_get zs i (by simpa using h)
  have e : opsCells (o :: zs) = .int .i64 o.1 :: .int .i64 o.2.1 :: .int .i64 o.2.2 :: opsCells zs := by simp [opsCells, opCells]
  have n0 : (i + 1) * 3 = i * 3 + 1 + 1 + 1 := by omega
  have n1 : (i + 1) * 3 + 1 = (i * 3 + 1) + 1 + 1 + 1 := by omega
  have n2 : (i + 1) * 3 + 2 = (i * 3 + 2) + 1 + 1 + 1 := by omega
  rw [e, n1, n2, n0]
  simpa using ih
theorem SlOps.of_owns {w : World} {b : Nat} {e : TypeId} {a : Option Addr} {cap : Nat} {zs : List OpL} (h : w.ownsRow b e 3 (.slice a zs.length cap) zs.length (opsCells zs)) : SlOps w a cap zs := by
 obtain ⟨a2, c2, h1, h2, h3⟩ := own_form h
 simp at h1
 obtain ⟨rfl, rfl⟩ := h1
 rcases h.2 with ⟨_, h0⟩ | ⟨g, c, cur, hs, hg, hh, h5, h6, h7, h8⟩
 · exact ⟨Or.inl (List.eq_nil_of_length_eq_zero h0), by rw [h0]; exact Nat.zero_le _, h2, h3⟩
 · simp at hs
  obtain ⟨rfl, rfl⟩ := hs
  refine ⟨Or.inr ⟨g, 0, rfl, (Array.getElem?_eq_some_iff.1 hh).1, fun i hi => ?_⟩, by omega, h2, h3⟩
  have key : ∀ j, j < zs.length * 3 → w.cell? ⟨g, 0 + j, none⟩ = (opsCells zs)[j]? := fun j hj => by
   rw [cell_of_row w g (0 + j) cur e _ hh, ← h8, List.getElem?_take_of_lt hj, Nat.zero_add]
   simp
  have := opsCells_get zs i hi
  rw [← key _ (by omega), ← key _ (by omega), ← key _ (by omega)] at this
  simpa [Nat.add_assoc] using this

def put7 (w : World) (b : Nat) (x0 x1 x2 x3 x4 x5 x6 : Value) : World :=
 ((((((w.setCell ⟨b, 0, none⟩ x0).setCell ⟨b, 1, none⟩ x1).setCell ⟨b, 2, none⟩ x2).setCell ⟨b, 3, none⟩ x3).setCell ⟨b, 4, none⟩ x4).setCell ⟨b, 5, none⟩ x5).setCell ⟨b, 6, none⟩ x6
theorem put7_own {w : World} {b : Nat} {x0 x1 x2 x3 x4 x5 x6 : Value} {base : Nat} {e : TypeId} {size : Nat} {v : Value} {n : Nat} {xs : List Value} (h : w.ownsRow base e size v n xs) (hb : b < base) : (put7 w b x0 x1 x2 x3 x4 x5 x6).ownsRow base e size v n xs :=
 own_put (own_put (own_put (own_put (own_put (own_put (own_put h hb) hb) hb) hb) hb) hb) hb
theorem put7_block {w : World} {b : Nat} {x0 x1 x2 x3 x4 x5 x6 : Value} {k : Nat} (h : k ≠ b) : (put7 w b x0 x1 x2 x3 x4 x5 x6).heap[k]? = w.heap[k]? := by
 unfold put7
 rw [Below.heap_setCell _ _ _ _ h, Below.heap_setCell _ _ _ _ h, Below.heap_setCell _ _ _ _ h, Below.heap_setCell _ _ _ _ h, Below.heap_setCell _ _ _ _ h, Below.heap_setCell _ _ _ _ h, Below.heap_setCell _ _ _ _ h]
theorem put7_grown {w w1 : World} {b c : Nat} {x0 x1 x2 x3 x4 x5 x6 : Value} (h : w.grownBy w1 (some c)) (hb : w.heap.size ≤ b) : w.grownBy (put7 w1 b x0 x1 x2 x3 x4 x5 x6) (some c) :=
 grown_put (grown_put (grown_put (grown_put (grown_put (grown_put (grown_put h hb _ _) hb _ _) hb _ _) hb _ _) hb _ _) hb _ _) hb _ _

/-- No slice of the value lies below block b. -/
def FarV (b : Nat) (v : Value) : Prop := ∀ (cs : Array Value), v = .agg cs → ∀ (i : Nat) (x : Addr) (n c : Nat), cs[i]? = some (Value.slice (some x) n c) → b ≤ x.block
theorem far_of {w : World} {base b : Nat} {e : TypeId} {size n m : Nat} {a : Option Addr} {cap : Nat} {xs : List Value} (h : w.ownsRow base e size (.slice a n cap) m xs) (hb : b ≤ base) {x : Addr} (hx : a = some x) : b ≤ x.block := by
 subst hx
 have := (h.lt x.block rfl).1
 omega

theorem frame_fin {w wr : World} {c B3 b4 b5 : Nat} {r rk rk2 rk3 : Rd} {v3 v4 v5 v6 : Option Addr} {c3 c4 c5 c6 : Nat} {zs : List OpL} {ds xs ys : List Int} {k3 : Nat} {e3 e4 e5 e6 : TypeId}
  (F : Fr w c w.heap.size B3 r.one r.next.one r.next.next.one wr rk3 (.slice v3 zs.length c3) (.slice v4 ds.length c4) (.slice v5 k3 c5) (.slice v6 k3 c6)) (h3 : wr.ownsRow (B3 + 1) e3 3 (.slice v3 zs.length c3) zs.length (opsCells zs))
  (h4 : wr.ownsRow b4 e4 1 (.slice v4 ds.length c4) ds.length (intCells ds)) (h5 : wr.ownsRow b5 e5 1 (.slice v5 k3 c5) k3 (intCells xs)) (h6 : wr.ownsRow b5 e6 1 (.slice v6 k3 c6) k3 (intCells ys))
  (l4 : w.heap.size < b4) (l5 : w.heap.size < b5) (lx : xs.length = k3) (ly : ys.length = k3) (E1 : r.o1 = (zs, rk)) (E3 : r.d1 = (ds, rk2)) (E5 : r.t1 = (xs, ys, rk3)) {x0 x1 x2 x3 x4 x5 x6 : Value} :
  FrameV (put7 wr w.heap.size x0 x1 x2 x3 x4 x5 x6) (.agg #[.int .i64 r.one, .int .i64 r.next.one, .int .i64 r.next.next.one, .slice v3 zs.length c3, .slice v4 ds.length c4, .slice v5 k3 c5, .slice v6 k3 c6]) r.frame ∧
   RdAt (put7 wr w.heap.size x0 x1 x2 x3 x4 x5 x6) c r.end_ ∧ w.grownBy (put7 wr w.heap.size x0 x1 x2 x3 x4 x5 x6) (some c) ∧
   FarV w.heap.size (.agg #[.int .i64 r.one, .int .i64 r.next.one, .int .i64 r.next.next.one, .slice v3 zs.length c3, .slice v4 ds.length c4, .slice v5 k3 c5, .slice v6 k3 c6]) := by
 have l1 := F.l1
 have l3 := F.l3
 subst lx
 refine ⟨?_, ?_, put7_grown F.g (Nat.le_refl _), ?_⟩
 rotate_left 2
 · intro cs hcs i x n cc hi
  cases hcs
  match i, hi with
  | 0, hi => simp at hi
  | 1, hi => simp at hi
  | 2, hi => simp at hi
  | 3, hi => simp at hi; exact far_of h3 (by omega) hi.1
  | 4, hi => simp at hi; exact far_of h4 (by omega) hi.1
  | 5, hi => simp at hi; exact far_of h5 (by omega) hi.1
  | 6, hi => simp at hi; exact far_of h6 (by omega) hi.1
  | n + 7, hi => simp at hi
 · unfold Rd.frame FrameV
  rw [E1, E3, E5]
  refine ⟨v3, c3, v4, c4, v5, c5, v6, c6, by simp [ly], SlOps.of_owns (put7_own h3 (by omega)), SlInts.of_owns (put7_own h4 l4), SlInts.of_owns (put7_own h5 l5), ?_⟩
  rw [← ly] at h6
  exact SlInts.of_owns (put7_own h6 l5)
 · unfold Rd.end_
  rw [E5]
  exact F.rd.block (put7_block (by omega))

end Go.Proofs.Ytgdkjjmnoikhdab
