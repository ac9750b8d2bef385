/-
  Plain mathematics of a log: how a record is written, and what the records of a log are.
-/
import Derived.Test.YtkoefoccbjhoiaaCodec
import Derived.Test.YtkoefoccbjhoiaaReader
set_option linter.unusedVariables false
set_option linter.unusedSimpArgs false
namespace Go.Proofs.Ytkoefoccbjhoiaa
open Go.RowKit

/-- a text that may be a record -/
def RecOk (s : List UInt8) : Prop := 0 < s.length ∧ s.length ≤ 400
/-- the two bytes ahead of a record -/
def hd (s : List UInt8) : List UInt8 := [byt ((s.length : Int) / 256), byt ((s.length : Int) % 256)]
/-- a record, as it is written -/
def rc (s : List UInt8) : List UInt8 := hd s ++ s
/-- records, as they are written -/
def recs (l : List (List UInt8)) : List UInt8 := l.flatMap rc
/-- the log begins with no record -/
def NoRec (l : List UInt8) : Prop := ∀ s t, RecOk s → l ≠ rc s ++ t

theorem rc_len (s : List UInt8) : (rc s).length = s.length + 2 := by simp [rc, hd]
theorem recs_nil : recs [] = [] := rfl
theorem recs_cons (s : List UInt8) (l : List (List UInt8)) : recs (s :: l) = rc s ++ recs l := by simp [recs]
theorem recs_app (l m : List (List UInt8)) : recs (l ++ m) = recs l ++ recs m := by simp [recs]
theorem recs_one (s : List UInt8) : recs [s] = rc s := by simp [recs]

theorem hd_of {a b : UInt8} {s : List UInt8} (h : s.length = a.toNat * 256 + b.toNat) : hd s = [a, b] := by
  have ha := a.toNat_lt
  have hb := b.toNat_lt
  have e1 : (s.length : Int) / 256 = (a.toNat : Int) := by omega
  have e2 : (s.length : Int) % 256 = (b.toNat : Int) := by omega
  unfold hd
  rw [e1, e2]
  rw [byt_of, byt_of]

/-- what the two bytes ahead of a record say -/
theorem hd_get (s : List UInt8) (h : s.length ≤ 400) : ∃ a b : UInt8, hd s = [a, b] ∧ s.length = a.toNat * 256 + b.toNat := by
  refine ⟨_, _, rfl, ?_⟩
  have e1 := byt_nat (n := (s.length : Int) / 256) (by omega) (by omega)
  have e2 := byt_nat (n := (s.length : Int) % 256) (by omega) (by omega)
  omega

theorem no_short {l : List UInt8} (h : l.length < 2) : NoRec l := by
  intro s t _ e
  have := congrArg List.length e
  rw [List.length_append, rc_len] at this
  omega

theorem no_two {a b : UInt8} {t : List UInt8} (h : NoRec (a :: b :: t)) : a.toNat * 256 + b.toNat = 0 ∨ 400 < a.toNat * 256 + b.toNat ∨ t.length < a.toNat * 256 + b.toNat := by
  by_cases h0 : a.toNat * 256 + b.toNat = 0
  · exact Or.inl h0
  by_cases h1 : 400 < a.toNat * 256 + b.toNat
  · exact Or.inr (Or.inl h1)
  by_cases h2 : t.length < a.toNat * 256 + b.toNat
  · exact Or.inr (Or.inr h2)
  exfalso
  have hl : (t.take (a.toNat * 256 + b.toNat)).length = a.toNat * 256 + b.toNat := by rw [List.length_take]; omega
  refine h (t.take (a.toNat * 256 + b.toNat)) (t.drop (a.toNat * 256 + b.toNat)) ⟨by omega, by omega⟩ ?_
  unfold rc
  rw [hd_of hl]
  simp

/-- a record that is cut off is none -/
theorem no_cut {s : List UInt8} {n : Nat} (hs : RecOk s) (hn : n < s.length + 2) : NoRec ((rc s).take n) := by
  obtain ⟨a, b, e, hl⟩ := hd_get s hs.2
  intro u t hu h
  obtain ⟨a', b', e', hl'⟩ := hd_get u hu.2
  have hlen := congrArg List.length h
  rw [List.length_take, rc_len, List.length_append, rc_len] at hlen
  unfold rc at h
  rw [e, e'] at h
  match n, h with
  | 0, h => simp at h
  | 1, h => simp at h
  | n + 2, h =>
    simp at h
    obtain ⟨rfl, rfl, _⟩ := h
    omega

theorem some_or_none (l : List UInt8) : NoRec l ∨ ∃ s t, RecOk s ∧ l = rc s ++ t := by
  by_cases h : NoRec l
  · exact Or.inl h
  · right
    refine Classical.byContradiction fun hn => h fun s t hs e => hn ⟨s, t, hs, e⟩

/-- each log has its records -/
theorem recs_of : ∀ (n : Nat) (l : List UInt8), l.length ≤ n → ∃ (rs : List (List UInt8)) (t : List UInt8), (∀ s ∈ rs, RecOk s) ∧ NoRec t ∧ l = recs rs ++ t
  | 0, l, h => ⟨[], l, by simp, no_short (by omega), rfl⟩
  | n + 1, l, h => by
    rcases some_or_none l with h0 | ⟨s, t, hs, rfl⟩
    · exact ⟨[], l, by simp, h0, rfl⟩
    · rw [List.length_append, rc_len] at h
      obtain ⟨rs, u, h1, h2, rfl⟩ := recs_of n t (by omega)
      exact ⟨s :: rs, u, by intro x hx; rcases List.mem_cons.1 hx with rfl | hx; exact hs; exact h1 x hx, h2, by rw [recs_cons, List.append_assoc]⟩

/-- what Write says, and what it makes -/
def wErr (l s : List UInt8) : Int := if 65536 < l.length then 2 else if s.length = 0 ∨ 400 < s.length then 1 else if 65536 < l.length + s.length + 2 then 5 else 0
def wOut (l s : List UInt8) : List UInt8 := if wErr l s = 0 then l ++ rc s else l
def tearL (l s : List UInt8) (n : Int) : List UInt8 := if wErr l s = 0 then l ++ (rc s).take n.toNat else l

theorem wErr_ok {l s : List UInt8} (h : wErr l s = 0) : l.length ≤ 65536 ∧ RecOk s ∧ l.length + s.length + 2 ≤ 65536 := by
  unfold wErr at h
  split at h
  · omega
  · split at h
    · omega
    · split at h
      · omega
      · unfold RecOk; omega

end Go.Proofs.Ytkoefoccbjhoiaa
