/-
  Plain mathematics of our own: the reader at a place of a text, and what a text's length tells of a frame.
-/
import Derived.Test.YtkoefoccbjhoiaaCodec
set_option linter.unusedVariables false
set_option linter.unusedSimpArgs false
namespace Go.Proofs.Ytkoefoccbjhoiaa
open Go.RowKit

def pos (l : List UInt8) (p : Nat) : Rd := ⟨l.drop p, false⟩
def bAt (l : List UInt8) (p : Nat) : Nat := (l.getD p 0).toNat
theorem bAt_lt (l : List UInt8) (p : Nat) : bAt l p < 256 := (l.getD p 0).toNat_lt
theorem pos_cons {l : List UInt8} {p : Nat} (h : p < l.length) : l.drop p = l.getD p 0 :: l.drop (p + 1) := by
  rw [List.drop_eq_getElem_cons h]
  simp [List.getD, h]
theorem pos_one {l : List UInt8} {p : Nat} (h : p < l.length) : (pos l p).one = (bAt l p : Int) := by
  unfold pos Rd.one
  rw [pos_cons h]
  rfl
theorem pos_next {l : List UInt8} {p : Nat} (h : p < l.length) : (pos l p).next = pos l (p + 1) := by
  unfold pos Rd.next
  rw [pos_cons h]
theorem pos_six {l : List UInt8} {p : Nat} (h : p + 6 ≤ l.length) : (pos l p).next6 = pos l (p + 6) := by
  unfold Rd.next6
  simp only [Rd.after]
  rw [pos_next (by omega), pos_next (by omega), pos_next (by omega), pos_next (by omega), pos_next (by omega), pos_next (by omega)]
theorem pos_end {l : List UInt8} {p : Nat} (h : p = l.length) : pos l p = ⟨[], false⟩ := by
  unfold pos
  rw [h, List.drop_length]

theorem getD_mid {A B : List UInt8} {x : UInt8} {k : Nat} (h : A.length = k) : (A ++ x :: B).getD k 0 = x := by
  subst h
  simp [List.getD]

theorem enc_shape {f : FrameL} (h : goodL f = 0) : bAt (encL f) 3 = f.ops.length ∧ bAt (encL f) (4 + 8 * f.ops.length) = f.deps.length ∧ bAt (encL f) (5 + 8 * f.ops.length + f.deps.length) = f.ats.length ∧
    (encL f).length = 6 + 8 * f.ops.length + f.deps.length + 7 * f.ats.length := by
  obtain ⟨hk, hn, hi, ⟨ho1, ho2⟩, ⟨hd1, hd2⟩, ⟨ha1, ha2⟩, hv1, hv2⟩ := good_in h
  have e1 := encOps_len f.ops
  have e2 := encTold_len f.ats f.vals hv1
  have e3 : (encNums f.deps).length = f.deps.length := by simp [encNums]
  have b1 := byt_nat (n := (f.ops.length : Int)) (by omega) (by omega)
  have b2 := byt_nat (n := (f.deps.length : Int)) (by omega) (by omega)
  have b3 := byt_nat (n := (f.ats.length : Int)) (by omega) (by omega)
  refine ⟨?_, ?_, ?_, ?_⟩
  · have : encL f = [byt f.kind, byt f.node, byt f.id] ++ byt f.ops.length :: (encOps f.ops ++ [byt f.deps.length] ++ encNums f.deps ++ [byt f.ats.length] ++ encTold f.ats f.vals) := by simp [encL]
    unfold bAt
    rw [this, getD_mid (k := 3) (by simp)]
    omega
  · have : encL f = ([byt f.kind, byt f.node, byt f.id, byt f.ops.length] ++ encOps f.ops) ++ byt f.deps.length :: (encNums f.deps ++ [byt f.ats.length] ++ encTold f.ats f.vals) := by simp [encL]
    unfold bAt
    rw [this, getD_mid (by simp [e1]; omega)]
    omega
  · have : encL f = ([byt f.kind, byt f.node, byt f.id, byt f.ops.length] ++ encOps f.ops ++ [byt f.deps.length] ++ encNums f.deps) ++ byt f.ats.length :: encTold f.ats f.vals := by simp [encL]
    unfold bAt
    rw [this, getD_mid (by simp [e1, e3]; omega)]
    omega
  · simp [encL, e1, e2, e3]
    omega

/-- A text that is a frame is as long as its counts say. -/
theorem ok_shape {l : List UInt8} (h : okL l = true) :
    l.length = 6 + 8 * bAt l 3 + bAt l (4 + 8 * bAt l 3) + 7 * bAt l (5 + 8 * bAt l 3 + bAt l (4 + 8 * bAt l 3)) := by
  obtain ⟨g1, g2⟩ := ok_sound h
  obtain ⟨s1, s2, s3, s4⟩ := enc_shape g1
  rw [g2] at s1 s2 s3 s4
  rw [s1, s2, s3, s4]

theorem not_ok {l : List UInt8} (h : ¬ l.length = 6 + 8 * bAt l 3 + bAt l (4 + 8 * bAt l 3) + 7 * bAt l (5 + 8 * bAt l 3 + bAt l (4 + 8 * bAt l 3))) : okL l = false := by
  cases ho : okL l with
  | false => rfl
  | true => exact absurd (ok_shape ho) h

/-- What is read where nothing lacks. -/
theorem read_pos {l : List UInt8} {n nd na : Nat} {zs : List OpL} {ds xs ys : List Int} (hn : bAt l 3 = n) (hd : bAt l (4 + 8 * n) = nd) (ha : bAt l (5 + 8 * n + nd) = na) (hl : l.length = 6 + 8 * n + nd + 7 * na)
    (E1 : Rd.ops n (pos l 4) = (zs, pos l (4 + 8 * n))) (E2 : Rd.nums nd (pos l (5 + 8 * n)) = (ds, pos l (5 + 8 * n + nd))) (E3 : Rd.told na (pos l (6 + 8 * n + nd)) = (xs, ys, pos l (6 + 8 * n + nd + 7 * na))) :
    okL l = (goodL ⟨bAt l 0, bAt l 1, bAt l 2, zs, ds, xs, ys⟩ == 0) ∧ (okL l = true → decL l = ⟨bAt l 0, bAt l 1, bAt l 2, zs, ds, xs, ys⟩) := by
  have e0 : (⟨l, false⟩ : Rd) = pos l 0 := rfl
  have q1 : (⟨l, false⟩ : Rd).r1 = pos l 3 := by rw [e0]; unfold Rd.r1; rw [pos_next (by omega), pos_next (by omega), pos_next (by omega)]
  have q2 : (⟨l, false⟩ : Rd).o1 = (zs, pos l (4 + 8 * n)) := by unfold Rd.o1; rw [q1, pos_one (by omega), pos_next (by omega), hn, Int.toNat_natCast, E1]
  have q3 : (⟨l, false⟩ : Rd).d1 = (ds, pos l (5 + 8 * n + nd)) := by
    unfold Rd.d1
    rw [q2]
    simp only
    rw [pos_one (by omega), pos_next (by omega), hd, Int.toNat_natCast, show 4 + 8 * n + 1 = 5 + 8 * n by omega, E2]
  have q4 : (⟨l, false⟩ : Rd).t1 = (xs, ys, pos l (6 + 8 * n + nd + 7 * na)) := by
    unfold Rd.t1
    rw [q3]
    simp only
    rw [pos_one (by omega), pos_next (by omega), ha, Int.toNat_natCast, show 5 + 8 * n + nd + 1 = 6 + 8 * n + nd by omega, E3]
  have q5 : (⟨l, false⟩ : Rd).end_ = ⟨[], false⟩ := by unfold Rd.end_; rw [q4]; exact pos_end hl.symm
  have q6 : (⟨l, false⟩ : Rd).frame = ⟨bAt l 0, bAt l 1, bAt l 2, zs, ds, xs, ys⟩ := by
    unfold Rd.frame
    rw [q2, q3, q4, e0, pos_next (by omega), pos_next (by omega), pos_one (by omega), pos_one (by omega), pos_one (by omega)]
  have q7 : okL l = (goodL ⟨bAt l 0, bAt l 1, bAt l 2, zs, ds, xs, ys⟩ == 0) := by
    unfold okL
    rw [q5, q6]
    rfl
  refine ⟨q7, fun h => ?_⟩
  unfold decL
  rw [if_pos h, q6]

end Go.Proofs.Ytkoefoccbjhoiaa
