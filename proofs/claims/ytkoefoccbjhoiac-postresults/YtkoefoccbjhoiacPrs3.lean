/-
  Plain mathematics of our own: a frame as bytes, and the reader that takes one off the front of bytes.
  The contracts of package wire's reader: small and wide, behind a pointer.
  How a slice of ints that came in is read: its elements, and where they lie.
  How a slice of operations, or of ints, that came in is read: its elements' numbers, and where they lie.
  The state of the reading of a frame: where the reader, the frame under way and its lists lie.
-/
import Derived.Test.YtkoefoccbjhoiacPrs2
import Derived.Lib.Strings
import Derived.Laws.BitsLemmas
import Derived.Test.YtkoefoccbjhoiacPrs1
import Derived.ProofKit
import Derived.OpenShut
import Derived.ShutString
import Derived.ChangeOld
import Derived.Below
import Derived.Deep.Slices
import Derived.Deep.AppendLies
set_option linter.unusedVariables false
set_option linter.unusedSimpArgs false
namespace Go.Proofs.Ytkoefoccbjhoiac
open Go.RowKit

structure FrameL where
  kind : Int
  node : Int
  id : Int
  ops : List OpL
  deps : List Int
  ats : List Int
  vals : List Int

def byt (n : Int) : UInt8 := UInt8.ofNat (n % 256).toNat
theorem byt_nat {n : Int} (h : 0 ≤ n) (h' : n < 256) : ((byt n).toNat : Int) = n := by
  unfold byt
  rw [UInt8.toNat_ofNat']
  omega
theorem byt_of (c : UInt8) : byt (c.toNat : Int) = c := by
  unfold byt
  have := c.toNat_lt
  apply UInt8.toNat_inj.1
  rw [UInt8.toNat_ofNat']
  omega
theorem byt_mod (n : Int) : byt (n % 256) = byt n := by unfold byt; rw [Int.emod_emod_of_dvd _ (by decide)]

def sixAt (m : Int) : List UInt8 := [byt (m / 1099511627776), byt (m / 4294967296), byt (m / 16777216), byt (m / 65536), byt (m / 256), byt m]
def six (n : Int) : List UInt8 := sixAt (n + 140737488355328)
theorem six_len (n : Int) : (six n).length = 6 := rfl

def encOps (zs : List OpL) : List UInt8 := zs.flatMap fun o => byt o.1 :: byt o.2.1 :: six o.2.2
def encNums (zs : List Int) : List UInt8 := zs.map byt
def encTold : List Int → List Int → List UInt8
  | a :: xs, v :: vs => byt a :: six v ++ encTold xs vs
  | _, _ => []
def encL (f : FrameL) : List UInt8 :=
  [byt f.kind, byt f.node, byt f.id, byt f.ops.length] ++ encOps f.ops ++ [byt f.deps.length] ++ encNums f.deps ++ [byt f.ats.length] ++ encTold f.ats f.vals

/-- a reader: what is left, and whether something was lacking -/
structure Rd where
  rest : List UInt8
  short : Bool

def Rd.one (r : Rd) : Int := match r.rest with | [] => 0 | c :: _ => (c.toNat : Int)
def Rd.next (r : Rd) : Rd := match r.rest with | [] => ⟨[], true⟩ | _ :: t => ⟨t, r.short⟩
theorem Rd.one_lo (r : Rd) : 0 ≤ r.one := by unfold Rd.one; split <;> omega
theorem Rd.one_hi (r : Rd) : r.one < 256 := by
  unfold Rd.one
  split
  · omega
  · rename_i c _ _
    have := c.toNat_lt
    omega

def Rd.after : Nat → Rd → Rd
  | 0, r => r
  | k + 1, r => Rd.after k r.next
def Rd.num : Nat → Int → Rd → Int
  | 0, n, _ => n
  | k + 1, n, r => Rd.num k (n * 256 + r.one) r.next
def Rd.wide (r : Rd) : Int := Rd.num 6 0 r - 140737488355328
def Rd.next6 (r : Rd) : Rd := Rd.after 6 r

def Rd.ops : Nat → Rd → List OpL × Rd
  | 0, r => ([], r)
  | k + 1, r => ((r.one, r.next.one, r.next.next.wide) :: (Rd.ops k r.next.next.next6).1, (Rd.ops k r.next.next.next6).2)
def Rd.nums : Nat → Rd → List Int × Rd
  | 0, r => ([], r)
  | k + 1, r => (r.one :: (Rd.nums k r.next).1, (Rd.nums k r.next).2)
def Rd.told : Nat → Rd → List Int × List Int × Rd
  | 0, r => ([], [], r)
  | k + 1, r => (r.one :: (Rd.told k r.next.next6).1, r.next.wide :: (Rd.told k r.next.next6).2.1, (Rd.told k r.next.next6).2.2)

/-- the reader's road: behind the head, behind the operations, behind what stands ahead, behind what is told -/
def Rd.r1 (r : Rd) : Rd := r.next.next.next
def Rd.o1 (r : Rd) : List OpL × Rd := Rd.ops r.r1.one.toNat r.r1.next
def Rd.d1 (r : Rd) : List Int × Rd := Rd.nums r.o1.2.one.toNat r.o1.2.next
def Rd.t1 (r : Rd) : List Int × List Int × Rd := Rd.told r.d1.2.one.toNat r.d1.2.next
def Rd.frame (r : Rd) : FrameL := ⟨r.one, r.next.one, r.next.next.one, r.o1.1, r.d1.1, r.t1.1, r.t1.2.1⟩
def Rd.end_ (r : Rd) : Rd := r.t1.2.2

/- what was read, if nothing was lacking, stood there -/
theorem Rd.next_sound {r : Rd} (h : r.next.short = false) : r.short = false ∧ r.rest = byt r.one :: r.next.rest := by
  obtain ⟨l, b⟩ := r
  cases l with
  | nil => simp [Rd.next] at h
  | cons c t => exact ⟨h, by simp [Rd.one, Rd.next, byt_of]⟩

theorem Rd.after_sound {r : Rd} (h : r.next6.short = false) : r.short = false ∧ r.rest = six r.wide ++ r.next6.rest := by
  unfold Rd.next6 Rd.after at h
  simp only [Rd.after] at h
  obtain ⟨h5, e5⟩ := Rd.next_sound h
  obtain ⟨h4, e4⟩ := Rd.next_sound h5
  obtain ⟨h3, e3⟩ := Rd.next_sound h4
  obtain ⟨h2, e2⟩ := Rd.next_sound h3
  obtain ⟨h1, e1⟩ := Rd.next_sound h2
  obtain ⟨h0, e0⟩ := Rd.next_sound h1
  refine ⟨h0, ?_⟩
  rw [e0, e1, e2, e3, e4, e5]
  simp only [Rd.wide, Rd.num, six, sixAt, Rd.next6, Rd.after]
  have a0 := r.one_lo
  have b0 := r.one_hi
  have a1 := r.next.one_lo
  have b1 := r.next.one_hi
  have a2 := r.next.next.one_lo
  have b2 := r.next.next.one_hi
  have a3 := r.next.next.next.one_lo
  have b3 := r.next.next.next.one_hi
  have a4 := r.next.next.next.next.one_lo
  have b4 := r.next.next.next.next.one_hi
  have a5 := r.next.next.next.next.next.one_lo
  have b5 := r.next.next.next.next.next.one_hi
  generalize r.one = c0 at *
  generalize r.next.one = c1 at *
  generalize r.next.next.one = c2 at *
  generalize r.next.next.next.one = c3 at *
  generalize r.next.next.next.next.one = c4 at *
  generalize r.next.next.next.next.next.one = c5 at *
  have key : ∀ x y : Int, x % 256 = y % 256 → byt x = byt y := fun x y h => by rw [← byt_mod x, ← byt_mod y, h]
  simp only [List.cons_append, List.nil_append, List.cons.injEq, and_true]
  exact ⟨key _ _ (by omega), key _ _ (by omega), key _ _ (by omega), key _ _ (by omega), key _ _ (by omega), key _ _ (by omega)⟩

theorem Rd.ops_sound : ∀ (n : Nat) {r : Rd}, (Rd.ops n r).2.short = false → r.short = false ∧ r.rest = encOps (Rd.ops n r).1 ++ (Rd.ops n r).2.rest
  | 0, r, h => ⟨h, rfl⟩
  | k + 1, r, h => by
    obtain ⟨h3, e3⟩ := Rd.ops_sound k h
    obtain ⟨h2, e2⟩ := Rd.after_sound h3
    obtain ⟨h1, e1⟩ := Rd.next_sound h2
    obtain ⟨h0, e0⟩ := Rd.next_sound h1
    refine ⟨h0, ?_⟩
    rw [e0, e1, e2, e3]
    simp [Rd.ops, encOps]
theorem Rd.ops_len : ∀ (n : Nat) (r : Rd), (Rd.ops n r).1.length = n
  | 0, _ => rfl
  | k + 1, r => by simp [Rd.ops, Rd.ops_len k]

theorem Rd.nums_sound : ∀ (n : Nat) {r : Rd}, (Rd.nums n r).2.short = false → r.short = false ∧ r.rest = encNums (Rd.nums n r).1 ++ (Rd.nums n r).2.rest
  | 0, r, h => ⟨h, rfl⟩
  | k + 1, r, h => by
    obtain ⟨h1, e1⟩ := Rd.nums_sound k h
    obtain ⟨h0, e0⟩ := Rd.next_sound h1
    refine ⟨h0, ?_⟩
    rw [e0, e1]
    simp [Rd.nums, encNums]
theorem Rd.nums_len : ∀ (n : Nat) (r : Rd), (Rd.nums n r).1.length = n
  | 0, _ => rfl
  | k + 1, r => by simp [Rd.nums, Rd.nums_len k]

theorem Rd.told_sound : ∀ (n : Nat) {r : Rd}, (Rd.told n r).2.2.short = false → r.short = false ∧ r.rest = encTold (Rd.told n r).1 (Rd.told n r).2.1 ++ (Rd.told n r).2.2.rest
  | 0, r, h => ⟨h, rfl⟩
  | k + 1, r, h => by
    obtain ⟨h2, e2⟩ := Rd.told_sound k h
    obtain ⟨h1, e1⟩ := Rd.after_sound h2
    obtain ⟨h0, e0⟩ := Rd.next_sound h1
    refine ⟨h0, ?_⟩
    rw [e0, e1, e2]
    simp [Rd.told, encTold]
theorem Rd.told_len : ∀ (n : Nat) (r : Rd), (Rd.told n r).1.length = n ∧ (Rd.told n r).2.1.length = n
  | 0, _ => ⟨rfl, rfl⟩
  | k + 1, r => by simp [Rd.told, Rd.told_len k]

theorem Rd.frame_sound {r : Rd} (h : r.end_.short = false) : r.short = false ∧ r.rest = encL r.frame ++ r.end_.rest := by
  obtain ⟨g5, e5⟩ := Rd.told_sound _ h
  obtain ⟨g4, e4⟩ := Rd.next_sound g5
  obtain ⟨g3, e3⟩ := Rd.nums_sound _ g4
  obtain ⟨g2, e2⟩ := Rd.next_sound g3
  obtain ⟨g1, e1⟩ := Rd.ops_sound _ g2
  obtain ⟨g0, e0⟩ := Rd.next_sound g1
  obtain ⟨f2, d2⟩ := Rd.next_sound g0
  obtain ⟨f1, d1⟩ := Rd.next_sound f2
  obtain ⟨f0, d0⟩ := Rd.next_sound f1
  refine ⟨f0, ?_⟩
  have n1 : ((Rd.ops r.r1.one.toNat r.r1.next).1.length : Int) = r.r1.one := by rw [Rd.ops_len]; have := r.r1.one_lo; omega
  have n2 : ((Rd.nums r.o1.2.one.toNat r.o1.2.next).1.length : Int) = r.o1.2.one := by rw [Rd.nums_len]; have := r.o1.2.one_lo; omega
  have n3 : ((Rd.told r.d1.2.one.toNat r.d1.2.next).1.length : Int) = r.d1.2.one := by rw [(Rd.told_len _ _).1]; have := r.d1.2.one_lo; omega
  rw [d0, d1, d2]
  unfold encL
  simp only [Rd.frame, Rd.o1, Rd.d1, Rd.t1, Rd.end_] at *
  rw [n1, n2, n3]
  unfold Rd.r1 at *
  rw [e0, e1, e2, e3, e4, e5]
  simp

/- what stands there is read -/
theorem Rd.next_put (c : UInt8) (t : List UInt8) : (⟨c :: t, false⟩ : Rd).next = ⟨t, false⟩ := rfl
theorem Rd.one_put {n : Int} (h : 0 ≤ n) (h' : n < 256) (t : List UInt8) : (⟨byt n :: t, false⟩ : Rd).one = n := by
  show ((byt n).toNat : Int) = n
  exact byt_nat h h'
theorem Rd.six_put {n : Int} (h : -140737488355328 ≤ n) (h' : n < 140737488355328) (t : List UInt8) : (⟨six n ++ t, false⟩ : Rd).wide = n ∧ (⟨six n ++ t, false⟩ : Rd).next6 = ⟨t, false⟩ := by
  refine ⟨?_, rfl⟩
  have one : ∀ (x : Int) (t : List UInt8), (⟨byt x :: t, false⟩ : Rd).one = x % 256 := fun x t => by rw [← byt_mod x]; exact Rd.one_put (by omega) (by omega) t
  simp only [Rd.wide, Rd.num, six, sixAt, List.cons_append, List.nil_append, Rd.next_put, one]
  omega

theorem encOps_cons (o : OpL) (zs : List OpL) : encOps (o :: zs) = byt o.1 :: byt o.2.1 :: six o.2.2 ++ encOps zs := by simp [encOps]
theorem Rd.ops_put : ∀ (zs : List OpL) (t : List UInt8), (∀ o ∈ zs, goodB o = true) → Rd.ops zs.length ⟨encOps zs ++ t, false⟩ = (zs, ⟨t, false⟩)
  | [], t, _ => rfl
  | (k, y, n) :: zs, t, h => by
    have h0 := h (k, y, n) (by simp)
    unfold goodB at h0
    simp only [decide_eq_true_eq] at h0
    have ih := Rd.ops_put zs t (fun p hp => h p (by simp [hp]))
    obtain ⟨s1, s2⟩ := Rd.six_put (n := n) (by omega) (by omega) (encOps zs ++ t)
    rw [encOps_cons]
    simp only [List.length_cons, Rd.ops, List.cons_append, List.append_assoc, Rd.next_put]
    rw [Rd.one_put (by omega) (by omega), Rd.one_put (by omega) (by omega), s1, s2, ih]

theorem Rd.nums_put : ∀ (zs : List Int) (t : List UInt8), (∀ n ∈ zs, 0 ≤ n ∧ n < 256) → Rd.nums zs.length ⟨encNums zs ++ t, false⟩ = (zs, ⟨t, false⟩)
  | [], t, _ => rfl
  | n :: zs, t, h => by
    have h0 := h n (by simp)
    have ih := Rd.nums_put zs t (fun p hp => h p (by simp [hp]))
    show Rd.nums (zs.length + 1) ⟨byt n :: (encNums zs ++ t), false⟩ = _
    simp only [Rd.nums, Rd.next_put]
    rw [Rd.one_put h0.1 h0.2, ih]

theorem Rd.told_put : ∀ (xs vs : List Int) (t : List UInt8), vs.length = xs.length → (∀ n ∈ xs, 0 ≤ n ∧ n < 256) → (∀ n ∈ vs, -140737488355328 ≤ n ∧ n < 140737488355328) → Rd.told xs.length ⟨encTold xs vs ++ t, false⟩ = (xs, vs, ⟨t, false⟩)
  | [], [], t, _, _, _ => rfl
  | [], _ :: _, _, h, _, _ => by simp at h
  | _ :: _, [], _, h, _, _ => by simp at h
  | a :: xs, v :: vs, t, h, ha, hv => by
    have h0 := ha a (by simp)
    have h1 := hv v (by simp)
    have ih := Rd.told_put xs vs t (by simpa using h) (fun p hp => ha p (by simp [hp])) (fun p hp => hv p (by simp [hp]))
    obtain ⟨s1, s2⟩ := Rd.six_put (n := v) h1.1 h1.2 (encTold xs vs ++ t)
    show Rd.told (xs.length + 1) ⟨byt a :: six v ++ encTold xs vs ++ t, false⟩ = _
    simp only [Rd.told, List.cons_append, List.append_assoc, Rd.next_put]
    rw [Rd.one_put h0.1 h0.2, s1, s2, ih]

/- good frames -/
def toldFrom : Int → List Int → List Int → Bool
  | l, a :: xs, v :: vs => !(decide (a ≤ l) || decide (4 ≤ a)) && decide (-1099511627776 ≤ v ∧ v ≤ 1099511627776) && toldFrom a xs vs
  | _, _, _ => true
def goodOpsF (f : FrameL) : Bool := if f.kind = 1 ∨ f.kind = 3 then goodOpsL f.ops else decide (f.ops.length = 0)
def goodDepsF (f : FrameL) : Bool := if f.kind = 2 ∨ f.kind = 3 then risingFrom (-1) f.deps && !hasL f.deps f.id else decide (f.deps.length = 0)
def goodToldF (f : FrameL) : Bool := decide (f.kind = 5 ∨ f.ats.length = 0) && (decide (f.vals.length = f.ats.length) && toldFrom (-1) f.ats f.vals)
def goodL (f : FrameL) : Int :=
  if f.kind < 1 ∨ 5 < f.kind then 3 else if f.node < 0 ∨ 6 ≤ f.node ∨ f.id < 0 ∨ 32 ≤ f.id then 2
  else if goodOpsF f && (goodDepsF f && goodToldF f) then 0 else 1

theorem rising_in : ∀ (zs : List Int) (l : Int), risingFrom l zs = true → (∀ n ∈ zs, l < n ∧ n < 32) ∧ (zs = [] ∨ (zs.length : Int) ≤ 31 - l)
  | [], l, _ => ⟨by simp, Or.inl rfl⟩
  | n :: r, l, h => by
    rw [risingFrom] at h
    simp only [Bool.and_eq_true, Bool.not_eq_true', Bool.or_eq_false_iff, decide_eq_false_iff_not] at h
    obtain ⟨⟨h1, h2⟩, h3⟩ := h
    obtain ⟨i1, i2⟩ := rising_in r n h3
    refine ⟨fun m hm => ?_, Or.inr ?_⟩
    · rcases List.mem_cons.1 hm with rfl | hm
      · omega
      · have := i1 m hm
        omega
    · rcases i2 with rfl | i2
      · simp; omega
      · simp; omega

theorem told_in : ∀ (xs vs : List Int) (l : Int), vs.length = xs.length → toldFrom l xs vs = true → (∀ n ∈ xs, l < n ∧ n < 4) ∧ (∀ n ∈ vs, -1099511627776 ≤ n ∧ n ≤ 1099511627776) ∧ (xs = [] ∨ (xs.length : Int) ≤ 3 - l)
  | [], [], l, _, _ => ⟨by simp, by simp, Or.inl rfl⟩
  | [], _ :: _, _, h, _ => by simp at h
  | _ :: _, [], _, h, _ => by simp at h
  | a :: xs, v :: vs, l, hl, h => by
    rw [toldFrom] at h
    simp only [Bool.and_eq_true, Bool.not_eq_true', Bool.or_eq_false_iff, decide_eq_false_iff_not, decide_eq_true_eq] at h
    obtain ⟨⟨⟨h1, h2⟩, h3⟩, h4⟩ := h
    obtain ⟨i1, i2, i3⟩ := told_in xs vs a (by simpa using hl) h4
    refine ⟨fun m hm => ?_, fun m hm => ?_, Or.inr ?_⟩
    · rcases List.mem_cons.1 hm with rfl | hm
      · omega
      · have := i1 m hm
        omega
    · rcases List.mem_cons.1 hm with rfl | hm
      · omega
      · exact i2 m hm
    · rcases i3 with rfl | i3
      · simp; omega
      · simp; omega

theorem ops_in {zs : List OpL} (h : goodOpsL zs = true) : zs.length ≤ 4 ∧ ∀ o ∈ zs, goodB o = true := by
  unfold goodOpsL at h
  simp only [Bool.and_eq_true, decide_eq_true_eq] at h
  refine ⟨h.1.2, fun o ho => ?_⟩
  obtain ⟨i, hi, rfl⟩ := List.mem_iff_getElem.1 ho
  have := List.all_eq_true.1 h.2 i (List.mem_range.2 hi)
  unfold goodAt at this
  simp only [Bool.and_eq_true] at this
  have e : zs.getD i (0, 0, 0) = zs[i] := by simp [List.getD, hi]
  rw [e] at this
  exact this.1

theorem good_in {f : FrameL} (h : goodL f = 0) : (1 ≤ f.kind ∧ f.kind ≤ 5) ∧ (0 ≤ f.node ∧ f.node < 6) ∧ (0 ≤ f.id ∧ f.id < 32) ∧ (f.ops.length ≤ 4 ∧ ∀ o ∈ f.ops, goodB o = true) ∧
    (f.deps.length ≤ 32 ∧ ∀ n ∈ f.deps, 0 ≤ n ∧ n < 256) ∧ (f.ats.length ≤ 4 ∧ ∀ n ∈ f.ats, 0 ≤ n ∧ n < 256) ∧ f.vals.length = f.ats.length ∧ ∀ n ∈ f.vals, -140737488355328 ≤ n ∧ n < 140737488355328 := by
  unfold goodL at h
  by_cases h1 : f.kind < 1 ∨ 5 < f.kind
  · rw [if_pos h1] at h
    omega
  rw [if_neg h1] at h
  by_cases h2 : f.node < 0 ∨ 6 ≤ f.node ∨ f.id < 0 ∨ 32 ≤ f.id
  · rw [if_pos h2] at h
    omega
  rw [if_neg h2] at h
  by_cases h3 : (goodOpsF f && (goodDepsF f && goodToldF f)) = true
  · simp only [Bool.and_eq_true] at h3
    obtain ⟨g1, g2, g3⟩ := h3
    refine ⟨by omega, by omega, by omega, ?_, ?_, ?_⟩
    · unfold goodOpsF at g1
      split at g1
      · exact ops_in g1
      · have : f.ops = [] := by simpa using g1
        rw [this]
        simp
    · unfold goodDepsF at g2
      split at g2
      · simp only [Bool.and_eq_true] at g2
        obtain ⟨i1, i2⟩ := rising_in _ _ g2.1
        refine ⟨?_, fun n hn => by have := i1 n hn; omega⟩
        rcases i2 with i2 | i2
        · rw [i2]
          simp
        · omega
      · have : f.deps = [] := by simpa using g2
        rw [this]
        simp
    · unfold goodToldF at g3
      simp only [Bool.and_eq_true, decide_eq_true_eq] at g3
      obtain ⟨_, g4, g5⟩ := g3
      obtain ⟨i1, i2, i3⟩ := told_in _ _ _ g4 g5
      refine ⟨⟨?_, fun n hn => by have := i1 n hn; omega⟩, g4, fun n hn => by have := i2 n hn; omega⟩
      rcases i3 with i3 | i3
      · rw [i3]
        simp
      · omega
  · rw [if_neg h3] at h
    omega

theorem frame_put {f : FrameL} (h : goodL f = 0) (t : List UInt8) : (⟨encL f ++ t, false⟩ : Rd).frame = f ∧ (⟨encL f ++ t, false⟩ : Rd).end_ = ⟨t, false⟩ := by
  obtain ⟨hk, hn, hi, ⟨ho1, ho2⟩, ⟨hd1, hd2⟩, ⟨ha1, ha2⟩, hv1, hv2⟩ := good_in h
  obtain ⟨kind, node, id, ops, deps, ats, vals⟩ := f
  simp only at *
  have e : encL ⟨kind, node, id, ops, deps, ats, vals⟩ ++ t = byt kind :: byt node :: byt id :: byt ops.length :: (encOps ops ++ (byt deps.length :: (encNums deps ++ (byt ats.length :: (encTold ats vals ++ t))))) := by simp [encL]
  rw [e]
  generalize hr : (⟨byt kind :: byt node :: byt id :: byt ops.length :: (encOps ops ++ (byt deps.length :: (encNums deps ++ (byt ats.length :: (encTold ats vals ++ t))))), false⟩ : Rd) = r
  have q1 : r.r1 = ⟨byt ops.length :: (encOps ops ++ (byt deps.length :: (encNums deps ++ (byt ats.length :: (encTold ats vals ++ t))))), false⟩ := by rw [← hr]; rfl
  have q2 : r.o1 = (ops, ⟨byt deps.length :: (encNums deps ++ (byt ats.length :: (encTold ats vals ++ t))), false⟩) := by
    unfold Rd.o1
    rw [q1, Rd.one_put (by omega) (by omega), Rd.next_put, Int.toNat_natCast, Rd.ops_put _ _ ho2]
  have q3 : r.d1 = (deps, ⟨byt ats.length :: (encTold ats vals ++ t), false⟩) := by
    unfold Rd.d1
    rw [q2, Rd.one_put (by omega) (by omega), Rd.next_put, Int.toNat_natCast, Rd.nums_put _ _ hd2]
  have q4 : r.t1 = (ats, vals, ⟨t, false⟩) := by
    unfold Rd.t1
    rw [q3, Rd.one_put (by omega) (by omega), Rd.next_put, Int.toNat_natCast, Rd.told_put _ _ _ hv1 ha2 hv2]
  refine ⟨?_, by unfold Rd.end_; rw [q4]⟩
  unfold Rd.frame
  rw [q2, q3, q4, ← hr]
  simp only [Rd.next_put]
  rw [Rd.one_put (by omega) (by omega), Rd.one_put (by omega) (by omega), Rd.one_put (by omega) (by omega)]

/- Decode -/
def okL (s : List UInt8) : Bool := !((⟨s, false⟩ : Rd).end_.short || !(⟨s, false⟩ : Rd).end_.rest.isEmpty) && (goodL (⟨s, false⟩ : Rd).frame == 0)
def zeroF : FrameL := ⟨0, 0, 0, [], [], [], []⟩
def decL (s : List UInt8) : FrameL := if okL s = true then (⟨s, false⟩ : Rd).frame else zeroF
def decE (s : List UInt8) : Int := if okL s = true then 0 else 1

theorem ok_sound {s : List UInt8} (h : okL s = true) : goodL (decL s) = 0 ∧ encL (decL s) = s := by
  have hd : decL s = (⟨s, false⟩ : Rd).frame := by unfold decL; rw [if_pos h]
  unfold okL at h
  simp only [Bool.and_eq_true, Bool.not_eq_true', Bool.or_eq_false_iff, Bool.not_eq_false', List.isEmpty_iff, beq_iff_eq] at h
  obtain ⟨⟨h1, h2⟩, h3⟩ := h
  refine ⟨by rw [hd]; exact h3, ?_⟩
  obtain ⟨_, e⟩ := Rd.frame_sound h1
  rw [h2, List.append_nil] at e
  rw [hd]
  exact e.symm
theorem ok_put {f : FrameL} (h : goodL f = 0) : okL (encL f) = true ∧ decL (encL f) = f := by
  obtain ⟨e1, e2⟩ := frame_put h []
  rw [List.append_nil] at e1 e2
  have ho : okL (encL f) = true := by unfold okL; rw [e1, e2, h]; rfl
  exact ⟨ho, by unfold decL; rw [if_pos ho, e1]⟩
theorem ok_more {f : FrameL} (h : goodL f = 0) (c : UInt8) (t : List UInt8) : okL (encL f ++ c :: t) = false := by
  obtain ⟨e1, e2⟩ := frame_put h (c :: t)
  unfold okL
  rw [e1, e2]
  rfl
theorem ok_cut {f : FrameL} (h : goodL f = 0) {n : Nat} (hn : n < (encL f).length) : okL ((encL f).take n) = false := by
  cases ho : okL ((encL f).take n) with
  | false => rfl
  | true =>
    obtain ⟨g1, g2⟩ := ok_sound ho
    have h2 := List.take_append_drop n (encL f)
    have h3 : (encL f).drop n ≠ [] := by intro e; have := congrArg List.length e; simp at this; omega
    obtain ⟨c, t, e⟩ := List.exists_cons_of_ne_nil h3
    have h4 := ok_more g1 c t
    rw [g2, ← e, h2, (ok_put h).1] at h4
    cases h4

theorem encOps_len (zs : List OpL) : (encOps zs).length = 8 * zs.length := by
  induction zs with
  | nil => rfl
  | cons o zs ih => rw [encOps_cons, List.length_append, ih]; simp [six_len]; omega
theorem encTold_len : ∀ (xs vs : List Int), vs.length = xs.length → (encTold xs vs).length = 7 * xs.length
  | [], [], _ => rfl
  | [], _ :: _, h => by simp at h
  | _ :: _, [], h => by simp at h
  | a :: xs, v :: vs, h => by
    have := encTold_len xs vs (by simpa using h)
    simp [encTold, six_len, this]
    omega
theorem enc_len {f : FrameL} (h : goodL f = 0) : (encL f).length ≤ 98 ∧ 6 ≤ (encL f).length := by
  obtain ⟨hk, hn, hi, ⟨ho1, ho2⟩, ⟨hd1, hd2⟩, ⟨ha1, ha2⟩, hv1, hv2⟩ := good_in h
  unfold encL
  have e1 := encOps_len f.ops
  have e2 := encTold_len f.ats f.vals hv1
  simp [encNums, e1, e2]
  omega

end Go.Proofs.Ytkoefoccbjhoiac

namespace Go.Proofs.Ytkoefoccbjhoiac
open Go.RowKit

/-- All but block c is as it was. -/
structure Beside (c : Nat) (w w' : World) : Prop where
  os : w'.os = w.os
  tape : w'.tape = w.tape
  output : w'.output = w.output
  size : w'.heap.size = w.heap.size
  block : ∀ k, k ≠ c → w'.heap[k]? = w.heap[k]?

theorem Beside.refl (c : Nat) (w : World) : Beside c w w := ⟨rfl, rfl, rfl, rfl, fun _ _ => rfl⟩
theorem Beside.trans {c : Nat} {a b d : World} (h : Beside c a b) (k : Beside c b d) : Beside c a d :=
  ⟨k.os.trans h.os, k.tape.trans h.tape, k.output.trans h.output, k.size.trans h.size, fun i hi => (k.block i hi).trans (h.block i hi)⟩
theorem Beside.setCell {c : Nat} {a w : World} (h : Beside c a w) (o : Nat) (u : Value) : Beside c a (w.setCell ⟨c, o, none⟩ u) :=
  h.trans ⟨rfl, rfl, rfl, by simp [World.setCell], fun k hk => Below.heap_setCell _ _ _ _ hk⟩
theorem Beside.drew {c : Nat} {a w : World} (h : Beside c a w) : Beside c a w.drew := ⟨h.os, h.tape, h.output, h.size, h.block⟩
theorem Beside.below {c B : Nat} {w w' : World} (h : Beside c w w') (hB : B ≤ c) : Below B w w' := ⟨h.os, h.tape, h.output, by rw [h.size]; exact Nat.le_refl _, fun k hk => h.block k (by omega)⟩
theorem Beside.cell {c : Nat} {w w' : World} (h : Beside c w w') {p : Addr} (hp : p.block ≠ c) : w'.cell? p = w.cell? p := World.cell?_of_block (w := w) (h.block p.block hp)
theorem Beside.frozen {c : Nat} {w w' : World} (h : Beside c w w') {p : Addr} (hp : p.block ≠ c) : w'.frozen? p = w.frozen? p := World.frozen?_of_block (w := w) (h.block p.block hp)
theorem Beside.grown {c : Nat} {w w' : World} (h : Beside c w w') : w.grownBy w' (some c) := ⟨h.os, h.tape, h.output, by rw [h.size]; exact Nat.le_refl _, fun k _ hk => h.block k (by intro e; exact hk (by rw [e]))⟩

def str (l : List UInt8) : ByteArray := ⟨l.toArray⟩
theorem str_size (l : List UInt8) : (str l).size = l.length := by show l.toArray.size = _; simp
theorem str_data (l : List UInt8) : (str l).data.toList = l := rfl
theorem str_empty (l : List UInt8) : (str l).toList.isEmpty = l.isEmpty := by
  rw [show (str l).toList = l from by rw [Lib.toList_data]; rfl]
theorem str_cut (c : UInt8) (t : List UInt8) : (str (c :: t)).extract 1 (t.length + 1) = str t := by
  apply ByteArray.ext
  apply Array.toList_inj.1
  rw [Lib.extract_data]
  simp [str]
theorem wrap_byte (c : UInt8) : wrap64 (c.toNat : Int) = (c.toNat : Int) := by
  have := c.toNat_lt
  unfold wrap64
  omega

/-- A reader at block c. -/
def RdAt (w : World) (c : Nat) (r : Rd) : Prop := ∃ t, w.heap[c]? = some (.cells #[.string (str r.rest), .bool r.short] t (0, 0))
theorem RdAt.rest {w : World} {c : Nat} {r : Rd} (h : RdAt w c r) : w.cell? ⟨c, 0, none⟩ = some (.string (str r.rest)) := by
  obtain ⟨t, h⟩ := h
  rw [cell_of_row w c 0 _ t _ h]
  rfl
theorem RdAt.short {w : World} {c : Nat} {r : Rd} (h : RdAt w c r) : w.cell? ⟨c, 1, none⟩ = some (.bool r.short) := by
  obtain ⟨t, h⟩ := h
  rw [cell_of_row w c 1 _ t _ h]
  rfl
theorem RdAt.frozen {w : World} {c : Nat} {r : Rd} (h : RdAt w c r) (i : Nat) : w.frozen? ⟨c, i, none⟩ = false := by
  obtain ⟨t, h⟩ := h
  exact frozen_of_row w c i _ t h
theorem RdAt.putShort {w : World} {c : Nat} {r : Rd} (h : RdAt w c r) (b : Bool) : RdAt (w.setCell ⟨c, 1, none⟩ (.bool b)) c ⟨r.rest, b⟩ := by
  obtain ⟨t, h⟩ := h
  exact ⟨t, by rw [heap_setCell_same w c 1 _ t _ h]; rfl⟩
theorem RdAt.putRest {w : World} {c : Nat} {r : Rd} (h : RdAt w c r) (l : List UInt8) : RdAt (w.setCell ⟨c, 0, none⟩ (.string (str l))) c ⟨l, r.short⟩ := by
  obtain ⟨t, h⟩ := h
  exact ⟨t, by rw [heap_setCell_same w c 0 _ t _ h]; rfl⟩

theorem wraps_i64 (n : Int) (h₀ : 0 ≤ n) (h₁ : n < 2 ^ 63) : IntKind.i64.wrap n = n := by rw [IntKind.wrap_i64]; omega
theorem or_byte {n c : Int} (h : 0 ≤ n) (h' : n < 1099511627776) (h0 : 0 ≤ c) (h1 : c < 256) : bits .or .i64 (n * 256) c = n * 256 + c :=
  bits_join .i64 63 (by decide) wraps_i64 8 (n * 256) c (by omega) (by omega) (by omega) h0 (by omega) (by omega)
theorem pow_five : ∀ k : Nat, k < 6 → (256 : Int) ^ k ≤ 1099511627776 := by decide

end Go.Proofs.Ytkoefoccbjhoiac

namespace Go.Proofs.Ytkoefoccbjhoiac
open Go.ChangeShapes Go.WideShapes Go.ChangeAt Go.RowKit Go.Deep

theorem own : ownKnob Try.prog.godebug = none := by kernel_rfl
theorem laidOut : laidOutB Try.prog = true := by kernel_rfl
theorem Try.cellsInt : Try.prog.cellsOf 3 = 1 := by kernel_rfl
theorem Try.bytesInt : Try.prog.bytesOf 3 = 8 := by kernel_rfl

def Fits (x : Int) : Prop := (Lit.int .i64 x).wf = true

theorem add_none {b off j : Nat} : (⟨b, off, none⟩ : Addr).add j = ⟨b, off + j, none⟩ := by
  unfold Addr.add
  split
  · subst_vars; simp
  · simp

theorem lt_of_cell {w : World} {a : Addr} {v : Value} (h : w.cell? a = some v) : a.block < w.heap.size := by
  by_cases hq : a.block < w.heap.size
  · exact hq
  · have hn : w.heap[a.block]? = none := Array.getElem?_eq_none (by omega)
    simp [World.cell?, hn] at h

section
variable {H : Type} {enc : TypeId × Value → H} {P : Program} {w : World} {base : Nat} {spare : Nat → Bool} {held : Bool}

/-- A slice of ints that came in. -/
theorem open_intsAt {t e : TypeId} {fuel : Nat} {a : Option Addr} {len cap : Nat} {x : DataW H × List MemPlace} (ht : P.underlying t = some (.slice e)) (he : P.underlying e = some (.int .i64)) (hc : P.cellsOf e = 1)
    (h : DataW.trod enc P w base spare held fuel t [.slice a len cap] = some x) :
    len ≤ maxLen ∧ ∃ zs : List Int, zs.length = len ∧ IntsAt w.heap.size w a zs ∧ (∀ n ∈ zs, Fits n) ∧ (a = none → len = 0 ∧ cap = 0) ∧ len ≤ cap := by
  rcases open_ints ht he hc h with ⟨hcs, _⟩ | ⟨x, l, c, zs, hcs, _, hl, hm, hz, _, hcell, hwz⟩
  · simp at hcs
    obtain ⟨rfl, rfl, rfl⟩ := hcs
    exact ⟨Nat.zero_le _, [], rfl, Or.inl rfl, by simp, fun _ => ⟨rfl, rfl⟩, Nat.le_refl _⟩
  · simp at hcs
    obtain ⟨rfl, rfl, rfl⟩ := hcs
    have hlen : len ≤ zs.length := by rw [hz]; split <;> omega
    refine ⟨by omega, zs.take len, by simp; omega, ?_, fun n hn => hwz n (List.mem_of_mem_take hn), fun h => by simp at h, hl⟩
    by_cases h0 : len = 0
    · left
      simp [h0]
    · right
      obtain ⟨b, off, spot⟩ := x
      have hc0 := hcell 0 (by omega)
      have hs : spot = none := by simpa [Addr.add] using World.cell?_spot hc0
      subst hs
      refine ⟨b, off, rfl, by simpa [Addr.add] using lt_of_cell hc0, fun i hi => ?_⟩
      have hi' : i < len := by simp at hi; omega
      have := hcell i (by omega)
      rw [add_none] at this
      rw [this]
      simp [List.getD, hi']

/-- What a slice that came in reads as: as many elements as its length. -/
theorem slice_datum {t e : TypeId} {fuel : Nat} {a : Option Addr} {len cap : Nat} {d : DataW H} {p : List MemPlace} (ht : P.underlying t = some (.slice e)) (h : DataW.trod enc P w base spare held fuel t [.slice a len cap] = some (d, p)) :
    len = 0 ∨ ∃ elems sp, d = .slice elems sp ∧ elems.length = len := by
  rcases open_slice ht h with ⟨hcs, _⟩ | ⟨x, l, c, m, n, D, Pl, hcs, hb, hl, hm, hmm, hx, _⟩
  · simp at hcs
    exact Or.inl hcs.2.1
  · simp at hcs
    obtain ⟨rfl, rfl, rfl⟩ := hcs
    simp only [Prod.mk.injEq] at hx
    exact Or.inr ⟨_, _, hx.1, by simp⟩

end

end Go.Proofs.Ytkoefoccbjhoiac

namespace Go.Proofs.Ytkoefoccbjhoiac
open Go.ChangeShapes Go.WideShapes Go.ChangeAt Go.RowKit Go.Deep

theorem Try.cellsOp : Try.prog.cellsOf 47 = 3 := by kernel_rfl

theorem Try.bytesOp : Try.prog.bytesOf 47 = 24 := by kernel_rfl

def FitsOp (o : OpL) : Prop := Fits o.1 ∧ Fits o.2.1 ∧ Fits o.2.2

section
variable {H : Type} {enc : TypeId × Value → H} {P : Program} {w : World} {base : Nat} {spare : Nat → Bool} {held : Bool}

/-- A slice of operations that came in. -/
theorem open_opsAt {t e f : TypeId} {fuel : Nat} {a : Option Addr} {len cap : Nat} {x : DataW H × List MemPlace} {f0 f1 f2 : Field} (ht : P.underlying t = some (.slice e)) (he : P.underlying e = some (.struct #[f0, f1, f2])) (hf : P.underlying f = some (.int .i64))
    (hc : P.cellsOf e = 3) (hcf : P.cellsOf f = 1) (y0 : f0.type = f) (y1 : f1.type = f) (y2 : f2.type = f) (o0 : f0.offset = 0) (o1 : f1.offset = 1) (o2 : f2.offset = 2)
    (h : DataW.trod enc P w base spare held fuel t [.slice a len cap] = some x) :
    len ≤ maxLen ∧ ∃ zs : List OpL, zs.length = len ∧ OpsAt w a zs ∧ (∀ o ∈ zs, FitsOp o) ∧ (a = none → len = 0 ∧ cap = 0) ∧ len ≤ cap := by
  rcases open_slice ht h with ⟨hcs, _⟩ | ⟨x, l, c, m, n, D, Pl, hcs, hb, hl, hm, hmm, _, hx⟩
  · simp at hcs
    obtain ⟨rfl, rfl, rfl⟩ := hcs
    exact ⟨Nat.zero_le _, [], rfl, Or.inl rfl, by simp, fun _ => ⟨rfl, rfl⟩, Nat.le_refl _⟩
  · simp at hcs
    obtain ⟨rfl, rfl, rfl⟩ := hcs
    have hlm : len ≤ m := by rw [hmm]; split <;> omega
    have each : ∀ i, i < len → ∃ q : OpL, w.cell? (x.add (i * 3)) = some (.int .i64 q.1) ∧ w.cell? (x.add (i * 3 + 1)) = some (.int .i64 q.2.1) ∧ w.cell? (x.add (i * 3 + 2)) = some (.int .i64 q.2.2) ∧ FitsOp q := by
      intro i hi
      obtain ⟨cs', h1, h2⟩ := hx i (by omega)
      rw [hc] at h1
      obtain ⟨_, hlen, hcell⟩ := World.cells?_some h1
      obtain ⟨xs, k, hk, hxy, _, hxl, hfs⟩ := DataW.trod_struct he h2
      match xs, hxl, cs', hlen with
      | [z0, z1, z2], _, [v0, v1, v2], _ =>
        have g0 := hfs 0 f0 rfl
        have g1 := hfs 1 f1 rfl
        have g2 := hfs 2 f2 rfl
        simp [y0, y1, y2, o0, o1, o2, hcf] at g0 g1 g2
        obtain ⟨n0, r0, _, q0⟩ := DataW.trod_int hf g0
        obtain ⟨n1, r1, _, q1⟩ := DataW.trod_int hf g1
        obtain ⟨n2, r2, _, q2⟩ := DataW.trod_int hf g2
        simp at r0 r1 r2
        subst r0 r1 r2
        have e0 := hcell 0 (by omega)
        have e1 := hcell 1 (by omega)
        have e2 := hcell 2 (by omega)
        rw [add_add] at e0 e1 e2
        exact ⟨(n0, n1, n2), by simpa using e0, by simpa using e1, by simpa using e2, q0, q1, q2⟩
    obtain ⟨Q, hQ⟩ := choose_lt each
    refine ⟨by omega, (List.range len).map Q, by simp, ?_, ?_, fun h => by simp at h, hl⟩
    · by_cases h0 : len = 0
      · left
        simp [h0]
      · right
        obtain ⟨b, off, spot⟩ := x
        have hc0 := (hQ 0 (by omega)).1
        have hs : spot = none := by simpa [Addr.add] using World.cell?_spot hc0
        subst hs
        refine ⟨b, off, rfl, by simpa [Addr.add] using lt_of_cell hc0, fun i hi => ?_⟩
        have hi' : i < len := by simpa using hi
        obtain ⟨t0, t1, t2, _⟩ := hQ i hi'
        rw [add_none] at t0 t1 t2
        have hg : ((List.range len).map Q).getD i (0, 0, 0) = Q i := by simp [List.getD, hi']
        rw [hg]
        exact ⟨t0, t1, t2⟩
    · intro o ho
      obtain ⟨i, hi, rfl⟩ := List.mem_map.1 ho
      exact (hQ i (List.mem_range.1 hi)).2.2.2

end

end Go.Proofs.Ytkoefoccbjhoiac

namespace Go.Proofs.Ytkoefoccbjhoiac
open Go.RowKit

theorem Try.infoOp : (Try.prog.info? 47).map (fun i => (i.zero, i.size, i.bytes)) = some (some (.agg #[.int .i64 0, .int .i64 0, .int .i64 0]), 3, 24) := by kernel_rfl

/-- A frame's seven cells at block b. -/
def FAt (w : World) (b : Nat) (a0 a1 a2 : Int) (v3 v4 v5 v6 : Value) : Prop := ∃ t, w.heap[b]? = some (.cells #[.int .i64 a0, .int .i64 a1, .int .i64 a2, v3, v4, v5, v6] t (0, 0))

section
variable {w w' : World} {b : Nat} {a0 a1 a2 : Int} {v3 v4 v5 v6 : Value}
theorem FAt.cell (h : FAt w b a0 a1 a2 v3 v4 v5 v6) :
    w.cell? ⟨b, 0, none⟩ = some (.int .i64 a0) ∧ w.cell? ⟨b, 1, none⟩ = some (.int .i64 a1) ∧ w.cell? ⟨b, 2, none⟩ = some (.int .i64 a2) ∧
    w.cell? ⟨b, 3, none⟩ = some v3 ∧ w.cell? ⟨b, 4, none⟩ = some v4 ∧ w.cell? ⟨b, 5, none⟩ = some v5 ∧ w.cell? ⟨b, 6, none⟩ = some v6 := by
  obtain ⟨t, h⟩ := h
  refine ⟨?_, ?_, ?_, ?_, ?_, ?_, ?_⟩ <;> (rw [cell_of_row w b _ _ t _ h]; rfl)
theorem FAt.frozen (h : FAt w b a0 a1 a2 v3 v4 v5 v6) (i : Nat) : w.frozen? ⟨b, i, none⟩ = false := by
  obtain ⟨t, h⟩ := h
  exact frozen_of_row w b i _ t h
theorem FAt.block (h : FAt w b a0 a1 a2 v3 v4 v5 v6) (e : w'.heap[b]? = w.heap[b]?) : FAt w' b a0 a1 a2 v3 v4 v5 v6 := by
  obtain ⟨t, h⟩ := h
  exact ⟨t, by rw [e]; exact h⟩
theorem FAt.lt (h : FAt w b a0 a1 a2 v3 v4 v5 v6) : b < w.heap.size := by
  obtain ⟨t, h⟩ := h
  exact (Array.getElem?_eq_some_iff.1 h).1
theorem FAt.put3 (h : FAt w b a0 a1 a2 v3 v4 v5 v6) (v : Value) : FAt (w.setCell ⟨b, 3, none⟩ v) b a0 a1 a2 v v4 v5 v6 := by
  obtain ⟨t, h⟩ := h
  exact ⟨t, by rw [heap_setCell_same w b 3 _ t _ h]; rfl⟩
theorem FAt.put4 (h : FAt w b a0 a1 a2 v3 v4 v5 v6) (v : Value) : FAt (w.setCell ⟨b, 4, none⟩ v) b a0 a1 a2 v3 v v5 v6 := by
  obtain ⟨t, h⟩ := h
  exact ⟨t, by rw [heap_setCell_same w b 4 _ t _ h]; rfl⟩
theorem FAt.put5 (h : FAt w b a0 a1 a2 v3 v4 v5 v6) (v : Value) : FAt (w.setCell ⟨b, 5, none⟩ v) b a0 a1 a2 v3 v4 v v6 := by
  obtain ⟨t, h⟩ := h
  exact ⟨t, by rw [heap_setCell_same w b 5 _ t _ h]; rfl⟩
theorem FAt.put6 (h : FAt w b a0 a1 a2 v3 v4 v5 v6) (v : Value) : FAt (w.setCell ⟨b, 6, none⟩ v) b a0 a1 a2 v3 v4 v5 v := by
  obtain ⟨t, h⟩ := h
  exact ⟨t, by rw [heap_setCell_same w b 6 _ t _ h]; rfl⟩
end

theorem RdAt.block {w w' : World} {c : Nat} {r : Rd} (h : RdAt w c r) (e : w'.heap[c]? = w.heap[c]?) : RdAt w' c r := by
  obtain ⟨t, h⟩ := h
  exact ⟨t, by rw [e]; exact h⟩
theorem RdAt.lt {w : World} {c : Nat} {r : Rd} (h : RdAt w c r) : c < w.heap.size := by
  obtain ⟨t, h⟩ := h
  exact (Array.getElem?_eq_some_iff.1 h).1
theorem RdAt.alloc {w : World} {c : Nat} {r : Rd} (h : RdAt w c r) (o : Obj) : RdAt (w.alloc o) c r := h.block (Below.heap_alloc _ _ _ h.lt)

/-- but for block c, what was there is as it was -/
theorem grownR_trans {w w1 w2 : World} {c : Nat} (h : w.grownBy w1 (some c)) (k : w1.grownBy w2 (some c)) : w.grownBy w2 (some c) :=
  ⟨k.os.trans h.os, k.tape.trans h.tape, k.output.trans h.output, Nat.le_trans h.size k.size, fun i hi hn => (k.block i (Nat.lt_of_lt_of_le hi h.size) hn).trans (h.block i hi hn)⟩
theorem grown_far {w w1 w2 : World} {c : Nat} {row : Option Nat} (h : w.grownBy w1 (some c)) (k : w1.grownBy w2 row) (hr : ∀ g, row = some g → w.heap.size ≤ g) : w.grownBy w2 (some c) :=
  ⟨k.os.trans h.os, k.tape.trans h.tape, k.output.trans h.output, Nat.le_trans h.size k.size, fun i hi hn => (k.block i (Nat.lt_of_lt_of_le hi h.size) (fun e => by have := hr i e.symm; omega)).trans (h.block i hi hn)⟩
theorem grown_put {w w1 : World} {c b : Nat} (h : w.grownBy w1 (some c)) (hb : w.heap.size ≤ b) (o : Nat) (v : Value) : w.grownBy (w1.setCell ⟨b, o, none⟩ v) (some c) :=
  ⟨h.os, h.tape, h.output, by simp [World.setCell]; exact h.size, fun i hi hn => (Below.heap_setCell _ _ _ _ (by simp; omega)).trans (h.block i hi hn)⟩

/-- The state of the reading: the reader at c, the frame under way at B3, the result's cells at B2; else nothing old has turned. -/
structure Fr (w : World) (c B2 B3 : Nat) (a0 a1 a2 : Int) (wr : World) (rk : Rd) (v3 v4 v5 v6 : Value) : Prop where
  rd : RdAt wr c rk
  f : FAt wr B3 a0 a1 a2 v3 v4 v5 v6
  z : FAt wr B2 0 0 0 (.slice none 0 0) (.slice none 0 0) (.slice none 0 0) (.slice none 0 0)
  g : w.grownBy wr (some c)
  l1 : c < w.heap.size
  l2 : w.heap.size ≤ B2
  l3 : B2 < B3

section
variable {w wr w1 : World} {c B2 B3 : Nat} {a0 a1 a2 : Int} {rk rj : Rd} {v3 v4 v5 v6 : Value}
theorem Fr.small (h : Fr w c B2 B3 a0 a1 a2 wr rk v3 v4 v5 v6) (k : RdAt w1 c rj) (hb : Beside c wr w1) : Fr w c B2 B3 a0 a1 a2 w1 rj v3 v4 v5 v6 :=
  have h1 := h.l1
  have h2 := h.l2
  have h3 := h.l3
  ⟨k, h.f.block (hb.block _ (by omega)), h.z.block (hb.block _ (by omega)), grownR_trans h.g hb.grown, h1, h2, h3⟩
theorem Fr.grown (h : Fr w c B2 B3 a0 a1 a2 wr rk v3 v4 v5 v6) {row : Option Nat} (hg : wr.grownBy w1 row) (hr : ∀ g, row = some g → B3 < g) : Fr w c B2 B3 a0 a1 a2 w1 rk v3 v4 v5 v6 :=
  have h1 := h.l1
  have h2 := h.l2
  have h3 := h.l3
  have n : ∀ k, k ≤ B3 → some k ≠ row := fun k hk e => by have := hr k e.symm; omega
  ⟨h.rd.block (hg.block _ h.rd.lt (n _ (by omega))), h.f.block (hg.block _ h.f.lt (n _ (by omega))), h.z.block (hg.block _ h.z.lt (n _ (by omega))), grown_far h.g hg (fun g e => by have := hr g e; omega), h1, h2, h3⟩
theorem Fr.alloc (h : Fr w c B2 B3 a0 a1 a2 wr rk v3 v4 v5 v6) (o : Obj) : Fr w c B2 B3 a0 a1 a2 (wr.alloc o) rk v3 v4 v5 v6 :=
  h.grown (World.grownBy_alloc wr o none) (by simp)
theorem Fr.drew (h : Fr w c B2 B3 a0 a1 a2 wr rk v3 v4 v5 v6) : Fr w c B2 B3 a0 a1 a2 wr.drew rk v3 v4 v5 v6 :=
  ⟨h.rd, h.f, h.z, ⟨h.g.os, h.g.tape, h.g.output, h.g.size, h.g.block⟩, h.l1, h.l2, h.l3⟩
theorem Fr.put3 (h : Fr w c B2 B3 a0 a1 a2 wr rk v3 v4 v5 v6) (v : Value) : Fr w c B2 B3 a0 a1 a2 (wr.setCell ⟨B3, 3, none⟩ v) rk v v4 v5 v6 :=
  have h1 := h.l1
  have h2 := h.l2
  have h3 := h.l3
  ⟨h.rd.block (Below.heap_setCell _ _ _ _ (by simp; omega)), h.f.put3 v, h.z.block (Below.heap_setCell _ _ _ _ (by simp; omega)), grown_put h.g (by omega) _ _, h1, h2, h3⟩
theorem Fr.put4 (h : Fr w c B2 B3 a0 a1 a2 wr rk v3 v4 v5 v6) (v : Value) : Fr w c B2 B3 a0 a1 a2 (wr.setCell ⟨B3, 4, none⟩ v) rk v3 v v5 v6 :=
  have h1 := h.l1
  have h2 := h.l2
  have h3 := h.l3
  ⟨h.rd.block (Below.heap_setCell _ _ _ _ (by simp; omega)), h.f.put4 v, h.z.block (Below.heap_setCell _ _ _ _ (by simp; omega)), grown_put h.g (by omega) _ _, h1, h2, h3⟩
theorem Fr.put5 (h : Fr w c B2 B3 a0 a1 a2 wr rk v3 v4 v5 v6) (v : Value) : Fr w c B2 B3 a0 a1 a2 (wr.setCell ⟨B3, 5, none⟩ v) rk v3 v4 v v6 :=
  have h1 := h.l1
  have h2 := h.l2
  have h3 := h.l3
  ⟨h.rd.block (Below.heap_setCell _ _ _ _ (by simp; omega)), h.f.put5 v, h.z.block (Below.heap_setCell _ _ _ _ (by simp; omega)), grown_put h.g (by omega) _ _, h1, h2, h3⟩
theorem Fr.put6 (h : Fr w c B2 B3 a0 a1 a2 wr rk v3 v4 v5 v6) (v : Value) : Fr w c B2 B3 a0 a1 a2 (wr.setCell ⟨B3, 6, none⟩ v) rk v3 v4 v5 v :=
  have h1 := h.l1
  have h2 := h.l2
  have h3 := h.l3
  ⟨h.rd.block (Below.heap_setCell _ _ _ _ (by simp; omega)), h.f.put6 v, h.z.block (Below.heap_setCell _ _ _ _ (by simp; omega)), grown_put h.g (by omega) _ _, h1, h2, h3⟩
theorem Fr.start (hr : RdAt w1 c rk) (hb : Beside c (w.alloc (.cells #[.int .i64 0, .int .i64 0, .int .i64 0, .slice none 0 0, .slice none 0 0, .slice none 0 0, .slice none 0 0] 38)) w1) (hc : c < w.heap.size) (a0 a1 a2 : Int) :
    Fr w c w.heap.size w1.heap.size a0 a1 a2 (w1.alloc (.cells #[.int .i64 a0, .int .i64 a1, .int .i64 a2, .slice none 0 0, .slice none 0 0, .slice none 0 0, .slice none 0 0] 38)) rk (.slice none 0 0) (.slice none 0 0) (.slice none 0 0) (.slice none 0 0) := by
  have hs : w1.heap.size = w.heap.size + 1 := by have := hb.size; simpa using this
  refine ⟨hr.alloc _, ⟨_, heap_new _ _⟩, ⟨38, ?_⟩, ?_, hc, Nat.le_refl _, by omega⟩
  · rw [Below.heap_alloc _ _ _ (by omega), hb.block _ (by omega), heap_new]
  · exact grownR_trans (World.grownBy_alloc w _ _) (grownR_trans hb.grown (World.grownBy_alloc _ _ _))
end

def opCells (o : OpL) : List Value := [.int .i64 o.1, .int .i64 o.2.1, .int .i64 o.2.2]
def opsCells (zs : List OpL) : List Value := zs.flatMap opCells
theorem opsCells_snoc (zs : List OpL) (o : OpL) : opsCells (zs ++ [o]) = opsCells zs ++ opCells o := by simp [opsCells]

theorem own_small {w w1 : World} {c base : Nat} {e : TypeId} {size : Nat} {v : Value} {n : Nat} {xs : List Value} (h : w.ownsRow base e size v n xs) (hb : Beside c w w1) (hc : c < base) : w1.ownsRow base e size v n xs :=
  h.kept hb.grown (by
    cases hv : v.ownBlock with
    | none => exact Or.inl rfl
    | some k => right; intro e; have := (h.lt k hv).1; simp at e; omega)

theorem alloc_size (w : World) (o : Obj) : (w.alloc o).heap.size = w.heap.size + 1 := by simp
theorem one_op (o : OpL) : ∀ u ∈ opCells o, u.oneCell' = true := by simp [opCells, Value.oneCell']
theorem len_ok {k n : Nat} (h : k < n) (h' : n < 256) : k + 1 ≤ maxLen := by unfold maxLen; omega
theorem len24_ok {k n : Nat} (h : k < n) (h' : n < 256) : (k + 1) * 24 ≤ 140737488355328 := by omega
theorem len8_ok {k n : Nat} (h : k < n) (h' : n < 256) : (k + 1) * 8 ≤ 140737488355328 := by omega
theorem lt_ok {w : World} {b : Nat} {o : Obj} (h : b < w.heap.size) : b + 1 ≤ (w.alloc o).heap.size := by rw [alloc_size]; omega
theorem Fr.after {w x4 x5 : World} {c B2 B3 : Nat} {a0 a1 a2 : Int} {rk : Rd} {v3 v4 v5 v6 v : Value} {o : Obj} {e : TypeId} {size n : Nat} {xs : List Value} (F : Fr w c B2 B3 a0 a1 a2 x4 rk v3 v4 v5 v6)
    (hown : x4.ownsRow (B3 + 1) e size v n xs) (hg : (x4.alloc o).grownBy x5 v.ownBlock) : Fr w c B2 B3 a0 a1 a2 x5 rk v3 v4 v5 v6 :=
  (F.alloc o).grown hg (fun g h => by have := (hown.lt g h).1; omega)

theorem le_small {w w1 : World} {b c : Nat} (h : b ≤ w.heap.size) (hb : Beside c w.drew w1) : b ≤ w1.heap.size := by rw [hb.size]; exact h
theorem le_alloc {w : World} {b : Nat} {o : Obj} (h : b ≤ w.heap.size) : b ≤ (w.alloc o).heap.size := by rw [alloc_size]; omega
theorem le_grown {w w1 : World} {b : Nat} {o : Obj} {row : Option Nat} (h : b ≤ w.heap.size) (hg : (w.alloc o).grownBy w1 row) : b ≤ w1.heap.size := by have := hg.size; rw [alloc_size] at this; omega
theorem le_put {w : World} {b : Nat} {a : Addr} {v : Value} (h : b ≤ w.heap.size) : b ≤ (w.setCell a v).heap.size := by simpa [World.setCell] using h
theorem own_far {x y : World} {o : Obj} {b base : Nat} {e e' : TypeId} {size size' : Nat} {v v' : Value} {n n' : Nat} {xs xs' : List Value} (h : x.ownsRow b e size v n xs) (hl : ∀ k, v.ownBlock = some k → k < base)
    (h' : x.ownsRow base e' size' v' n' xs') (hg : (x.alloc o).grownBy y v'.ownBlock) : y.ownsRow b e size v n xs :=
  (h.alloc o).kept hg (by
    cases hv : v.ownBlock with
    | none => exact Or.inl rfl
    | some k => right; intro e; have h1 := hl k hv; have h2 := (h'.lt k e.symm).1; omega)
theorem own_apart {x y : World} {o : Obj} {b : Nat} {e : TypeId} {size : Nat} {v v' : Value} {n : Nat} {xs : List Value} (h : x.ownsRow b e size v n xs) (ha : ∀ k, v'.ownBlock = some k → v.ownBlock ≠ some k)
    (hg : (x.alloc o).grownBy y v'.ownBlock) : y.ownsRow b e size v n xs :=
  (h.alloc o).kept hg (by
    cases hv : v.ownBlock with
    | none => exact Or.inl rfl
    | some k => right; intro e; exact ha k e.symm hv)
theorem apart_new {x : World} {b g : Nat} {e : TypeId} {size : Nat} {v v' : Value} {n : Nat} {xs : List Value} (ha : ∀ k, v'.ownBlock = some k → v.ownBlock ≠ some k) (h : x.ownsRow b e size v n xs)
    (hat : v'.ownBlock = some g ∨ g = x.heap.size + 1) : v.ownBlock ≠ some g := by
  rcases hat with h1 | rfl
  · exact ha g h1
  · intro e
    have := (h.lt _ e).2
    omega
theorem apart_flip {v : Value} {g n cap : Nat} (h : v.ownBlock ≠ some g) : ∀ k, v.ownBlock = some k → (Value.slice (some ⟨g, 0, none⟩) n cap).ownBlock ≠ some k := by
  intro k hk e
  simp [Value.ownBlock] at e
  exact h (by rw [hk, e])
theorem apart_both {x : World} {b g g' n n' cap cap' : Nat} {e : TypeId} {size : Nat} {v : Value} {m : Nat} {xs : List Value} (h : v.ownBlock ≠ some g) (ho : x.ownsRow b e size (.slice (some ⟨g, 0, none⟩) n cap) m xs) (hat : v.ownBlock = some g' ∨ g' = x.heap.size + 1) :
    ∀ k, (Value.slice (some ⟨g, 0, none⟩) n cap).ownBlock = some k → (Value.slice (some ⟨g', 0, none⟩) n' cap').ownBlock ≠ some k := by
  intro k hk e
  have hg : g < x.heap.size := (ho.lt g rfl).2
  simp [Value.ownBlock] at hk e
  rcases hat with h1 | h1
  · exact h (by rw [h1]; congr 1; omega)
  · omega
theorem own_put {x : World} {b c o : Nat} {e : TypeId} {size : Nat} {v u : Value} {n : Nat} {xs : List Value} (h : x.ownsRow b e size v n xs) (hc : c < b) : (x.setCell ⟨c, o, none⟩ u).ownsRow b e size v n xs :=
  ownsRow_setCell_below h hc u
theorem ops_end {r : List OpL × Rd} {n k : Nat} {zs : List OpL} {rk : Rd} (h : ¬ k < n) (HR : Hid (r = (zs ++ (Rd.ops (n - k) rk).1, (Rd.ops (n - k) rk).2))) : r = (zs, rk) := by
  have : n - k = 0 := by omega
  unfold Hid at HR
  rw [HR, this]
  simp [Rd.ops]
theorem nums_end {r : List Int × Rd} {n k : Nat} {zs : List Int} {rk : Rd} (h : ¬ k < n) (HR : Hid (r = (zs ++ (Rd.nums (n - k) rk).1, (Rd.nums (n - k) rk).2))) : r = (zs, rk) := by
  have : n - k = 0 := by omega
  unfold Hid at HR
  rw [HR, this]
  simp [Rd.nums]
theorem told_end {r : List Int × List Int × Rd} {n k : Nat} {xs ys : List Int} {rk : Rd} (h : ¬ k < n) (HR : Hid (r = (xs ++ (Rd.told (n - k) rk).1, ys ++ (Rd.told (n - k) rk).2.1, (Rd.told (n - k) rk).2.2))) : r = (xs, ys, rk) := by
  have : n - k = 0 := by omega
  unfold Hid at HR
  rw [HR, this]
  simp [Rd.told]
theorem d1_start {r : Rd} {zs : List OpL} {rk : Rd} (h : r.o1 = (zs, rk)) : r.d1 = Rd.nums rk.one.toNat rk.next := by unfold Rd.d1; rw [h]
theorem t1_start {r : Rd} {zs : List Int} {rk : Rd} (h : r.d1 = (zs, rk)) : r.t1 = Rd.told rk.one.toNat rk.next := by unfold Rd.t1; rw [h]
theorem ops_go {r : List OpL × Rd} {n k : Nat} {zs : List OpL} {rk : Rd} (h : k < n) (HR : Hid (r = (zs ++ (Rd.ops (n - k) rk).1, (Rd.ops (n - k) rk).2))) :
    Hid (r = (zs ++ [(rk.one, rk.next.one, rk.next.next.wide)] ++ (Rd.ops (n - (k + 1)) rk.next.next.next6).1, (Rd.ops (n - (k + 1)) rk.next.next.next6).2)) := by
  obtain ⟨j, hj⟩ : ∃ j, n - k = j + 1 := ⟨n - k - 1, by omega⟩
  have hj' : n - (k + 1) = j := by omega
  unfold Hid at *
  rw [HR, hj', hj]
  simp [Rd.ops]
theorem nums_go {r : List Int × Rd} {n k : Nat} {zs : List Int} {rk : Rd} (h : k < n) (HR : Hid (r = (zs ++ (Rd.nums (n - k) rk).1, (Rd.nums (n - k) rk).2))) :
    Hid (r = (zs ++ [rk.one] ++ (Rd.nums (n - (k + 1)) rk.next).1, (Rd.nums (n - (k + 1)) rk.next).2)) := by
  obtain ⟨j, hj⟩ : ∃ j, n - k = j + 1 := ⟨n - k - 1, by omega⟩
  have hj' : n - (k + 1) = j := by omega
  unfold Hid at *
  rw [HR, hj', hj]
  simp [Rd.nums]
theorem told_go {r : List Int × List Int × Rd} {n k : Nat} {xs ys : List Int} {rk : Rd} (h : k < n) (HR : Hid (r = (xs ++ (Rd.told (n - k) rk).1, ys ++ (Rd.told (n - k) rk).2.1, (Rd.told (n - k) rk).2.2))) :
    Hid (r = (xs ++ [rk.one] ++ (Rd.told (n - (k + 1)) rk.next.next6).1, ys ++ [rk.next.wide] ++ (Rd.told (n - (k + 1)) rk.next.next6).2.1, (Rd.told (n - (k + 1)) rk.next.next6).2.2)) := by
  obtain ⟨j, hj⟩ : ∃ j, n - k = j + 1 := ⟨n - k - 1, by omega⟩
  have hj' : n - (k + 1) = j := by omega
  unfold Hid at *
  rw [HR, hj', hj]
  simp [Rd.told]

def SlOps (w : World) (a : Option Addr) (cap : Nat) (zs : List OpL) : Prop := OpsAt w a zs ∧ zs.length ≤ maxLen ∧ zs.length ≤ cap ∧ (a = none → zs.length = 0 ∧ cap = 0)
/-- A value that is a frame. -/
def FrameV (w : World) (v : Value) (f : FrameL) : Prop := ∃ a3 c3 a4 c4 a5 c5 a6 c6,
  v = .agg #[.int .i64 f.kind, .int .i64 f.node, .int .i64 f.id, .slice a3 f.ops.length c3, .slice a4 f.deps.length c4, .slice a5 f.ats.length c5, .slice a6 f.vals.length c6] ∧
  SlOps w a3 c3 f.ops ∧ SlInts w a4 c4 f.deps ∧ SlInts w a5 c5 f.ats ∧ SlInts w a6 c6 f.vals
theorem SlOps.later {w w' : World} {a : Option Addr} {cap : Nat} {zs : List OpL} (h : SlOps w a cap zs) (hb : Below w.heap.size w w') : SlOps w' a cap zs :=
  ⟨h.1.later hb, h.2⟩
theorem FrameV.later {w w' : World} {v : Value} {f : FrameL} (h : FrameV w v f) (hb : Below w.heap.size w w') : FrameV w' v f := by
  obtain ⟨a3, c3, a4, c4, a5, c5, a6, c6, e, h3, h4, h5, h6⟩ := h
  exact ⟨a3, c3, a4, c4, a5, c5, a6, c6, e, h3.later hb, h4.later hb, h5.later hb, h6.later hb⟩

theorem opsCells_len (zs : List OpL) : (opsCells zs).length = zs.length * 3 := by
  induction zs with
  | nil => rfl
  | cons o zs ih => simp [opsCells, opCells] at *; omega
theorem opsCells_get : ∀ (zs : List OpL) (i : Nat), i < zs.length → (opsCells zs)[i * 3]? = some (.int .i64 (zs.getD i (0, 0, 0)).1) ∧ (opsCells zs)[i * 3 + 1]? = some (.int .i64 (zs.getD i (0, 0, 0)).2.1) ∧ (opsCells zs)[i * 3 + 2]? = some (.int .i64 (zs.getD i (0, 0, 0)).2.2)
  | [], i, h => by simp at h
  | o :: zs, 0, _ => by simp [opsCells, opCells]
  | o :: zs, i + 1, h => by
    have ih := opsCells_get zs i (by simpa using h)
    have e : opsCells (o :: zs) = .int .i64 o.1 :: .int .i64 o.2.1 :: .int .i64 o.2.2 :: opsCells zs := by simp [opsCells, opCells]
    have n0 : (i + 1) * 3 = i * 3 + 1 + 1 + 1 := by omega
    have n1 : (i + 1) * 3 + 1 = (i * 3 + 1) + 1 + 1 + 1 := by omega
    have n2 : (i + 1) * 3 + 2 = (i * 3 + 2) + 1 + 1 + 1 := by omega
    rw [e, n1, n2, n0]
    simpa using ih
theorem SlOps.of_owns {w : World} {b : Nat} {e : TypeId} {a : Option Addr} {cap : Nat} {zs : List OpL} (h : w.ownsRow b e 3 (.slice a zs.length cap) zs.length (opsCells zs)) : SlOps w a cap zs := by
  obtain ⟨a2, c2, h1, h2, h3⟩ := own_form h
  simp at h1
  obtain ⟨rfl, rfl⟩ := h1
  rcases h.2 with ⟨_, h0⟩ | ⟨g, c, cur, hs, hg, hh, h5, h6, h7, h8⟩
  · exact ⟨Or.inl (List.eq_nil_of_length_eq_zero h0), by rw [h0]; exact Nat.zero_le _, h2, h3⟩
  · simp at hs
    obtain ⟨rfl, rfl⟩ := hs
    refine ⟨Or.inr ⟨g, 0, rfl, (Array.getElem?_eq_some_iff.1 hh).1, fun i hi => ?_⟩, by omega, h2, h3⟩
    have key : ∀ j, j < zs.length * 3 → w.cell? ⟨g, 0 + j, none⟩ = (opsCells zs)[j]? := fun j hj => by
      rw [cell_of_row w g (0 + j) cur e _ hh, ← h8, List.getElem?_take_of_lt hj, Nat.zero_add]
      simp
    have := opsCells_get zs i hi
    rw [← key _ (by omega), ← key _ (by omega), ← key _ (by omega)] at this
    simpa [Nat.add_assoc] using this

def put7 (w : World) (b : Nat) (x0 x1 x2 x3 x4 x5 x6 : Value) : World :=
  ((((((w.setCell ⟨b, 0, none⟩ x0).setCell ⟨b, 1, none⟩ x1).setCell ⟨b, 2, none⟩ x2).setCell ⟨b, 3, none⟩ x3).setCell ⟨b, 4, none⟩ x4).setCell ⟨b, 5, none⟩ x5).setCell ⟨b, 6, none⟩ x6
theorem put7_own {w : World} {b : Nat} {x0 x1 x2 x3 x4 x5 x6 : Value} {base : Nat} {e : TypeId} {size : Nat} {v : Value} {n : Nat} {xs : List Value} (h : w.ownsRow base e size v n xs) (hb : b < base) : (put7 w b x0 x1 x2 x3 x4 x5 x6).ownsRow base e size v n xs :=
  own_put (own_put (own_put (own_put (own_put (own_put (own_put h hb) hb) hb) hb) hb) hb) hb
theorem put7_block {w : World} {b : Nat} {x0 x1 x2 x3 x4 x5 x6 : Value} {k : Nat} (h : k ≠ b) : (put7 w b x0 x1 x2 x3 x4 x5 x6).heap[k]? = w.heap[k]? := by
  unfold put7
  rw [Below.heap_setCell _ _ _ _ h, Below.heap_setCell _ _ _ _ h, Below.heap_setCell _ _ _ _ h, Below.heap_setCell _ _ _ _ h, Below.heap_setCell _ _ _ _ h, Below.heap_setCell _ _ _ _ h, Below.heap_setCell _ _ _ _ h]
theorem put7_grown {w w1 : World} {b c : Nat} {x0 x1 x2 x3 x4 x5 x6 : Value} (h : w.grownBy w1 (some c)) (hb : w.heap.size ≤ b) : w.grownBy (put7 w1 b x0 x1 x2 x3 x4 x5 x6) (some c) :=
  grown_put (grown_put (grown_put (grown_put (grown_put (grown_put (grown_put h hb _ _) hb _ _) hb _ _) hb _ _) hb _ _) hb _ _) hb _ _

/-- No slice of the value lies below block b. -/
def FarV (b : Nat) (v : Value) : Prop := ∀ (cs : Array Value), v = .agg cs → ∀ (i : Nat) (x : Addr) (n c : Nat), cs[i]? = some (Value.slice (some x) n c) → b ≤ x.block
theorem far_of {w : World} {base b : Nat} {e : TypeId} {size n m : Nat} {a : Option Addr} {cap : Nat} {xs : List Value} (h : w.ownsRow base e size (.slice a n cap) m xs) (hb : b ≤ base) {x : Addr} (hx : a = some x) : b ≤ x.block := by
  subst hx
  have := (h.lt x.block rfl).1
  omega

theorem frame_fin {w wr : World} {c B3 b4 b5 : Nat} {r rk rk2 rk3 : Rd} {v3 v4 v5 v6 : Option Addr} {c3 c4 c5 c6 : Nat} {zs : List OpL} {ds xs ys : List Int} {k3 : Nat} {e3 e4 e5 e6 : TypeId}
    (F : Fr w c w.heap.size B3 r.one r.next.one r.next.next.one wr rk3 (.slice v3 zs.length c3) (.slice v4 ds.length c4) (.slice v5 k3 c5) (.slice v6 k3 c6)) (h3 : wr.ownsRow (B3 + 1) e3 3 (.slice v3 zs.length c3) zs.length (opsCells zs))
    (h4 : wr.ownsRow b4 e4 1 (.slice v4 ds.length c4) ds.length (intCells ds)) (h5 : wr.ownsRow b5 e5 1 (.slice v5 k3 c5) k3 (intCells xs)) (h6 : wr.ownsRow b5 e6 1 (.slice v6 k3 c6) k3 (intCells ys))
    (l4 : w.heap.size < b4) (l5 : w.heap.size < b5) (lx : xs.length = k3) (ly : ys.length = k3) (E1 : r.o1 = (zs, rk)) (E3 : r.d1 = (ds, rk2)) (E5 : r.t1 = (xs, ys, rk3)) {x0 x1 x2 x3 x4 x5 x6 : Value} :
    FrameV (put7 wr w.heap.size x0 x1 x2 x3 x4 x5 x6) (.agg #[.int .i64 r.one, .int .i64 r.next.one, .int .i64 r.next.next.one, .slice v3 zs.length c3, .slice v4 ds.length c4, .slice v5 k3 c5, .slice v6 k3 c6]) r.frame ∧
      RdAt (put7 wr w.heap.size x0 x1 x2 x3 x4 x5 x6) c r.end_ ∧ w.grownBy (put7 wr w.heap.size x0 x1 x2 x3 x4 x5 x6) (some c) ∧
      FarV w.heap.size (.agg #[.int .i64 r.one, .int .i64 r.next.one, .int .i64 r.next.next.one, .slice v3 zs.length c3, .slice v4 ds.length c4, .slice v5 k3 c5, .slice v6 k3 c6]) := by
  have l1 := F.l1
  have l3 := F.l3
  subst lx
  refine ⟨?_, ?_, put7_grown F.g (Nat.le_refl _), ?_⟩
  rotate_left 2
  · intro cs hcs i x n cc hi
    cases hcs
    match i, hi with
    | 0, hi => simp at hi
    | 1, hi => simp at hi
    | 2, hi => simp at hi
    | 3, hi => simp at hi; exact far_of h3 (by omega) hi.1
    | 4, hi => simp at hi; exact far_of h4 (by omega) hi.1
    | 5, hi => simp at hi; exact far_of h5 (by omega) hi.1
    | 6, hi => simp at hi; exact far_of h6 (by omega) hi.1
    | n + 7, hi => simp at hi
  · unfold Rd.frame FrameV
    rw [E1, E3, E5]
    refine ⟨v3, c3, v4, c4, v5, c5, v6, c6, by simp [ly], SlOps.of_owns (put7_own h3 (by omega)), SlInts.of_owns (put7_own h4 l4), SlInts.of_owns (put7_own h5 l5), ?_⟩
    rw [← ly] at h6
    exact SlInts.of_owns (put7_own h6 l5)
  · unfold Rd.end_
    rw [E5]
    exact F.rd.block (put7_block (by omega))

end Go.Proofs.Ytkoefoccbjhoiac
