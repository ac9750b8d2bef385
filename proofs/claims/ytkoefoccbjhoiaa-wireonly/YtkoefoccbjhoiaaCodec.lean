/-
  Plain mathematics of our own: a frame as bytes, and the reader that takes one off the front of bytes.
-/
import Derived.Test.YtkoefoccbjhoiaaGood
import Derived.Test.YtkoefoccbjhoiaaRising
set_option linter.unusedVariables false
set_option linter.unusedSimpArgs false
namespace Go.Proofs.Ytkoefoccbjhoiaa
open Go.RowKit

structure FrameL where
  kind : Int
  node : Int
  id : Int
  ops : List OpL
  deps : List Int
  ats : List Int
  vals : List Int

def byt (n : Int) : UInt8 := UInt8.ofNat (n % 256).toNat
theorem byt_nat {n : Int} (h : 0 ≤ n) (h' : n < 256) : ((byt n).toNat : Int) = n := by
  unfold byt
  rw [UInt8.toNat_ofNat']
  omega
theorem byt_of (c : UInt8) : byt (c.toNat : Int) = c := by
  unfold byt
  have := c.toNat_lt
  apply UInt8.toNat_inj.1
  rw [UInt8.toNat_ofNat']
  omega
theorem byt_mod (n : Int) : byt (n % 256) = byt n := by unfold byt; rw [Int.emod_emod_of_dvd _ (by decide)]

def sixAt (m : Int) : List UInt8 := [byt (m / 1099511627776), byt (m / 4294967296), byt (m / 16777216), byt (m / 65536), byt (m / 256), byt m]
def six (n : Int) : List UInt8 := sixAt (n + 140737488355328)
theorem six_len (n : Int) : (six n).length = 6 := rfl

def encOps (zs : List OpL) : List UInt8 := zs.flatMap fun o => byt o.1 :: byt o.2.1 :: six o.2.2
def encNums (zs : List Int) : List UInt8 := zs.map byt
def encTold : List Int → List Int → List UInt8
  | a :: xs, v :: vs => byt a :: six v ++ encTold xs vs
  | _, _ => []
def encL (f : FrameL) : List UInt8 :=
  [byt f.kind, byt f.node, byt f.id, byt f.ops.length] ++ encOps f.ops ++ [byt f.deps.length] ++ encNums f.deps ++ [byt f.ats.length] ++ encTold f.ats f.vals

/-- a reader: what is left, and whether something was lacking -/
structure Rd where
  rest : List UInt8
  short : Bool

def Rd.one (r : Rd) : Int := match r.rest with | [] => 0 | c :: _ => (c.toNat : Int)
def Rd.next (r : Rd) : Rd := match r.rest with | [] => ⟨[], true⟩ | _ :: t => ⟨t, r.short⟩
theorem Rd.one_lo (r : Rd) : 0 ≤ r.one := by unfold Rd.one; split <;> omega
theorem Rd.one_hi (r : Rd) : r.one < 256 := by
  unfold Rd.one
  split
  · omega
  · rename_i c _ _
    have := c.toNat_lt
    omega

def Rd.after : Nat → Rd → Rd
  | 0, r => r
  | k + 1, r => Rd.after k r.next
def Rd.num : Nat → Int → Rd → Int
  | 0, n, _ => n
  | k + 1, n, r => Rd.num k (n * 256 + r.one) r.next
def Rd.wide (r : Rd) : Int := Rd.num 6 0 r - 140737488355328
def Rd.next6 (r : Rd) : Rd := Rd.after 6 r

def Rd.ops : Nat → Rd → List OpL × Rd
  | 0, r => ([], r)
  | k + 1, r => ((r.one, r.next.one, r.next.next.wide) :: (Rd.ops k r.next.next.next6).1, (Rd.ops k r.next.next.next6).2)
def Rd.nums : Nat → Rd → List Int × Rd
  | 0, r => ([], r)
  | k + 1, r => (r.one :: (Rd.nums k r.next).1, (Rd.nums k r.next).2)
def Rd.told : Nat → Rd → List Int × List Int × Rd
  | 0, r => ([], [], r)
  | k + 1, r => (r.one :: (Rd.told k r.next.next6).1, r.next.wide :: (Rd.told k r.next.next6).2.1, (Rd.told k r.next.next6).2.2)

/-- the reader's road: behind the head, behind the operations, behind what stands ahead, behind what is told -/
def Rd.r1 (r : Rd) : Rd := r.next.next.next
def Rd.o1 (r : Rd) : List OpL × Rd := Rd.ops r.r1.one.toNat r.r1.next
def Rd.d1 (r : Rd) : List Int × Rd := Rd.nums r.o1.2.one.toNat r.o1.2.next
def Rd.t1 (r : Rd) : List Int × List Int × Rd := Rd.told r.d1.2.one.toNat r.d1.2.next
def Rd.frame (r : Rd) : FrameL := ⟨r.one, r.next.one, r.next.next.one, r.o1.1, r.d1.1, r.t1.1, r.t1.2.1⟩
def Rd.end_ (r : Rd) : Rd := r.t1.2.2

/- what was read, if nothing was lacking, stood there -/
theorem Rd.next_sound {r : Rd} (h : r.next.short = false) : r.short = false ∧ r.rest = byt r.one :: r.next.rest := by
  obtain ⟨l, b⟩ := r
  cases l with
  | nil => simp [Rd.next] at h
  | cons c t => exact ⟨h, by simp [Rd.one, Rd.next, byt_of]⟩

theorem Rd.after_sound {r : Rd} (h : r.next6.short = false) : r.short = false ∧ r.rest = six r.wide ++ r.next6.rest := by
  unfold Rd.next6 Rd.after at h
  simp only [Rd.after] at h
  obtain ⟨h5, e5⟩ := Rd.next_sound h
  obtain ⟨h4, e4⟩ := Rd.next_sound h5
  obtain ⟨h3, e3⟩ := Rd.next_sound h4
  obtain ⟨h2, e2⟩ := Rd.next_sound h3
  obtain ⟨h1, e1⟩ := Rd.next_sound h2
  obtain ⟨h0, e0⟩ := Rd.next_sound h1
  refine ⟨h0, ?_⟩
  rw [e0, e1, e2, e3, e4, e5]
  simp only [Rd.wide, Rd.num, six, sixAt, Rd.next6, Rd.after]
  have a0 := r.one_lo
  have b0 := r.one_hi
  have a1 := r.next.one_lo
  have b1 := r.next.one_hi
  have a2 := r.next.next.one_lo
  have b2 := r.next.next.one_hi
  have a3 := r.next.next.next.one_lo
  have b3 := r.next.next.next.one_hi
  have a4 := r.next.next.next.next.one_lo
  have b4 := r.next.next.next.next.one_hi
  have a5 := r.next.next.next.next.next.one_lo
  have b5 := r.next.next.next.next.next.one_hi
  generalize r.one = c0 at *
  generalize r.next.one = c1 at *
  generalize r.next.next.one = c2 at *
  generalize r.next.next.next.one = c3 at *
  generalize r.next.next.next.next.one = c4 at *
  generalize r.next.next.next.next.next.one = c5 at *
  have key : ∀ x y : Int, x % 256 = y % 256 → byt x = byt y := fun x y h => by rw [← byt_mod x, ← byt_mod y, h]
  simp only [List.cons_append, List.nil_append, List.cons.injEq, and_true]
  exact ⟨key _ _ (by omega), key _ _ (by omega), key _ _ (by omega), key _ _ (by omega), key _ _ (by omega), key _ _ (by omega)⟩

theorem Rd.ops_sound : ∀ (n : Nat) {r : Rd}, (Rd.ops n r).2.short = false → r.short = false ∧ r.rest = encOps (Rd.ops n r).1 ++ (Rd.ops n r).2.rest
  | 0, r, h => ⟨h, rfl⟩
  | k + 1, r, h => by
    obtain ⟨h3, e3⟩ := Rd.ops_sound k h
    obtain ⟨h2, e2⟩ := Rd.after_sound h3
    obtain ⟨h1, e1⟩ := Rd.next_sound h2
    obtain ⟨h0, e0⟩ := Rd.next_sound h1
    refine ⟨h0, ?_⟩
    rw [e0, e1, e2, e3]
    simp [Rd.ops, encOps]
theorem Rd.ops_len : ∀ (n : Nat) (r : Rd), (Rd.ops n r).1.length = n
  | 0, _ => rfl
  | k + 1, r => by simp [Rd.ops, Rd.ops_len k]

theorem Rd.nums_sound : ∀ (n : Nat) {r : Rd}, (Rd.nums n r).2.short = false → r.short = false ∧ r.rest = encNums (Rd.nums n r).1 ++ (Rd.nums n r).2.rest
  | 0, r, h => ⟨h, rfl⟩
  | k + 1, r, h => by
    obtain ⟨h1, e1⟩ := Rd.nums_sound k h
    obtain ⟨h0, e0⟩ := Rd.next_sound h1
    refine ⟨h0, ?_⟩
    rw [e0, e1]
    simp [Rd.nums, encNums]
theorem Rd.nums_len : ∀ (n : Nat) (r : Rd), (Rd.nums n r).1.length = n
  | 0, _ => rfl
  | k + 1, r => by simp [Rd.nums, Rd.nums_len k]

theorem Rd.told_sound : ∀ (n : Nat) {r : Rd}, (Rd.told n r).2.2.short = false → r.short = false ∧ r.rest = encTold (Rd.told n r).1 (Rd.told n r).2.1 ++ (Rd.told n r).2.2.rest
  | 0, r, h => ⟨h, rfl⟩
  | k + 1, r, h => by
    obtain ⟨h2, e2⟩ := Rd.told_sound k h
    obtain ⟨h1, e1⟩ := Rd.after_sound h2
    obtain ⟨h0, e0⟩ := Rd.next_sound h1
    refine ⟨h0, ?_⟩
    rw [e0, e1, e2]
    simp [Rd.told, encTold]
theorem Rd.told_len : ∀ (n : Nat) (r : Rd), (Rd.told n r).1.length = n ∧ (Rd.told n r).2.1.length = n
  | 0, _ => ⟨rfl, rfl⟩
  | k + 1, r => by simp [Rd.told, Rd.told_len k]

theorem Rd.frame_sound {r : Rd} (h : r.end_.short = false) : r.short = false ∧ r.rest = encL r.frame ++ r.end_.rest := by
  obtain ⟨g5, e5⟩ := Rd.told_sound _ h
  obtain ⟨g4, e4⟩ := Rd.next_sound g5
  obtain ⟨g3, e3⟩ := Rd.nums_sound _ g4
  obtain ⟨g2, e2⟩ := Rd.next_sound g3
  obtain ⟨g1, e1⟩ := Rd.ops_sound _ g2
  obtain ⟨g0, e0⟩ := Rd.next_sound g1
  obtain ⟨f2, d2⟩ := Rd.next_sound g0
  obtain ⟨f1, d1⟩ := Rd.next_sound f2
  obtain ⟨f0, d0⟩ := Rd.next_sound f1
  refine ⟨f0, ?_⟩
  have n1 : ((Rd.ops r.r1.one.toNat r.r1.next).1.length : Int) = r.r1.one := by rw [Rd.ops_len]; have := r.r1.one_lo; omega
  have n2 : ((Rd.nums r.o1.2.one.toNat r.o1.2.next).1.length : Int) = r.o1.2.one := by rw [Rd.nums_len]; have := r.o1.2.one_lo; omega
  have n3 : ((Rd.told r.d1.2.one.toNat r.d1.2.next).1.length : Int) = r.d1.2.one := by rw [(Rd.told_len _ _).1]; have := r.d1.2.one_lo; omega
  rw [d0, d1, d2]
  unfold encL
  simp only [Rd.frame, Rd.o1, Rd.d1, Rd.t1, Rd.end_] at *
  rw [n1, n2, n3]
  unfold Rd.r1 at *
  rw [e0, e1, e2, e3, e4, e5]
  simp

/- what stands there is read -/
theorem Rd.next_put (c : UInt8) (t : List UInt8) : (⟨c :: t, false⟩ : Rd).next = ⟨t, false⟩ := rfl
theorem Rd.one_put {n : Int} (h : 0 ≤ n) (h' : n < 256) (t : List UInt8) : (⟨byt n :: t, false⟩ : Rd).one = n := by
  show ((byt n).toNat : Int) = n
  exact byt_nat h h'
theorem Rd.six_put {n : Int} (h : -140737488355328 ≤ n) (h' : n < 140737488355328) (t : List UInt8) : (⟨six n ++ t, false⟩ : Rd).wide = n ∧ (⟨six n ++ t, false⟩ : Rd).next6 = ⟨t, false⟩ := by
  refine ⟨?_, rfl⟩
  have one : ∀ (x : Int) (t : List UInt8), (⟨byt x :: t, false⟩ : Rd).one = x % 256 := fun x t => by rw [← byt_mod x]; exact Rd.one_put (by omega) (by omega) t
  simp only [Rd.wide, Rd.num, six, sixAt, List.cons_append, List.nil_append, Rd.next_put, one]
  omega

theorem encOps_cons (o : OpL) (zs : List OpL) : encOps (o :: zs) = byt o.1 :: byt o.2.1 :: six o.2.2 ++ encOps zs := by simp [encOps]
theorem Rd.ops_put : ∀ (zs : List OpL) (t : List UInt8), (∀ o ∈ zs, goodB o = true) → Rd.ops zs.length ⟨encOps zs ++ t, false⟩ = (zs, ⟨t, false⟩)
  | [], t, _ => rfl
  | (k, y, n) :: zs, t, h => by
    have h0 := h (k, y, n) (by simp)
    unfold goodB at h0
    simp only [decide_eq_true_eq] at h0
    have ih := Rd.ops_put zs t (fun p hp => h p (by simp [hp]))
    obtain ⟨s1, s2⟩ := Rd.six_put (n := n) (by omega) (by omega) (encOps zs ++ t)
    rw [encOps_cons]
    simp only [List.length_cons, Rd.ops, List.cons_append, List.append_assoc, Rd.next_put]
    rw [Rd.one_put (by omega) (by omega), Rd.one_put (by omega) (by omega), s1, s2, ih]

theorem Rd.nums_put : ∀ (zs : List Int) (t : List UInt8), (∀ n ∈ zs, 0 ≤ n ∧ n < 256) → Rd.nums zs.length ⟨encNums zs ++ t, false⟩ = (zs, ⟨t, false⟩)
  | [], t, _ => rfl
  | n :: zs, t, h => by
    have h0 := h n (by simp)
    have ih := Rd.nums_put zs t (fun p hp => h p (by simp [hp]))
    show Rd.nums (zs.length + 1) ⟨byt n :: (encNums zs ++ t), false⟩ = _
    simp only [Rd.nums, Rd.next_put]
    rw [Rd.one_put h0.1 h0.2, ih]

theorem Rd.told_put : ∀ (xs vs : List Int) (t : List UInt8), vs.length = xs.length → (∀ n ∈ xs, 0 ≤ n ∧ n < 256) → (∀ n ∈ vs, -140737488355328 ≤ n ∧ n < 140737488355328) → Rd.told xs.length ⟨encTold xs vs ++ t, false⟩ = (xs, vs, ⟨t, false⟩)
  | [], [], t, _, _, _ => rfl
  | [], _ :: _, _, h, _, _ => by simp at h
  | _ :: _, [], _, h, _, _ => by simp at h
  | a :: xs, v :: vs, t, h, ha, hv => by
    have h0 := ha a (by simp)
    have h1 := hv v (by simp)
    have ih := Rd.told_put xs vs t (by simpa using h) (fun p hp => ha p (by simp [hp])) (fun p hp => hv p (by simp [hp]))
    obtain ⟨s1, s2⟩ := Rd.six_put (n := v) h1.1 h1.2 (encTold xs vs ++ t)
    show Rd.told (xs.length + 1) ⟨byt a :: six v ++ encTold xs vs ++ t, false⟩ = _
    simp only [Rd.told, List.cons_append, List.append_assoc, Rd.next_put]
    rw [Rd.one_put h0.1 h0.2, s1, s2, ih]

/- good frames -/
def toldFrom : Int → List Int → List Int → Bool
  | l, a :: xs, v :: vs => !(decide (a ≤ l) || decide (4 ≤ a)) && decide (-1099511627776 ≤ v ∧ v ≤ 1099511627776) && toldFrom a xs vs
  | _, _, _ => true
def goodOpsF (f : FrameL) : Bool := if f.kind = 1 ∨ f.kind = 3 then goodOpsL f.ops else decide (f.ops.length = 0)
def goodDepsF (f : FrameL) : Bool := if f.kind = 2 ∨ f.kind = 3 then risingFrom (-1) f.deps && !hasL f.deps f.id else decide (f.deps.length = 0)
def goodToldF (f : FrameL) : Bool := decide (f.kind = 5 ∨ f.ats.length = 0) && (decide (f.vals.length = f.ats.length) && toldFrom (-1) f.ats f.vals)
def goodL (f : FrameL) : Int :=
  if f.kind < 1 ∨ 5 < f.kind then 3 else if f.node < 0 ∨ 6 ≤ f.node ∨ f.id < 0 ∨ 32 ≤ f.id then 2
  else if goodOpsF f && (goodDepsF f && goodToldF f) then 0 else 1

theorem rising_in : ∀ (zs : List Int) (l : Int), risingFrom l zs = true → (∀ n ∈ zs, l < n ∧ n < 32) ∧ (zs = [] ∨ (zs.length : Int) ≤ 31 - l)
  | [], l, _ => ⟨by simp, Or.inl rfl⟩
  | n :: r, l, h => by
    rw [risingFrom] at h
    simp only [Bool.and_eq_true, Bool.not_eq_true', Bool.or_eq_false_iff, decide_eq_false_iff_not] at h
    obtain ⟨⟨h1, h2⟩, h3⟩ := h
    obtain ⟨i1, i2⟩ := rising_in r n h3
    refine ⟨fun m hm => ?_, Or.inr ?_⟩
    · rcases List.mem_cons.1 hm with rfl | hm
      · omega
      · have := i1 m hm
        omega
    · rcases i2 with rfl | i2
      · simp; omega
      · simp; omega

theorem told_in : ∀ (xs vs : List Int) (l : Int), vs.length = xs.length → toldFrom l xs vs = true → (∀ n ∈ xs, l < n ∧ n < 4) ∧ (∀ n ∈ vs, -1099511627776 ≤ n ∧ n ≤ 1099511627776) ∧ (xs = [] ∨ (xs.length : Int) ≤ 3 - l)
  | [], [], l, _, _ => ⟨by simp, by simp, Or.inl rfl⟩
  | [], _ :: _, _, h, _ => by simp at h
  | _ :: _, [], _, h, _ => by simp at h
  | a :: xs, v :: vs, l, hl, h => by
    rw [toldFrom] at h
    simp only [Bool.and_eq_true, Bool.not_eq_true', Bool.or_eq_false_iff, decide_eq_false_iff_not, decide_eq_true_eq] at h
    obtain ⟨⟨⟨h1, h2⟩, h3⟩, h4⟩ := h
    obtain ⟨i1, i2, i3⟩ := told_in xs vs a (by simpa using hl) h4
    refine ⟨fun m hm => ?_, fun m hm => ?_, Or.inr ?_⟩
    · rcases List.mem_cons.1 hm with rfl | hm
      · omega
      · have := i1 m hm
        omega
    · rcases List.mem_cons.1 hm with rfl | hm
      · omega
      · exact i2 m hm
    · rcases i3 with rfl | i3
      · simp; omega
      · simp; omega

theorem ops_in {zs : List OpL} (h : goodOpsL zs = true) : zs.length ≤ 4 ∧ ∀ o ∈ zs, goodB o = true := by
  unfold goodOpsL at h
  simp only [Bool.and_eq_true, decide_eq_true_eq] at h
  refine ⟨h.1.2, fun o ho => ?_⟩
  obtain ⟨i, hi, rfl⟩ := List.mem_iff_getElem.1 ho
  have := List.all_eq_true.1 h.2 i (List.mem_range.2 hi)
  unfold goodAt at this
  simp only [Bool.and_eq_true] at this
  have e : zs.getD i (0, 0, 0) = zs[i] := by simp [List.getD, hi]
  rw [e] at this
  exact this.1

theorem good_in {f : FrameL} (h : goodL f = 0) : (1 ≤ f.kind ∧ f.kind ≤ 5) ∧ (0 ≤ f.node ∧ f.node < 6) ∧ (0 ≤ f.id ∧ f.id < 32) ∧ (f.ops.length ≤ 4 ∧ ∀ o ∈ f.ops, goodB o = true) ∧
    (f.deps.length ≤ 32 ∧ ∀ n ∈ f.deps, 0 ≤ n ∧ n < 256) ∧ (f.ats.length ≤ 4 ∧ ∀ n ∈ f.ats, 0 ≤ n ∧ n < 256) ∧ f.vals.length = f.ats.length ∧ ∀ n ∈ f.vals, -140737488355328 ≤ n ∧ n < 140737488355328 := by
  unfold goodL at h
  by_cases h1 : f.kind < 1 ∨ 5 < f.kind
  · rw [if_pos h1] at h
    omega
  rw [if_neg h1] at h
  by_cases h2 : f.node < 0 ∨ 6 ≤ f.node ∨ f.id < 0 ∨ 32 ≤ f.id
  · rw [if_pos h2] at h
    omega
  rw [if_neg h2] at h
  by_cases h3 : (goodOpsF f && (goodDepsF f && goodToldF f)) = true
  · simp only [Bool.and_eq_true] at h3
    obtain ⟨g1, g2, g3⟩ := h3
    refine ⟨by omega, by omega, by omega, ?_, ?_, ?_⟩
    · unfold goodOpsF at g1
      split at g1
      · exact ops_in g1
      · have : f.ops = [] := by simpa using g1
        rw [this]
        simp
    · unfold goodDepsF at g2
      split at g2
      · simp only [Bool.and_eq_true] at g2
        obtain ⟨i1, i2⟩ := rising_in _ _ g2.1
        refine ⟨?_, fun n hn => by have := i1 n hn; omega⟩
        rcases i2 with i2 | i2
        · rw [i2]
          simp
        · omega
      · have : f.deps = [] := by simpa using g2
        rw [this]
        simp
    · unfold goodToldF at g3
      simp only [Bool.and_eq_true, decide_eq_true_eq] at g3
      obtain ⟨_, g4, g5⟩ := g3
      obtain ⟨i1, i2, i3⟩ := told_in _ _ _ g4 g5
      refine ⟨⟨?_, fun n hn => by have := i1 n hn; omega⟩, g4, fun n hn => by have := i2 n hn; omega⟩
      rcases i3 with i3 | i3
      · rw [i3]
        simp
      · omega
  · rw [if_neg h3] at h
    omega

theorem frame_put {f : FrameL} (h : goodL f = 0) (t : List UInt8) : (⟨encL f ++ t, false⟩ : Rd).frame = f ∧ (⟨encL f ++ t, false⟩ : Rd).end_ = ⟨t, false⟩ := by
  obtain ⟨hk, hn, hi, ⟨ho1, ho2⟩, ⟨hd1, hd2⟩, ⟨ha1, ha2⟩, hv1, hv2⟩ := good_in h
  obtain ⟨kind, node, id, ops, deps, ats, vals⟩ := f
  simp only at *
  have e : encL ⟨kind, node, id, ops, deps, ats, vals⟩ ++ t = byt kind :: byt node :: byt id :: byt ops.length :: (encOps ops ++ (byt deps.length :: (encNums deps ++ (byt ats.length :: (encTold ats vals ++ t))))) := by simp [encL]
  rw [e]
  generalize hr : (⟨byt kind :: byt node :: byt id :: byt ops.length :: (encOps ops ++ (byt deps.length :: (encNums deps ++ (byt ats.length :: (encTold ats vals ++ t))))), false⟩ : Rd) = r
  have q1 : r.r1 = ⟨byt ops.length :: (encOps ops ++ (byt deps.length :: (encNums deps ++ (byt ats.length :: (encTold ats vals ++ t))))), false⟩ := by rw [← hr]; rfl
  have q2 : r.o1 = (ops, ⟨byt deps.length :: (encNums deps ++ (byt ats.length :: (encTold ats vals ++ t))), false⟩) := by
    unfold Rd.o1
    rw [q1, Rd.one_put (by omega) (by omega), Rd.next_put, Int.toNat_natCast, Rd.ops_put _ _ ho2]
  have q3 : r.d1 = (deps, ⟨byt ats.length :: (encTold ats vals ++ t), false⟩) := by
    unfold Rd.d1
    rw [q2, Rd.one_put (by omega) (by omega), Rd.next_put, Int.toNat_natCast, Rd.nums_put _ _ hd2]
  have q4 : r.t1 = (ats, vals, ⟨t, false⟩) := by
    unfold Rd.t1
    rw [q3, Rd.one_put (by omega) (by omega), Rd.next_put, Int.toNat_natCast, Rd.told_put _ _ _ hv1 ha2 hv2]
  refine ⟨?_, by unfold Rd.end_; rw [q4]⟩
  unfold Rd.frame
  rw [q2, q3, q4, ← hr]
  simp only [Rd.next_put]
  rw [Rd.one_put (by omega) (by omega), Rd.one_put (by omega) (by omega), Rd.one_put (by omega) (by omega)]

/- Decode -/
def okL (s : List UInt8) : Bool := !((⟨s, false⟩ : Rd).end_.short || !(⟨s, false⟩ : Rd).end_.rest.isEmpty) && (goodL (⟨s, false⟩ : Rd).frame == 0)
def zeroF : FrameL := ⟨0, 0, 0, [], [], [], []⟩
def decL (s : List UInt8) : FrameL := if okL s = true then (⟨s, false⟩ : Rd).frame else zeroF
def decE (s : List UInt8) : Int := if okL s = true then 0 else 1

theorem ok_sound {s : List UInt8} (h : okL s = true) : goodL (decL s) = 0 ∧ encL (decL s) = s := by
  have hd : decL s = (⟨s, false⟩ : Rd).frame := by unfold decL; rw [if_pos h]
  unfold okL at h
  simp only [Bool.and_eq_true, Bool.not_eq_true', Bool.or_eq_false_iff, Bool.not_eq_false', List.isEmpty_iff, beq_iff_eq] at h
  obtain ⟨⟨h1, h2⟩, h3⟩ := h
  refine ⟨by rw [hd]; exact h3, ?_⟩
  obtain ⟨_, e⟩ := Rd.frame_sound h1
  rw [h2, List.append_nil] at e
  rw [hd]
  exact e.symm
theorem ok_put {f : FrameL} (h : goodL f = 0) : okL (encL f) = true ∧ decL (encL f) = f := by
  obtain ⟨e1, e2⟩ := frame_put h []
  rw [List.append_nil] at e1 e2
  have ho : okL (encL f) = true := by unfold okL; rw [e1, e2, h]; rfl
  exact ⟨ho, by unfold decL; rw [if_pos ho, e1]⟩
theorem ok_more {f : FrameL} (h : goodL f = 0) (c : UInt8) (t : List UInt8) : okL (encL f ++ c :: t) = false := by
  obtain ⟨e1, e2⟩ := frame_put h (c :: t)
  unfold okL
  rw [e1, e2]
  rfl
theorem ok_cut {f : FrameL} (h : goodL f = 0) {n : Nat} (hn : n < (encL f).length) : okL ((encL f).take n) = false := by
  cases ho : okL ((encL f).take n) with
  | false => rfl
  | true =>
    obtain ⟨g1, g2⟩ := ok_sound ho
    have h2 := List.take_append_drop n (encL f)
    have h3 : (encL f).drop n ≠ [] := by intro e; have := congrArg List.length e; simp at this; omega
    obtain ⟨c, t, e⟩ := List.exists_cons_of_ne_nil h3
    have h4 := ok_more g1 c t
    rw [g2, ← e, h2, (ok_put h).1] at h4
    cases h4

theorem encOps_len (zs : List OpL) : (encOps zs).length = 8 * zs.length := by
  induction zs with
  | nil => rfl
  | cons o zs ih => rw [encOps_cons, List.length_append, ih]; simp [six_len]; omega
theorem encTold_len : ∀ (xs vs : List Int), vs.length = xs.length → (encTold xs vs).length = 7 * xs.length
  | [], [], _ => rfl
  | [], _ :: _, h => by simp at h
  | _ :: _, [], h => by simp at h
  | a :: xs, v :: vs, h => by
    have := encTold_len xs vs (by simpa using h)
    simp [encTold, six_len, this]
    omega
theorem enc_len {f : FrameL} (h : goodL f = 0) : (encL f).length ≤ 98 ∧ 6 ≤ (encL f).length := by
  obtain ⟨hk, hn, hi, ⟨ho1, ho2⟩, ⟨hd1, hd2⟩, ⟨ha1, ha2⟩, hv1, hv2⟩ := good_in h
  unfold encL
  have e1 := encOps_len f.ops
  have e2 := encTold_len f.ats f.vals hv1
  simp [encNums, e1, e2]
  omega

end Go.Proofs.Ytkoefoccbjhoiaa
