/-
 Plain mathematics of our own: a frame as bytes, and the reader that takes one off the front of bytes.
 Plain mathematics of a node: what it is told, what it then is, and what it answers.
 Plain mathematics of a node: it stays good; and what it has executed stays sorted.
 Plain mathematics: what comes to be known of what one does not hang on changes nothing for it.
 Plain mathematics of a node: what it has executed stands behind all that it hangs on, but those that hang on it: these by number; whatever it is told.
-/
import Derived.Test.YtgdkjjmnoikhdabPart5
namespace Go.Proofs.Ytgdkjjmnoikhdab
open Go.RowKit

structure FrameL where
 kind : Int
 node : Int
 id : Int
 ops : List OpL
 deps : List Int
 ats : List Int
 vals : List Int

def byt (n : Int) : UInt8 := UInt8.ofNat (n % 256).toNat
theorem byt_nat {n : Int} (h : 0 ≤ n) (h' : n < 256) : ((byt n).toNat : Int) = n := by
 unfold byt
 rw [UInt8.toNat_ofNat']
 omega
theorem byt_of (c : UInt8) : byt (c.toNat : Int) = c := by
 unfold byt
 have := c.toNat_lt
 apply UInt8.toNat_inj.1
 rw [UInt8.toNat_ofNat']
 omega
theorem byt_mod (n : Int) : byt (n % 256) = byt n := by unfold byt; rw [Int.emod_emod_of_dvd _ (by decide)]

def sixAt (m : Int) : List UInt8 := [byt (m / 1099511627776), byt (m / 4294967296), byt (m / 16777216), byt (m / 65536), byt (m / 256), byt m]
def six (n : Int) : List UInt8 := sixAt (n + 140737488355328)
theorem six_len (n : Int) : (six n).length = 6 := rfl

def encOps (zs : List OpL) : List UInt8 := zs.flatMap fun o => byt o.1 :: byt o.2.1 :: six o.2.2
def encNums (zs : List Int) : List UInt8 := zs.map byt
def encTold : List Int → List Int → List UInt8
 | a :: xs, v :: vs => byt a :: six v ++ encTold xs vs
 | _, _ => []
def encL (f : FrameL) : List UInt8 :=
 [byt f.kind, byt f.node, byt f.id, byt f.ops.length] ++ encOps f.ops ++ [byt f.deps.length] ++ encNums f.deps ++ [byt f.ats.length] ++ encTold f.ats f.vals

/-- a reader: what is left, and whether something was lacking -/
structure Rd where
 rest : List UInt8
 short : Bool

def Rd.one (r : Rd) : Int := match r.rest with | [] => 0 | c :: _ => (c.toNat : Int)
def Rd.next (r : Rd) : Rd := match r.rest with | [] => ⟨[], true⟩ | _ :: t => ⟨t, r.short⟩
theorem Rd.one_lo (r : Rd) : 0 ≤ r.one := by unfold Rd.one; split <;> omega
theorem Rd.one_hi (r : Rd) : r.one < 256 := by
 unfold Rd.one
 split
 · omega
 · rename_i c _ _
  have := c.toNat_lt
  omega

def Rd.after : Nat → Rd → Rd
 | 0, r => r
 | k + 1, r => Rd.after k r.next
def Rd.num : Nat → Int → Rd → Int
 | 0, n, _ => n
 | k + 1, n, r => Rd.num k (n * 256 + r.one) r.next
def Rd.wide (r : Rd) : Int := Rd.num 6 0 r - 140737488355328
def Rd.next6 (r : Rd) : Rd := Rd.after 6 r

def Rd.ops : Nat → Rd → List OpL × Rd
 | 0, r => ([], r)
 | k + 1, r => ((r.one, r.next.one, r.next.next.wide) :: (Rd.ops k r.next.next.next6).1, (Rd.ops k r.next.next.next6).2)
def Rd.nums : Nat → Rd → List Int × Rd
 | 0, r => ([], r)
 | k + 1, r => (r.one :: (Rd.nums k r.next).1, (Rd.nums k r.next).2)
def Rd.told : Nat → Rd → List Int × List Int × Rd
 | 0, r => ([], [], r)
 | k + 1, r => (r.one :: (Rd.told k r.next.next6).1, r.next.wide :: (Rd.told k r.next.next6).2.1, (Rd.told k r.next.next6).2.2)

/-- the reader's road: behind the head, behind the operations, behind what stands ahead, behind what is told -/
def Rd.r1 (r : Rd) : Rd := r.next.next.next
def Rd.o1 (r : Rd) : List OpL × Rd := Rd.ops r.r1.one.toNat r.r1.next
def Rd.d1 (r : Rd) : List Int × Rd := Rd.nums r.o1.2.one.toNat r.o1.2.next
def Rd.t1 (r : Rd) : List Int × List Int × Rd := Rd.told r.d1.2.one.toNat r.d1.2.next
def Rd.frame (r : Rd) : FrameL := ⟨r.one, r.next.one, r.next.next.one, r.o1.1, r.d1.1, r.t1.1, r.t1.2.1⟩
def Rd.end_ (r : Rd) : Rd := r.t1.2.2

/- what was read, if nothing was lacking, stood there -/
theorem Rd.next_sound {r : Rd} (h : r.next.short = false) : r.short = false ∧ r.rest = byt r.one :: r.next.rest := by
 obtain ⟨l, b⟩ := r
 cases l with
 | nil => simp [Rd.next] at h
 | cons c t => exact ⟨h, by simp [Rd.one, Rd.next, byt_of]⟩

theorem Rd.after_sound {r : Rd} (h : r.next6.short = false) : r.short = false ∧ r.rest = six r.wide ++ r.next6.rest := by
 unfold Rd.next6 Rd.after at h
 simp only [Rd.after] at h
 obtain ⟨h5, e5⟩ := Rd.next_sound h
 obtain ⟨h4, e4⟩ := Rd.next_sound h5
 obtain ⟨h3, e3⟩ := Rd.next_sound h4
 obtain ⟨h2, e2⟩ := Rd.next_sound h3
 obtain ⟨h1, e1⟩ := Rd.next_sound h2
 obtain ⟨h0, e0⟩ := Rd.next_sound h1
 refine ⟨h0, ?_⟩
 rw [e0, e1, e2, e3, e4, e5]
 simp only [Rd.wide, Rd.num, six, sixAt, Rd.next6, Rd.after]
 have a0 := r.one_lo
 have b0 := r.one_hi
 have a1 := r.next.one_lo
 have b1 := r.next.one_hi
 have a2 := r.next.next.one_lo
 have b2 := r.next.next.one_hi
 have a3 := r.next.next.next.one_lo
 have b3 := r.next.next.next.one_hi
 have a4 := r.next.next.next.next.one_lo
 have b4 := r.next.next.next.next.one_hi
 have a5 := r.next.next.next.next.next.one_lo
 have b5 := r.next.next.next.next.next.one_hi
 generalize r.one = c0 at *
 generalize r.next.one = c1 at *
 generalize r.next.next.one = c2 at *
 generalize r.next.next.next.one = c3 at *
 generalize r.next.next.next.next.one = c4 at *
 generalize r.next.next.next.next.next.one = c5 at *
 have key : ∀ x y : Int, x % 256 = y % 256 → byt x = byt y := fun x y h => by rw [← byt_mod x, ← byt_mod y, h]
 simp only [List.cons_append, List.nil_append, List.cons.injEq, and_true]
 exact ⟨key _ _ (by omega), key _ _ (by omega), key _ _ (by omega), key _ _ (by omega), key _ _ (by omega), key _ _ (by omega)⟩

theorem Rd.ops_sound : ∀ (n : Nat) {r : Rd}, (Rd.ops n r).2.short = false → r.short = false ∧ r.rest = encOps (Rd.ops n r).1 ++ (Rd.ops n r).2.rest
 | 0, r, h => ⟨h, rfl⟩
 | k + 1, r, h => by
  obtain ⟨h3, e3⟩ := Rd.ops_sound k h
  obtain ⟨h2, e2⟩ := Rd.after_sound h3
  obtain ⟨h1, e1⟩ := Rd.next_sound h2
  obtain ⟨h0, e0⟩ := Rd.next_sound h1
  refine ⟨h0, ?_⟩
  rw [e0, e1, e2, e3]
  simp [Rd.ops, encOps]
theorem Rd.ops_len : ∀ (n : Nat) (r : Rd), (Rd.ops n r).1.length = n
 | 0, _ => rfl
 | k + 1, r => by simp [Rd.ops, Rd.ops_len k]

theorem Rd.nums_sound : ∀ (n : Nat) {r : Rd}, (Rd.nums n r).2.short = false → r.short = false ∧ r.rest = encNums (Rd.nums n r).1 ++ (Rd.nums n r).2.rest
 | 0, r, h => ⟨h, rfl⟩
 | k + 1, r, h => by
  obtain ⟨h1, e1⟩ := Rd.nums_sound k h
  obtain ⟨h0, e0⟩ := Rd.next_sound h1
  refine ⟨h0, ?_⟩
  rw [e0, e1]
  simp [Rd.nums, encNums]
theorem Rd.nums_len : ∀ (n : Nat) (r : Rd), (Rd.nums n r).1.length = n
 | 0, _ => rfl
 | k + 1, r => by simp [Rd.nums, Rd.nums_len k]

theorem Rd.told_sound : ∀ (n : Nat) {r : Rd}, (Rd.told n r).2.2.short = false → r.short = false ∧ r.rest = encTold (Rd.told n r).1 (Rd.told n r).2.1 ++ (Rd.told n r).2.2.rest
 | 0, r, h => ⟨h, rfl⟩
 | k + 1, r, h => by
  obtain ⟨h2, e2⟩ := Rd.told_sound k h
  obtain ⟨h1, e1⟩ := Rd.after_sound h2
  obtain ⟨h0, e0⟩ := Rd.next_sound h1
  refine ⟨h0, ?_⟩
  rw [e0, e1, e2]
  simp [Rd.told, encTold]
theorem Rd.told_len : ∀ (n : Nat) (r : Rd), (Rd.told n r).1.length = n ∧ (Rd.told n r).2.1.length = n
 | 0, _ => ⟨rfl, rfl⟩
 | k + 1, r => by simp [Rd.told, Rd.told_len k]

theorem Rd.frame_sound {r : Rd} (h : r.end_.short = false) : r.short = false ∧ r.rest = encL r.frame ++ r.end_.rest := by
 obtain ⟨g5, e5⟩ := Rd.told_sound _ h
 obtain ⟨g4, e4⟩ := Rd.next_sound g5
 obtain ⟨g3, e3⟩ := Rd.nums_sound _ g4
 obtain ⟨g2, e2⟩ := Rd.next_sound g3
 obtain ⟨g1, e1⟩ := Rd.ops_sound _ g2
 obtain ⟨g0, e0⟩ := Rd.next_sound g1
 obtain ⟨f2, d2⟩ := Rd.next_sound g0
 obtain ⟨f1, d1⟩ := Rd.next_sound f2
 obtain ⟨f0, d0⟩ := Rd.next_sound f1
 refine ⟨f0, ?_⟩
 have n1 : ((Rd.ops r.r1.one.toNat r.r1.next).1.length : Int) = r.r1.one := by rw [Rd.ops_len]; have := r.r1.one_lo; omega
 have n2 : ((Rd.nums r.o1.2.one.toNat r.o1.2.next).1.length : Int) = r.o1.2.one := by rw [Rd.nums_len]; have := r.o1.2.one_lo; omega
 have n3 : ((Rd.told r.d1.2.one.toNat r.d1.2.next).1.length : Int) = r.d1.2.one := by rw [(Rd.told_len _ _).1]; have := r.d1.2.one_lo; omega
 rw [d0, d1, d2]
 unfold encL
 simp only [Rd.frame, Rd.o1, Rd.d1, Rd.t1, Rd.end_] at *
 rw [n1, n2, n3]
 unfold Rd.r1 at *
 rw [e0, e1, e2, e3, e4, e5]
 simp

/- what stands there is read -/
theorem Rd.next_put (c : UInt8) (t : List UInt8) : (⟨c :: t, false⟩ : Rd).next = ⟨t, false⟩ := rfl
theorem Rd.one_put {n : Int} (h : 0 ≤ n) (h' : n < 256) (t : List UInt8) : (⟨byt n :: t, false⟩ : Rd).one = n := by
 show ((byt n).toNat : Int) = n
 exact byt_nat h h'
theorem Rd.six_put {n : Int} (h : -140737488355328 ≤ n) (h' : n < 140737488355328) (t : List UInt8) : (⟨six n ++ t, false⟩ : Rd).wide = n ∧ (⟨six n ++ t, false⟩ : Rd).next6 = ⟨t, false⟩ := by
 refine ⟨?_, rfl⟩
 have one : ∀ (x : Int) (t : List UInt8), (⟨byt x :: t, false⟩ : Rd).one = x % 256 := fun x t => by rw [← byt_mod x]; exact Rd.one_put (by omega) (by omega) t
 simp only [Rd.wide, Rd.num, six, sixAt, List.cons_append, List.nil_append, Rd.next_put, one]
 omega

theorem encOps_cons (o : OpL) (zs : List OpL) : encOps (o :: zs) = byt o.1 :: byt o.2.1 :: six o.2.2 ++ encOps zs := by simp [encOps]
theorem Rd.ops_put : ∀ (zs : List OpL) (t : List UInt8), (∀ o ∈ zs, goodB o = true) → Rd.ops zs.length ⟨encOps zs ++ t, false⟩ = (zs, ⟨t, false⟩)
 | [], t, _ => rfl
 | (k, y, n) :: zs, t, h => by
  have h0 := h (k, y, n) (by simp)
  unfold goodB at h0
  simp only [decide_eq_true_eq] at h0
  have ih := Rd.ops_put zs t (fun p hp => h p (by simp [hp]))
  obtain ⟨s1, s2⟩ := Rd.six_put (n := n) (by omega) (by omega) (encOps zs ++ t)
  rw [encOps_cons]
  simp only [List.length_cons, Rd.ops, List.cons_append, List.append_assoc, Rd.next_put]
  rw [Rd.one_put (by omega) (by omega), Rd.one_put (by omega) (by omega), s1, s2, ih]

theorem Rd.nums_put : ∀ (zs : List Int) (t : List UInt8), (∀ n ∈ zs, 0 ≤ n ∧ n < 256) → Rd.nums zs.length ⟨encNums zs ++ t, false⟩ = (zs, ⟨t, false⟩)
 | [], t, _ => rfl
 | n :: zs, t, h => by
  have h0 := h n (by simp)
  have ih := Rd.nums_put zs t (fun p hp => h p (by simp [hp]))
  show Rd.nums (zs.length + 1) ⟨byt n :: (encNums zs ++ t), false⟩ = _
  simp only [Rd.nums, Rd.next_put]
  rw [Rd.one_put h0.1 h0.2, ih]

theorem Rd.told_put : ∀ (xs vs : List Int) (t : List UInt8), vs.length = xs.length → (∀ n ∈ xs, 0 ≤ n ∧ n < 256) → (∀ n ∈ vs, -140737488355328 ≤ n ∧ n < 140737488355328) → Rd.told xs.length ⟨encTold xs vs ++ t, false⟩ = (xs, vs, ⟨t, false⟩)
 | [], [], t, _, _, _ => rfl
 | [], _ :: _, _, h, _, _ => by simp at h
 | _ :: _, [], _, h, _, _ => by simp at h
 | a :: xs, v :: vs, t, h, ha, hv => by
  have h0 := ha a (by simp)
  have h1 := hv v (by simp)
  have ih := Rd.told_put xs vs t (by simpa using h) (fun p hp => ha p (by simp [hp])) (fun p hp => hv p (by simp [hp]))
  obtain ⟨s1, s2⟩ := Rd.six_put (n := v) h1.1 h1.2 (encTold xs vs ++ t)
  show Rd.told (xs.length + 1) ⟨byt a :: six v ++ encTold xs vs ++ t, false⟩ = _
  simp only [Rd.told, List.cons_append, List.append_assoc, Rd.next_put]
  rw [Rd.one_put h0.1 h0.2, s1, s2, ih]

/- good frames -/
def toldFrom : Int → List Int → List Int → Bool
 | l, a :: xs, v :: vs => !(decide (a ≤ l) || decide (4 ≤ a)) && decide (-1099511627776 ≤ v ∧ v ≤ 1099511627776) && toldFrom a xs vs
 | _, _, _ => true
def goodOpsF (f : FrameL) : Bool := if f.kind = 1 ∨ f.kind = 3 then goodOpsL f.ops else decide (f.ops.length = 0)
def goodDepsF (f : FrameL) : Bool := if f.kind = 2 ∨ f.kind = 3 then risingFrom (-1) f.deps && !hasL f.deps f.id else decide (f.deps.length = 0)
def goodToldF (f : FrameL) : Bool := decide (f.kind = 5 ∨ f.ats.length = 0) && (decide (f.vals.length = f.ats.length) && toldFrom (-1) f.ats f.vals)
def goodL (f : FrameL) : Int :=
 if f.kind < 1 ∨ 5 < f.kind then 3 else if f.node < 0 ∨ 6 ≤ f.node ∨ f.id < 0 ∨ 32 ≤ f.id then 2
 else if goodOpsF f && (goodDepsF f && goodToldF f) then 0 else 1

theorem rising_in : ∀ (zs : List Int) (l : Int), risingFrom l zs = true → (∀ n ∈ zs, l < n ∧ n < 32) ∧ (zs = [] ∨ (zs.length : Int) ≤ 31 - l)
 | [], l, _ => ⟨by simp, Or.inl rfl⟩
 | n :: r, l, h => by
  rw [risingFrom] at h
  simp only [Bool.and_eq_true, Bool.not_eq_true', Bool.or_eq_false_iff, decide_eq_false_iff_not] at h
  obtain ⟨⟨h1, h2⟩, h3⟩ := h
  obtain ⟨i1, i2⟩ := rising_in r n h3
  refine ⟨fun m hm => ?_, Or.inr ?_⟩
  · rcases List.mem_cons.1 hm with rfl | hm
   · omega
   · have := i1 m hm
    omega
  · rcases i2 with rfl | i2
   · simp; omega
   · simp; omega

theorem told_in : ∀ (xs vs : List Int) (l : Int), vs.length = xs.length → toldFrom l xs vs = true → (∀ n ∈ xs, l < n ∧ n < 4) ∧ (∀ n ∈ vs, -1099511627776 ≤ n ∧ n ≤ 1099511627776) ∧ (xs = [] ∨ (xs.length : Int) ≤ 3 - l)
 | [], [], l, _, _ => ⟨by simp, by simp, Or.inl rfl⟩
 | [], _ :: _, _, h, _ => by simp at h
 | _ :: _, [], _, h, _ => by simp at h
 | a :: xs, v :: vs, l, hl, h => by
  rw [toldFrom] at h
  simp only [Bool.and_eq_true, Bool.not_eq_true', Bool.or_eq_false_iff, decide_eq_false_iff_not, decide_eq_true_eq] at h
  obtain ⟨⟨⟨h1, h2⟩, h3⟩, h4⟩ := h
  obtain ⟨i1, i2, i3⟩ := told_in xs vs a (by simpa using hl) h4
  refine ⟨fun m hm => ?_, fun m hm => ?_, Or.inr ?_⟩
  · rcases List.mem_cons.1 hm with rfl | hm
   · omega
   · have := i1 m hm
    omega
  · rcases List.mem_cons.1 hm with rfl | hm
   · omega
   · exact i2 m hm
  · rcases i3 with rfl | i3
   · simp; omega
   · simp; omega

theorem ops_in {zs : List OpL} (h : goodOpsL zs = true) : zs.length ≤ 4 ∧ ∀ o ∈ zs, goodB o = true := by
 unfold goodOpsL at h
 simp only [Bool.and_eq_true, decide_eq_true_eq] at h
 refine ⟨h.1.2, fun o ho => ?_⟩
 obtain ⟨i, hi, rfl⟩ := List.mem_iff_getElem.1 ho
 have := List.all_eq_true.1 h.2 i (List.mem_range.2 hi)
 unfold goodAt at this
 simp only [Bool.and_eq_true] at this
 have e : zs.getD i (0, 0, 0) = zs[i] := by simp [List.getD, hi]
 rw [e] at this
 exact this.1

theorem good_in {f : FrameL} (h : goodL f = 0) : (1 ≤ f.kind ∧ f.kind ≤ 5) ∧ (0 ≤ f.node ∧ f.node < 6) ∧ (0 ≤ f.id ∧ f.id < 32) ∧ (f.ops.length ≤ 4 ∧ ∀ o ∈ f.ops, goodB o = true) ∧
  (f.deps.length ≤ 32 ∧ ∀ n ∈ f.deps, 0 ≤ n ∧ n < 256) ∧ (f.ats.length ≤ 4 ∧ ∀ n ∈ f.ats, 0 ≤ n ∧ n < 256) ∧ f.vals.length = f.ats.length ∧ ∀ n ∈ f.vals, -140737488355328 ≤ n ∧ n < 140737488355328 := by
 unfold goodL at h
 by_cases h1 : f.kind < 1 ∨ 5 < f.kind
 · rw [if_pos h1] at h
  omega
 rw [if_neg h1] at h
 by_cases h2 : f.node < 0 ∨ 6 ≤ f.node ∨ f.id < 0 ∨ 32 ≤ f.id
 · rw [if_pos h2] at h
  omega
 rw [if_neg h2] at h
 by_cases h3 : (goodOpsF f && (goodDepsF f && goodToldF f)) = true
 · simp only [Bool.and_eq_true] at h3
  obtain ⟨g1, g2, g3⟩ := h3
  refine ⟨by omega, by omega, by omega, ?_, ?_, ?_⟩
  · unfold goodOpsF at g1
   split at g1
   · exact ops_in g1
   · have : f.ops = [] := by simpa using g1
    rw [this]
    simp
  · unfold goodDepsF at g2
   split at g2
   · simp only [Bool.and_eq_true] at g2
    obtain ⟨i1, i2⟩ := rising_in _ _ g2.1
    refine ⟨?_, fun n hn => by have := i1 n hn; omega⟩
    rcases i2 with i2 | i2
    · rw [i2]
     simp
    · omega
   · have : f.deps = [] := by simpa using g2
    rw [this]
    simp
  · unfold goodToldF at g3
   simp only [Bool.and_eq_true, decide_eq_true_eq] at g3
   obtain ⟨_, g4, g5⟩ := g3
   obtain ⟨i1, i2, i3⟩ := told_in _ _ _ g4 g5
   refine ⟨⟨?_, fun n hn => by have := i1 n hn; omega⟩, g4, fun n hn => by have := i2 n hn; omega⟩
   rcases i3 with i3 | i3
   · rw [i3]
    simp
   · omega
 · rw [if_neg h3] at h
  omega

theorem frame_put {f : FrameL} (h : goodL f = 0) (t : List UInt8) : (⟨encL f ++ t, false⟩ : Rd).frame = f ∧ (⟨encL f ++ t, false⟩ : Rd).end_ = ⟨t, false⟩ := by
 obtain ⟨hk, hn, hi, ⟨ho1, ho2⟩, ⟨hd1, hd2⟩, ⟨ha1, ha2⟩, hv1, hv2⟩ := good_in h
 obtain ⟨kind, node, id, ops, deps, ats, vals⟩ := f
 simp only at *
 have e : encL ⟨kind, node, id, ops, deps, ats, vals⟩ ++ t = byt kind :: byt node :: byt id :: byt ops.length :: (encOps ops ++ (byt deps.length :: (encNums deps ++ (byt ats.length :: (encTold ats vals ++ t))))) := by simp [encL]
 rw [e]
 generalize hr : (⟨byt kind :: byt node :: byt id :: byt ops.length :: (encOps ops ++ (byt deps.length :: (encNums deps ++ (byt ats.length :: (encTold ats vals ++ t))))), false⟩ : Rd) = r
 have q1 : r.r1 = ⟨byt ops.length :: (encOps ops ++ (byt deps.length :: (encNums deps ++ (byt ats.length :: (encTold ats vals ++ t))))), false⟩ := by rw [← hr]; rfl
 have q2 : r.o1 = (ops, ⟨byt deps.length :: (encNums deps ++ (byt ats.length :: (encTold ats vals ++ t))), false⟩) := by
  unfold Rd.o1
  rw [q1, Rd.one_put (by omega) (by omega), Rd.next_put, Int.toNat_natCast, Rd.ops_put _ _ ho2]
 have q3 : r.d1 = (deps, ⟨byt ats.length :: (encTold ats vals ++ t), false⟩) := by
  unfold Rd.d1
  rw [q2, Rd.one_put (by omega) (by omega), Rd.next_put, Int.toNat_natCast, Rd.nums_put _ _ hd2]
 have q4 : r.t1 = (ats, vals, ⟨t, false⟩) := by
  unfold Rd.t1
  rw [q3, Rd.one_put (by omega) (by omega), Rd.next_put, Int.toNat_natCast, Rd.told_put _ _ _ hv1 ha2 hv2]
 refine ⟨?_, by unfold Rd.end_; rw [q4]⟩
 unfold Rd.frame
 rw [q2, q3, q4, ← hr]
 simp only [Rd.next_put]
 rw [Rd.one_put (by omega) (by omega), Rd.one_put (by omega) (by omega), Rd.one_put (by omega) (by omega)]

/- Decode -/
def okL (s : List UInt8) : Bool := !((⟨s, false⟩ : Rd).end_.short || !(⟨s, false⟩ : Rd).end_.rest.isEmpty) && (goodL (⟨s, false⟩ : Rd).frame == 0)
def zeroF : FrameL := ⟨0, 0, 0, [], [], [], []⟩
def decL (s : List UInt8) : FrameL := if okL s = true then (⟨s, false⟩ : Rd).frame else zeroF
def decE (s : List UInt8) : Int := if okL s = true then 0 else 1

theorem ok_sound {s : List UInt8} (h : okL s = true) : goodL (decL s) = 0 ∧ encL (decL s) = s := by
 have hd : decL s = (⟨s, false⟩ : Rd).frame := by unfold decL; rw [if_pos h]
 unfold okL at h
 simp only [Bool.and_eq_true, Bool.not_eq_true', Bool.or_eq_false_iff, Bool.not_eq_false', List.isEmpty_iff, beq_iff_eq] at h
 obtain ⟨⟨h1, h2⟩, h3⟩ := h
 refine ⟨by rw [hd]; exact h3, ?_⟩
 obtain ⟨_, e⟩ := Rd.frame_sound h1
 rw [h2, List.append_nil] at e
 rw [hd]
 exact e.symm
theorem ok_put {f : FrameL} (h : goodL f = 0) : okL (encL f) = true ∧ decL (encL f) = f := by
 obtain ⟨e1, e2⟩ := frame_put h []
 rw [List.append_nil] at e1 e2
 have ho : okL (encL f) = true := by unfold okL; rw [e1, e2, h]; rfl
 exact ⟨ho, by unfold decL; rw [if_pos ho, e1]⟩
theorem ok_more {f : FrameL} (h : goodL f = 0) (c : UInt8) (t : List UInt8) : okL (encL f ++ c :: t) = false := by
 obtain ⟨e1, e2⟩ := frame_put h (c :: t)
 unfold okL
 rw [e1, e2]
 rfl
theorem ok_cut {f : FrameL} (h : goodL f = 0) {n : Nat} (hn : n < (encL f).length) : okL ((encL f).take n) = false := by
 cases ho : okL ((encL f).take n) with
 | false => rfl
 | true =>
  obtain ⟨g1, g2⟩ := ok_sound ho
  have h2 := List.take_append_drop n (encL f)
  have h3 : (encL f).drop n ≠ [] := by intro e; have := congrArg List.length e; simp at this; omega
  obtain ⟨c, t, e⟩ := List.exists_cons_of_ne_nil h3
  have h4 := ok_more g1 c t
  rw [g2, ← e, h2, (ok_put h).1] at h4
  cases h4

theorem encOps_len (zs : List OpL) : (encOps zs).length = 8 * zs.length := by
 induction zs with
 | nil => rfl
 | cons o zs ih => rw [encOps_cons, List.length_append, ih]; simp [six_len]; omega
theorem encTold_len : ∀ (xs vs : List Int), vs.length = xs.length → (encTold xs vs).length = 7 * xs.length
 | [], [], _ => rfl
 | [], _ :: _, h => by simp at h
 | _ :: _, [], h => by simp at h
 | a :: xs, v :: vs, h => by
  have := encTold_len xs vs (by simpa using h)
  simp [encTold, six_len, this]
  omega
theorem enc_len {f : FrameL} (h : goodL f = 0) : (encL f).length ≤ 98 ∧ 6 ≤ (encL f).length := by
 obtain ⟨hk, hn, hi, ⟨ho1, ho2⟩, ⟨hd1, hd2⟩, ⟨ha1, ha2⟩, hv1, hv2⟩ := good_in h
 unfold encL
 have e1 := encOps_len f.ops
 have e2 := encTold_len f.ats f.vals hv1
 simp [encNums, e1, e2]
 omega

end Go.Proofs.Ytgdkjjmnoikhdab

namespace Go.Proofs.Ytgdkjjmnoikhdab
open Go.RowKit

structure EntryL where
 state : Int
 ops : List OpL
 first : List Int
 deps : List Int
 ats : List Int
 vals : List Int
def zeroE : EntryL := ⟨0, [], [], [], [], []⟩
structure NodeL where
 ent : Nat → EntryL
 order : List Int
 vals : Nat → Int
def zeroN : NodeL := ⟨fun _ => zeroE, [], fun _ => 0⟩

/-- At rises, behind l, each below n. -/
def atsFrom : Int → Nat → List Int → Bool
 | _, _, [] => true
 | l, n, k :: r => decide (l < k) && decide (k < (n : Int)) && atsFrom k n r
/-- P5.1: a transaction that is not Nothing. -/
structure Fine (e : EntryL) (n : Nat) : Prop where
 st : 1 ≤ e.state ∧ e.state ≤ 3
 ops : goodOpsL e.ops = true
 first : risingFrom (-1) e.first = true ∧ hasL e.first n = false
 deps : risingFrom (-1) e.deps = true ∧ hasL e.deps n = false
 asked : e.state = 1 → e.deps = []
 told : e.state ≠ 3 → e.ats = []
 ats : atsFrom (-1) e.ops.length e.ats = true
 vals : e.vals.length = e.ats.length
/-- P5.1. -/
structure GoodN (s : NodeL) : Prop where
 ent : ∀ n : Nat, n < 32 → s.ent n = zeroE ∨ Fine (s.ent n) n
 cnt : ∀ n : Nat, n < 32 → s.order.count (n : Int) = if (s.ent n).state = 3 then 1 else 0
 lt : ∀ x ∈ s.order, 0 ≤ x ∧ x < 32

/-- P5.2: what stands ahead. -/
def NodeL.ahead (s : NodeL) (id : Nat) (ops : List OpL) (sh : Int) : List Int := unionTo (fun n => n != id && decide (0 < (s.ent n).state) && conflictL (s.ent n).ops ops sh) 32
/-- P5.3: the operations of a shard, from the i-th on: the values then, which told, and what. -/
def runOps (sh : Int) : Nat → List OpL → (Nat → Int) → (Nat → Int) × List Int × List Int
 | _, [], v => (v, [], [])
 | i, o :: r, v =>
  if o.2.1 % 2 == sh then ((runOps sh (i + 1) r (upd v o.2.1.toNat (doL (v o.2.1.toNat) o.1 o.2.2))).1, (i : Int) :: (runOps sh (i + 1) r (upd v o.2.1.toNat (doL (v o.2.1.toNat) o.1 o.2.2))).2.1,
   doL (v o.2.1.toNat) o.1 o.2.2 :: (runOps sh (i + 1) r (upd v o.2.1.toNat (doL (v o.2.1.toNat) o.1 o.2.2))).2.2)
  else runOps sh (i + 1) r v
def NodeL.exec (s : NodeL) (sh : Int) (n : Nat) : NodeL :=
 ⟨upd s.ent n ⟨3, (s.ent n).ops, (s.ent n).first, (s.ent n).deps, (runOps sh 0 (s.ent n).ops s.vals).2.1, (runOps sh 0 (s.ent n).ops s.vals).2.2⟩, s.order ++ [(n : Int)], (runOps sh 0 (s.ent n).ops s.vals).1⟩
def NodeL.execIf (sh : Int) (s : NodeL) (m : Nat) : NodeL := if (s.ent m).state = 2 then s.exec sh m else s
def NodeL.execs (s : NodeL) (sh : Int) (l : List Nat) : NodeL := l.foldl (NodeL.execIf sh) s
def NodeL.graph (s : NodeL) : GraphL := ⟨fun i => decide (2 ≤ (s.ent i).state), fun i => (s.ent i).deps⟩
def NodeL.round (g : GraphL) (sh : Int) (t : NodeL) (n : Nat) : NodeL := if (t.ent n).state = 2 then t.execs sh (orderI g n) else t
def NodeL.settle (s : NodeL) (sh : Int) : NodeL := (List.range 32).foldl (NodeL.round s.graph sh) s
def NodeL.heard (s : NodeL) (sh : Int) (f : FrameL) : NodeL := { s with ent := upd s.ent f.id.toNat ⟨1, f.ops, s.ahead f.id.toNat f.ops sh, [], [], []⟩ }
def NodeL.asked (s : NodeL) (sh : Int) (f : FrameL) : NodeL := if (s.ent f.id.toNat).state = 0 then s.heard sh f else s
def NodeL.placed (s : NodeL) (sh : Int) (f : FrameL) : NodeL :=
 { s with ent := upd s.ent f.id.toNat ⟨2, f.ops, if (s.ent f.id.toNat).state = 0 then s.ahead f.id.toNat f.ops sh else (s.ent f.id.toNat).first, f.deps, (s.ent f.id.toNat).ats, (s.ent f.id.toNat).vals⟩ }
def NodeL.commit (s : NodeL) (sh : Int) (f : FrameL) : NodeL := if (s.ent f.id.toNat).state < 2 then (s.placed sh f).settle sh else s
def NodeL.answers (s : NodeL) (sh who id : Int) : List FrameL :=
 ⟨4, who, id, [], [], [], []⟩ :: (if (s.ent id.toNat).state = 3 ∧ touchesL (s.ent id.toNat).ops sh = true then [⟨5, who, id, [], [], (s.ent id.toNat).ats, (s.ent id.toNat).vals⟩] else [])

/-! ### Nothing that was known is unknown then, nothing that was done is undone -/
structure Keeps (s t : NodeL) : Prop where
 state : ∀ n, (s.ent n).state ≤ (t.ent n).state
 first : ∀ n, (s.ent n).state ≠ 0 → (t.ent n).first = (s.ent n).first
 fixed : ∀ n, 2 ≤ (s.ent n).state → (t.ent n).deps = (s.ent n).deps ∧ (t.ent n).ops = (s.ent n).ops
 done : ∀ n, (s.ent n).state = 3 → t.ent n = s.ent n
 order : ∃ l, t.order = s.order ++ l
theorem Keeps.refl (s : NodeL) : Keeps s s := ⟨fun _ => Int.le_refl _, fun _ _ => rfl, fun _ _ => ⟨rfl, rfl⟩, fun _ _ => rfl, [], by simp⟩
theorem Keeps.trans {s t u : NodeL} (h : Keeps s t) (k : Keeps t u) (h0 : ∀ n, 0 ≤ (s.ent n).state) : Keeps s u := by
 refine ⟨fun n => Int.le_trans (h.state n) (k.state n), fun n hn => ?_, fun n hn => ?_, fun n hn => ?_, ?_⟩
 · rw [k.first n (by have := h.state n; have := h0 n; omega), h.first n hn]
 · obtain ⟨a, b⟩ := h.fixed n hn
  obtain ⟨c, d⟩ := k.fixed n (by have := h.state n; omega)
  exact ⟨c.trans a, d.trans b⟩
 · rw [k.done n (by rw [h.done n hn]; exact hn), h.done n hn]
 · obtain ⟨l, hl⟩ := h.order
  obtain ⟨m, hm⟩ := k.order
  exact ⟨l ++ m, by rw [hm, hl, List.append_assoc]⟩
theorem keeps_exec (s : NodeL) (sh : Int) (n : Nat) (h : (s.ent n).state = 2) : Keeps s (s.exec sh n) := by
 have same : (s.exec sh n).ent n = ⟨3, (s.ent n).ops, (s.ent n).first, (s.ent n).deps, _, _⟩ := upd_same _ _ _
 have other : ∀ m, m ≠ n → (s.exec sh n).ent m = s.ent m := fun m hm => upd_other _ _ hm
 refine ⟨fun m => ?_, fun m hm => ?_, fun m hm => ?_, fun m hm => ?_, [(n : Int)], rfl⟩
 · by_cases e : m = n
  · rw [e, same, h]; show (2 : Int) ≤ 3; decide
  · rw [other m e]; exact Int.le_refl _
 · by_cases e : m = n
  · rw [e, same]
  · rw [other m e]
 · by_cases e : m = n
  · rw [e, same]; exact ⟨rfl, rfl⟩
  · rw [other m e]; exact ⟨rfl, rfl⟩
 · by_cases e : m = n
  · rw [e, h] at hm; cases hm
  · exact other m e
theorem keeps_execIf (s : NodeL) (sh : Int) (n : Nat) : Keeps s (NodeL.execIf sh s n) := by
 unfold NodeL.execIf
 split
 · rename_i h; exact keeps_exec s sh n h
 · exact Keeps.refl s
theorem keeps_foldl {α : Type} (f : NodeL → α → NodeL) (hf : ∀ s a, Keeps s (f s a)) : ∀ (l : List α) (s : NodeL), (∀ n, 0 ≤ (s.ent n).state) → Keeps s (l.foldl f s)
 | [], s, _ => Keeps.refl s
 | a :: l, s, h0 => by
  have h1 := hf s a
  exact h1.trans (keeps_foldl f hf l (f s a) (fun n => Int.le_trans (h0 n) (h1.state n))) h0
theorem keeps_settle (s : NodeL) (sh : Int) (h0 : ∀ n, 0 ≤ (s.ent n).state) : Keeps s (s.settle sh) := by
 have : ∀ (l : List Nat) (t : NodeL), (∀ n, 0 ≤ (t.ent n).state) → Keeps t (l.foldl (NodeL.round s.graph sh) t) := by
  intro l
  induction l with
  | nil => exact fun t _ => Keeps.refl t
  | cons a l ih =>
   intro t ht
   have h1 : Keeps t (NodeL.round s.graph sh t a) := by
    unfold NodeL.round
    split
    · exact keeps_foldl _ (fun s a => keeps_execIf s sh a) _ _ ht
    · exact Keeps.refl t
   exact h1.trans (ih _ (fun n => Int.le_trans (ht n) (h1.state n))) ht
 exact this _ s h0
theorem heard_same (s : NodeL) (sh : Int) (f : FrameL) : (s.heard sh f).ent f.id.toNat = ⟨1, f.ops, s.ahead f.id.toNat f.ops sh, [], [], []⟩ := upd_same _ _ _
theorem heard_other (s : NodeL) (sh : Int) (f : FrameL) {m : Nat} (h : m ≠ f.id.toNat) : (s.heard sh f).ent m = s.ent m := upd_other _ _ h
theorem keeps_asked (s : NodeL) (sh : Int) (f : FrameL) : Keeps s (s.asked sh f) := by
 unfold NodeL.asked
 split
 · rename_i h
  refine ⟨fun m => ?_, fun m hm => ?_, fun m hm => ?_, fun m hm => ?_, [], by simp [NodeL.heard]⟩
  · by_cases e : m = f.id.toNat
   · subst e; rw [heard_same, h]; show (0 : Int) ≤ 1; decide
   · rw [heard_other s sh f e]; exact Int.le_refl _
  · by_cases e : m = f.id.toNat
   · subst e; exact absurd h hm
   · rw [heard_other s sh f e]
  · by_cases e : m = f.id.toNat
   · subst e; omega
   · rw [heard_other s sh f e]; exact ⟨rfl, rfl⟩
  · by_cases e : m = f.id.toNat
   · subst e; omega
   · exact heard_other s sh f e
 · exact Keeps.refl s
theorem placed_same (s : NodeL) (sh : Int) (f : FrameL) : (s.placed sh f).ent f.id.toNat = ⟨2, f.ops, if (s.ent f.id.toNat).state = 0 then s.ahead f.id.toNat f.ops sh else (s.ent f.id.toNat).first, f.deps, (s.ent f.id.toNat).ats, (s.ent f.id.toNat).vals⟩ := upd_same _ _ _
theorem keeps_placed (s : NodeL) (sh : Int) (f : FrameL) (h : (s.ent f.id.toNat).state < 2) : Keeps s (s.placed sh f) := by
 have same : (s.placed sh f).ent f.id.toNat = ⟨2, f.ops, if (s.ent f.id.toNat).state = 0 then s.ahead f.id.toNat f.ops sh else (s.ent f.id.toNat).first, f.deps, (s.ent f.id.toNat).ats, (s.ent f.id.toNat).vals⟩ := upd_same _ _ _
 have other : ∀ m, m ≠ f.id.toNat → (s.placed sh f).ent m = s.ent m := fun m hm => upd_other _ _ hm
 refine ⟨fun m => ?_, fun m hm => ?_, fun m hm => ?_, fun m hm => ?_, [], by simp [NodeL.placed]⟩
 · by_cases e : m = f.id.toNat
  · subst e; rw [same]; show _ ≤ (2 : Int); omega
  · rw [other m e]; exact Int.le_refl _
 · by_cases e : m = f.id.toNat
  · subst e; rw [same]; show (if _ then _ else _) = _; rw [if_neg hm]
  · rw [other m e]
 · by_cases e : m = f.id.toNat
  · subst e; omega
  · rw [other m e]; exact ⟨rfl, rfl⟩
 · by_cases e : m = f.id.toNat
  · subst e; omega
  · exact other m e
theorem keeps_commit (s : NodeL) (sh : Int) (f : FrameL) (h0 : ∀ n, 0 ≤ (s.ent n).state) : Keeps s (s.commit sh f) := by
 unfold NodeL.commit
 split
 · rename_i h
  have h1 := keeps_placed s sh f h
  exact h1.trans (keeps_settle _ sh (fun n => Int.le_trans (h0 n) (h1.state n))) h0
 · exact Keeps.refl s

/-! ### What comes twice is taken once -/
theorem asked_twice (s : NodeL) (sh : Int) (f : FrameL) : (s.asked sh f).asked sh f = s.asked sh f := by
 have h : ((s.asked sh f).ent f.id.toNat).state ≠ 0 := by
  unfold NodeL.asked
  split
  · rw [heard_same]; show (1 : Int) ≠ 0; decide
  · rename_i h; exact h
 generalize s.asked sh f = t at h
 unfold NodeL.asked
 rw [if_neg h]
theorem commit_twice (s : NodeL) (sh : Int) (f : FrameL) (h0 : ∀ n, 0 ≤ (s.ent n).state) : (s.commit sh f).commit sh f = s.commit sh f := by
 have h : ¬ ((s.commit sh f).ent f.id.toNat).state < 2 := by
  unfold NodeL.commit
  split
  · rename_i h
   have h1 := keeps_placed s sh f h
   have h2 := (keeps_settle (s.placed sh f) sh (fun n => Int.le_trans (h0 n) (h1.state n))).state f.id.toNat
   have e : ((s.placed sh f).ent f.id.toNat).state = 2 := by rw [placed_same]
   omega
  · rename_i h; exact h
 generalize s.commit sh f = t at h
 unfold NodeL.commit
 rw [if_neg h]

end Go.Proofs.Ytgdkjjmnoikhdab

namespace Go.Proofs.Ytgdkjjmnoikhdab
open Go.RowKit

theorem rises_map (xs : List Nat) : ∀ (l : Int), (∀ x ∈ xs, l < (x : Int) ∧ x < 32) → xs.Pairwise (· < ·) → risingFrom l (xs.map Int.ofNat) = true := by
 induction xs with
 | nil => intros; rfl
 | cons x r ih =>
  intro l h hp
  have hx := h x (by simp)
  obtain ⟨h1, h2⟩ := List.pairwise_cons.1 hp
  rw [List.map_cons, risingFrom, ih (Int.ofNat x) (fun y hy => ⟨by have := h1 y hy; simp; omega, (h y (by simp [hy])).2⟩) h2]
  have e1 : decide (Int.ofNat x ≤ l) = false := by simp; omega
  have e2 : decide (32 ≤ Int.ofNat x) = false := by simp; omega
  rw [e1, e2]
  rfl
theorem ahead_rises (s : NodeL) (id : Nat) (ops : List OpL) (sh : Int) : risingFrom (-1) (s.ahead id ops sh) = true := by
 unfold NodeL.ahead unionTo
 refine rises_map _ _ (fun x hx => ?_) (List.Pairwise.filter _ List.pairwise_lt_range)
 have := List.mem_range.1 (List.mem_filter.1 hx).1
 omega
theorem ahead_not (s : NodeL) (id : Nat) (ops : List OpL) (sh : Int) : hasL (s.ahead id ops sh) id = false := by
 unfold hasL
 rw [List.any_eq_false]
 intro x hx he
 unfold NodeL.ahead unionTo at hx
 rw [List.mem_map] at hx
 obtain ⟨y, hy, rfl⟩ := hx
 have h1 := (List.mem_filter.1 hy).2
 unfold eqB at he
 have : y = id := by
  have h2 : ((y : Nat) : Int) = (id : Int) := by simpa using he
  omega
 subst this
 simp at h1

theorem run_ats (sh : Int) : ∀ (ops : List OpL) (i : Nat) (v : Nat → Int) (l : Int) (N : Nat), l < (i : Int) → i + ops.length ≤ N → atsFrom l N (runOps sh i ops v).2.1 = true
 | [], _, _, _, _, _, _ => rfl
 | o :: r, i, v, l, N, h1, h2 => by
  simp only [List.length_cons] at h2
  unfold runOps
  split
  · show (decide (l < (i : Int)) && decide ((i : Int) < (N : Int)) && atsFrom (i : Int) N _) = true
   rw [decide_eq_true h1, decide_eq_true (show (i : Int) < (N : Int) by omega), run_ats sh r (i + 1) _ (i : Int) N (by omega) (by omega)]
   rfl
  · exact run_ats sh r (i + 1) v l N (by omega) (by omega)
theorem run_len (sh : Int) : ∀ (ops : List OpL) (i : Nat) (v : Nat → Int), (runOps sh i ops v).2.2.length = (runOps sh i ops v).2.1.length
 | [], _, _ => rfl
 | o :: r, i, v => by
  unfold runOps
  split
  · simp only [List.length_cons, run_len sh r (i + 1)]
  · exact run_len sh r (i + 1) v

theorem three_ok : (1 : Int) ≤ 3 ∧ (3 : Int) ≤ 3 := by decide
theorem two_okN : (1 : Int) ≤ 2 ∧ (2 : Int) ≤ 3 := by decide
theorem one_ok : (1 : Int) ≤ 1 ∧ (1 : Int) ≤ 3 := by decide
theorem GoodN.fine {s : NodeL} (h : GoodN s) {n : Nat} (hn : n < 32) (hs : (s.ent n).state ≠ 0) : Fine (s.ent n) n := by
 rcases h.ent n hn with e | e
 · rw [e] at hs; exact absurd rfl hs
 · exact e
theorem GoodN.state {s : NodeL} (h : GoodN s) {n : Nat} (hn : n < 32) : 0 ≤ (s.ent n).state ∧ (s.ent n).state ≤ 3 := by
 rcases h.ent n hn with e | e
 · rw [e]; decide
 · have := e.st; omega
theorem good_exec {s : NodeL} (h : GoodN s) (sh : Int) {n : Nat} (hn : n < 32) (hs : (s.ent n).state = 2) : GoodN (s.exec sh n) := by
 have F := h.fine hn (by rw [hs]; decide)
 have same : (s.exec sh n).ent n = ⟨3, (s.ent n).ops, (s.ent n).first, (s.ent n).deps, (runOps sh 0 (s.ent n).ops s.vals).2.1, (runOps sh 0 (s.ent n).ops s.vals).2.2⟩ := upd_same _ _ _
 have other : ∀ m, m ≠ n → (s.exec sh n).ent m = s.ent m := fun m hm => upd_other _ _ hm
 refine ⟨fun m hm => ?_, fun m hm => ?_, fun x hx => ?_⟩
 · by_cases e : m = n
  · subst e
   right
   rw [same]
   exact ⟨three_ok, F.ops, F.first, F.deps, fun h => absurd (show (3 : Int) = 1 from h) (by decide), fun h => absurd rfl h, run_ats sh (s.ent m).ops 0 s.vals (-1) (s.ent m).ops.length (by omega) (by omega), run_len sh _ _ _⟩
  · rw [other m e]; exact h.ent m hm
 · have h1 := h.cnt m hm
  show (s.order ++ [(n : Int)]).count (m : Int) = _
  rw [List.count_append, h1]
  by_cases e : m = n
  · subst e
   rw [same, hs]
   simp
  · rw [other m e]
   have : List.count (m : Int) [(n : Int)] = 0 := by
    rw [List.count_eq_zero]
    simp
    omega
   rw [this]
   rfl
 · rcases List.mem_append.1 hx with hx | hx
  · exact h.lt x hx
  · simp at hx
   omega
theorem good_execs (sh : Int) : ∀ (l : List Nat) {s : NodeL}, (∀ x ∈ l, x < 32) → GoodN s → GoodN (s.execs sh l)
 | [], _, _, h => h
 | a :: l, s, hl, h => by
  have h1 : GoodN (NodeL.execIf sh s a) := by
   unfold NodeL.execIf
   split
   · rename_i e; exact good_exec h sh (hl a (by simp)) e
   · exact h
  exact good_execs (s := NodeL.execIf sh s a) sh l (fun x hx => hl x (by simp [hx])) h1
theorem order_below (g : GraphL) (n : Int) : ∀ x ∈ orderI g n, x < 32 := by
 intro x hx
 unfold orderI at hx
 split at hx
 · exact (placed_at _ _ 32).lt x hx
 · simp at hx
theorem good_settle {s : NodeL} (h : GoodN s) (sh : Int) : GoodN (s.settle sh) := by
 have : ∀ (l : List Nat) (t : NodeL), GoodN t → GoodN (l.foldl (NodeL.round s.graph sh) t) := by
  intro l
  induction l with
  | nil => exact fun t ht => ht
  | cons a l ih =>
   intro t ht
   refine ih _ ?_
   unfold NodeL.round
   split
   · exact good_execs (s := t) sh _ (order_below _ _) ht
   · exact ht
 exact this _ s h

/-- What a good frame has, of the two kinds that a node takes. -/
theorem frame_has {f : FrameL} (h : goodL f = 0) : 0 ≤ f.id ∧ f.id < 32 ∧ ((f.kind = 1 ∨ f.kind = 3) → goodOpsL f.ops = true) ∧ (f.kind = 3 → risingFrom (-1) f.deps = true ∧ hasL f.deps f.id = false) := by
 unfold goodL at h
 split at h
 · cases h
 · split at h
  · cases h
  · rename_i h2
   split at h
   · rename_i h3
    rw [Bool.and_eq_true, Bool.and_eq_true] at h3
    refine ⟨by omega, by omega, fun hk => ?_, fun hk => ?_⟩
    · have := h3.1
     unfold goodOpsF at this
     rw [if_pos hk] at this
     exact this
    · have := h3.2.1
     unfold goodDepsF at this
     rw [if_pos (Or.inr hk), Bool.and_eq_true] at this
     exact ⟨this.1, by simpa using this.2⟩
   · cases h
theorem good_asked {s : NodeL} (h : GoodN s) (sh : Int) {f : FrameL} (hf : goodL f = 0) (hk : f.kind = 1) : GoodN (s.asked sh f) := by
 obtain ⟨i1, i2, i3, _⟩ := frame_has hf
 unfold NodeL.asked
 split
 · rename_i e0
  refine ⟨fun m hm => ?_, fun m hm => ?_, h.lt⟩
  · by_cases e : m = f.id.toNat
   · subst e
    right
    rw [heard_same]
    exact ⟨one_ok, i3 (Or.inl hk), ⟨ahead_rises _ _ _ _, ahead_not _ _ _ _⟩, ⟨rfl, rfl⟩, fun _ => rfl, fun _ => rfl, rfl, rfl⟩
   · rw [heard_other s sh f e]; exact h.ent m hm
  · have h1 := h.cnt m hm
   show s.order.count (m : Int) = _
   rw [h1]
   by_cases e : m = f.id.toNat
   · subst e
    rw [heard_same, e0]
    rfl
   · rw [heard_other s sh f e]
 · exact h
theorem good_placed {s : NodeL} (h : GoodN s) (sh : Int) {f : FrameL} (hf : goodL f = 0) (hk : f.kind = 3) (hs : (s.ent f.id.toNat).state < 2) : GoodN (s.placed sh f) := by
 obtain ⟨i1, i2, i3, i4⟩ := frame_has hf
 have hid : ((f.id.toNat : Nat) : Int) = f.id := by omega
 have hlt : f.id.toNat < 32 := by omega
 have other : ∀ m, m ≠ f.id.toNat → (s.placed sh f).ent m = s.ent m := fun m hm => upd_other _ _ hm
 have hats : (s.ent f.id.toNat).ats = [] ∧ (s.ent f.id.toNat).vals = [] := by
  rcases h.ent _ hlt with e | e
  · rw [e]; exact ⟨rfl, rfl⟩
  · have h1 := e.told (by omega)
   exact ⟨h1, List.eq_nil_of_length_eq_zero (by rw [e.vals, h1]; rfl)⟩
 refine ⟨fun m hm => ?_, fun m hm => ?_, h.lt⟩
 · by_cases e : m = f.id.toNat
  · subst e
   right
   rw [placed_same, hats.1, hats.2]
   have hfi : risingFrom (-1) (if (s.ent f.id.toNat).state = 0 then s.ahead f.id.toNat f.ops sh else (s.ent f.id.toNat).first) = true ∧ hasL (if (s.ent f.id.toNat).state = 0 then s.ahead f.id.toNat f.ops sh else (s.ent f.id.toNat).first) ((f.id.toNat : Nat) : Int) = false := by
    split
    · exact ⟨ahead_rises _ _ _ _, ahead_not _ _ _ _⟩
    · rename_i e0
     exact (h.fine hlt e0).first
   have hdp : risingFrom (-1) f.deps = true ∧ hasL f.deps ((f.id.toNat : Nat) : Int) = false := by rw [hid]; exact i4 hk
   exact ⟨two_okN, i3 (Or.inr hk), hfi, hdp, fun h => absurd (show (2 : Int) = 1 from h) (by decide), fun _ => rfl, rfl, rfl⟩
  · rw [other m e]; exact h.ent m hm
 · have h1 := h.cnt m hm
  show s.order.count (m : Int) = _
  rw [h1]
  by_cases e : m = f.id.toNat
  · subst e
   rw [placed_same, if_neg (by omega)]
   rfl
  · rw [other m e]
theorem good_commit {s : NodeL} (h : GoodN s) (sh : Int) {f : FrameL} (hf : goodL f = 0) (hk : f.kind = 3) : GoodN (s.commit sh f) := by
 unfold NodeL.commit
 split
 · rename_i e; exact good_settle (good_placed h sh hf hk e) sh
 · exact h
theorem good_zero : GoodN zeroN := ⟨fun _ _ => Or.inl rfl, fun _ _ => rfl, by simp [zeroN]⟩

end Go.Proofs.Ytgdkjjmnoikhdab

namespace Go.Proofs.Ytgdkjjmnoikhdab
open Go.RowKit

/-- What comes to be known of m. -/
def GraphL.learn (g : GraphL) (m : Nat) (zs : List Int) : GraphL := ⟨upd g.known m true, upd g.deps m zs⟩
theorem learn_adj {g : GraphL} {m : Nat} {zs : List Int} {x : Nat} (hx : x ≠ m) (y : Nat) : (g.learn m zs).adj x y = g.adj x y := by
 unfold GraphL.adj GraphL.learn
 simp only [upd_other _ _ hx]
theorem hangs_learn {g : GraphL} {m : Nat} {zs : List Int} {x y : Nat} (h : Hangs g.adj x y) (hm : ¬ Hangs g.adj x m) : Hangs (g.learn m zs).adj x y := by
 induction h using Hangs.ind with
 | refl => exact .refl _
 | step a h ih =>
  rename_i x z y
  have hx : x ≠ m := fun e => hm (e ▸ .refl _)
  exact .step (by rw [learn_adj hx]; exact a) (ih (fun h => hm (.step a h)))
theorem hangs_unlearn {g : GraphL} {m : Nat} {zs : List Int} {x y : Nat} (h : Hangs (g.learn m zs).adj x y) (hm : ¬ Hangs g.adj x m) : Hangs g.adj x y := by
 induction h using Hangs.ind with
 | refl => exact .refl _
 | step a h ih =>
  rename_i x z y
  have hx : x ≠ m := fun e => hm (e ▸ .refl _)
  rw [learn_adj hx] at a
  exact .step a (ih (fun h => hm (.step a h)))
theorem learn_row {g : GraphL} {m : Nat} {zs : List Int} {x : Nat} (hx : x < 32) (hm : hangB g x m = false) (y : Nat) : hangB g x y = hangB (g.learn m zs) x y := by
 have hm' : ¬ Hangs g.adj x m := fun h => by rw [(hangB_iff g hx m).2 h] at hm; cases hm
 rw [Bool.eq_iff_iff, hangB_iff g hx y, hangB_iff (g.learn m zs) hx y]
 exact ⟨fun h => hangs_learn h hm', fun h => hangs_unlearn h hm'⟩
/-- Whatever comes to be known of what n does not hang on, n is ready, and its order stays. -/
theorem stays_math {g : GraphL} {n m : Nat} {zs : List Int} (hn : n < 32) (hr : knowsB g (hangB g n) 32 = true) (hm : hangB g n m = false) :
  knowsB (g.learn m zs) (hangB (g.learn m zs) n) 32 = true ∧ orderNat (g.learn m zs) n = orderNat g n := by
 have rows : ∀ x, hangB g n x = true → ∀ y, y < 32 → hangB g x y = hangB (g.learn m zs) x y := by
  intro x hx y _
  have hc := clo_hang g hn
  refine learn_row (hc.lt x hx) ?_ y
  cases hxm : hangB g x m
  · rfl
  · rw [hc.closed x m hx hxm] at hm; cases hm
 refine ⟨knowsB_iff.2 fun i hi h => ?_, ?_⟩
 · rw [← learn_row hn hm] at h
  have := knowsB_iff.1 hr i hi h
  show upd g.known m true i = true
  unfold upd
  split
  · rfl
  · exact this
 · rw [order_spec g hn, order_spec _ hn]
  exact (outS_congr (clo_hang g hn) (fun x _ => learn_row hn hm x) rows 32).symm

end Go.Proofs.Ytgdkjjmnoikhdab

namespace Go.Proofs.Ytgdkjjmnoikhdab
open Go.RowKit

def NodeL.did (s : NodeL) : List Nat := s.order.map Int.toNat
theorem did_iff {s : NodeL} (h : GoodN s) {n : Nat} (hn : n < 32) : n ∈ s.did ↔ (s.ent n).state = 3 := by
 have h1 := h.cnt n hn
 unfold NodeL.did
 rw [List.mem_map]
 constructor
 · rintro ⟨x, hx, e⟩
  have := h.lt x hx
  have ex : x = (n : Int) := by omega
  subst ex
  have : 0 < s.order.count (n : Int) := List.count_pos_iff.2 hx
  split at h1
  · assumption
  · omega
 · intro hs
  rw [if_pos hs] at h1
  exact ⟨(n : Int), List.count_pos_iff.1 (by omega), by simp⟩

/-- What a node has executed: sorted, and all that it hangs on is known. -/
structure SortN (s : NodeL) : Prop where
 sorted : Sorted (hangB s.graph) s.did
 ready : ∀ x ∈ s.did, ∀ d, d < 32 → hangB s.graph x d = true → s.graph.known d = true

theorem graph_exec (s : NodeL) (sh : Int) (n : Nat) (h : (s.ent n).state = 2) : (s.exec sh n).graph = s.graph := by
 have same : (s.exec sh n).ent n = ⟨3, (s.ent n).ops, (s.ent n).first, (s.ent n).deps, _, _⟩ := upd_same _ _ _
 have other : ∀ m, m ≠ n → (s.exec sh n).ent m = s.ent m := fun m hm => upd_other _ _ hm
 have e1 : (fun i => decide (2 ≤ ((s.exec sh n).ent i).state)) = fun i => decide (2 ≤ (s.ent i).state) := by
  funext i
  by_cases e : i = n
  · rw [e, same, h]; rfl
  · rw [other i e]
 have e2 : (fun i => ((s.exec sh n).ent i).deps) = fun i => (s.ent i).deps := by
  funext i
  by_cases e : i = n
  · rw [e, same]
  · rw [other i e]
 unfold NodeL.graph
 rw [e1, e2]

/-- A list is executed: those of it that are Committed, in its order. -/
theorem did_execs (sh : Int) : ∀ (l : List Nat) (s : NodeL), l.Nodup → (s.execs sh l).did = s.did ++ l.filter (fun x => decide ((s.ent x).state = 2)) ∧ (s.execs sh l).graph = s.graph ∧ ∀ x, x ∉ l → (s.execs sh l).ent x = s.ent x
 | [], s, _ => ⟨by simp [NodeL.execs], rfl, fun _ _ => rfl⟩
 | a :: l, s, hd => by
  rw [List.nodup_cons] at hd
  obtain ⟨i1, i2, i3⟩ := did_execs sh l (NodeL.execIf sh s a) hd.2
  have e0 : s.execs sh (a :: l) = (NodeL.execIf sh s a).execs sh l := rfl
  rw [e0, i1, i2]
  by_cases h : (s.ent a).state = 2
  · have e1 : NodeL.execIf sh s a = s.exec sh a := by unfold NodeL.execIf; rw [if_pos h]
   have other : ∀ m, m ≠ a → (s.exec sh a).ent m = s.ent m := fun m hm => upd_other _ _ hm
   rw [e1] at i3 ⊢
   refine ⟨?_, graph_exec s sh a h, fun x hx => ?_⟩
   · have hf : l.filter (fun x => decide (((s.exec sh a).ent x).state = 2)) = l.filter (fun x => decide ((s.ent x).state = 2)) := List.filter_congr fun x hx => by rw [other x (fun e => hd.1 (e ▸ hx))]
    rw [hf, List.filter_cons_of_pos (by simpa using h)]
    unfold NodeL.did NodeL.exec
    simp
   · rw [i3 x (fun h => hx (by simp [h])), other x (fun e => hx (by simp [e]))]
  · have e1 : NodeL.execIf sh s a = s := by unfold NodeL.execIf; rw [if_neg h]
   rw [e1] at i3 ⊢
   refine ⟨by rw [List.filter_cons_of_neg (by simpa using h)], rfl, fun x hx => i3 x (fun h => hx (by simp [h]))⟩

theorem sort_execs {s : NodeL} (h : GoodN s) (S : SortN s) (sh : Int) {n : Nat} (hn : n < 32) : SortN (s.execs sh (orderI s.graph n)) ∧ (s.execs sh (orderI s.graph n)).graph = s.graph := by
 cases hr : readyI s.graph (n : Int)
 · have : orderI s.graph (n : Int) = [] := by unfold orderI; rw [hr]; rfl
  rw [this]
  exact ⟨S, rfl⟩
 · have hc := clo_hang s.graph hn
  have eo : orderI s.graph (n : Int) = outS (hangB s.graph) (hangB s.graph n) 32 := by unfold orderI; rw [hr, ← order_spec s.graph hn]; rfl
  have hk : ∀ i, i < 32 → hangB s.graph n i = true → s.graph.known i = true := by
   have h1 := hr
   unfold readyI at h1
   rw [Bool.and_eq_true] at h1
   exact knowsB_iff.1 h1.2
  have L := laid_at hc 32
  obtain ⟨e1, e2, _⟩ := did_execs sh (orderI s.graph (n : Int)) s (by rw [eo]; exact L.nodup)
  refine ⟨?_, e2⟩
  have hf : (orderI s.graph (n : Int)).filter (fun x => decide ((s.ent x).state = 2)) = (outS (hangB s.graph) (hangB s.graph n) 32).filter fun x => !s.did.contains x := by
   rw [eo]
   refine List.filter_congr fun x hx => ?_
   have hd := L.inD x hx
   have hx32 := hc.lt x hd
   have h2 : 2 ≤ (s.ent x).state := by simpa [NodeL.graph] using hk x hx32 hd
   have h3 := (h.state hx32).2
   have h4 := did_iff h hx32
   rw [Bool.eq_iff_iff]
   simp only [decide_eq_true_iff, Bool.not_eq_true', List.contains_eq_mem, decide_eq_false_iff_not]
   constructor
   · intro h5 h6
    have := h4.1 h6
    omega
   · intro h5
    have : (s.ent x).state ≠ 3 := fun e => h5 (h4.2 e)
    omega
  rw [hf] at e1
  refine ⟨by rw [e1, e2]; exact sorted_more hc S.sorted, fun x hx d hd hxd => ?_⟩
  rw [e2] at hxd ⊢
  rw [e1] at hx
  rcases List.mem_append.1 hx with hx | hx
  · exact S.ready x hx d hd hxd
  · have hdx := L.inD x (List.mem_filter.1 hx).1
   exact hk d hd (hc.closed x d hdx hxd)

theorem sort_settle {s : NodeL} (h : GoodN s) (S : SortN s) (sh : Int) : SortN (s.settle sh) := by
 have : ∀ (l : List Nat) (t : NodeL), (∀ x ∈ l, x < 32) → GoodN t → SortN t → t.graph = s.graph → SortN (l.foldl (NodeL.round s.graph sh) t) := by
  intro l
  induction l with
  | nil => exact fun t _ _ ht _ => ht
  | cons a l ih =>
   intro t hl hg hS he
   have ha := hl a (by simp)
   have h1 : GoodN (NodeL.round s.graph sh t a) ∧ SortN (NodeL.round s.graph sh t a) ∧ (NodeL.round s.graph sh t a).graph = s.graph := by
    unfold NodeL.round
    split
    · rw [← he]
     obtain ⟨k1, k2⟩ := sort_execs hg hS sh ha
     exact ⟨good_execs sh _ (order_below _ _) hg, k1, k2⟩
    · exact ⟨hg, hS, he⟩
   exact ih _ (fun x hx => hl x (by simp [hx])) h1.1 h1.2.1 h1.2.2
 exact this _ s (fun x hx => List.mem_range.1 hx) h S rfl

theorem graph_asked {s : NodeL} (h : GoodN s) (sh : Int) {f : FrameL} (hf : goodL f = 0) : (s.asked sh f).graph = s.graph := by
 obtain ⟨i1, i2, _, _⟩ := frame_has hf
 unfold NodeL.asked
 split
 · rename_i e0
  have hz : s.ent f.id.toNat = zeroE := by
   rcases h.ent f.id.toNat (by omega) with e | e
   · exact e
   · have := e.st; omega
  have e1 : (fun i => decide (2 ≤ ((s.heard sh f).ent i).state)) = fun i => decide (2 ≤ (s.ent i).state) := by
   funext i
   by_cases e : i = f.id.toNat
   · rw [e, heard_same, hz]; rfl
   · rw [heard_other s sh f e]
  have e2 : (fun i => ((s.heard sh f).ent i).deps) = fun i => (s.ent i).deps := by
   funext i
   by_cases e : i = f.id.toNat
   · rw [e, heard_same, hz]; rfl
   · rw [heard_other s sh f e]
  unfold NodeL.graph
  rw [e1, e2]
 · rfl
theorem did_asked (s : NodeL) (sh : Int) (f : FrameL) : (s.asked sh f).did = s.did := by
 unfold NodeL.asked
 split <;> rfl
theorem sort_asked {s : NodeL} (h : GoodN s) (S : SortN s) (sh : Int) {f : FrameL} (hf : goodL f = 0) : SortN (s.asked sh f) := by
 refine ⟨?_, ?_⟩
 · rw [graph_asked h sh hf, did_asked]; exact S.sorted
 · rw [graph_asked h sh hf, did_asked]; exact S.ready
theorem graph_placed (s : NodeL) (sh : Int) (f : FrameL) : (s.placed sh f).graph = s.graph.learn f.id.toNat f.deps := by
 have other : ∀ m, m ≠ f.id.toNat → (s.placed sh f).ent m = s.ent m := fun m hm => upd_other _ _ hm
 have e1 : (fun i => decide (2 ≤ ((s.placed sh f).ent i).state)) = upd (fun i => decide (2 ≤ (s.ent i).state)) f.id.toNat true := by
  funext i
  by_cases e : i = f.id.toNat
  · rw [e, placed_same, upd_same]; rfl
  · rw [other i e, upd_other _ _ e]
 have e2 : (fun i => ((s.placed sh f).ent i).deps) = upd (fun i => (s.ent i).deps) f.id.toNat f.deps := by
  funext i
  by_cases e : i = f.id.toNat
  · rw [e, placed_same, upd_same]
  · rw [other i e, upd_other _ _ e]
 unfold NodeL.graph GraphL.learn
 rw [e1, e2]
theorem sort_placed {s : NodeL} (S : SortN s) (sh : Int) {f : FrameL} (hf : goodL f = 0) (hs : (s.ent f.id.toNat).state < 2) : SortN (s.placed sh f) := by
 obtain ⟨i1, i2, _, _⟩ := frame_has hf
 have hid : f.id.toNat < 32 := by omega
 have hunk : s.graph.known f.id.toNat = false := by
  show decide (2 ≤ (s.ent f.id.toNat).state) = false
  exact decide_eq_false (by omega)
 have hno : ∀ x ∈ s.did, hangB s.graph x f.id.toNat = false := by
  intro x hx
  cases hh : hangB s.graph x f.id.toNat
  · rfl
  · rw [S.ready x hx _ hid hh] at hunk; cases hunk
 have hrow : ∀ x ∈ s.did, ∀ y, y < 32 → hangB s.graph x y = hangB (s.graph.learn f.id.toNat f.deps) x y := fun x hx y _ => learn_row (S.sorted.lt x hx) (hno x hx) y
 have ed : (s.placed sh f).did = s.did := rfl
 refine ⟨by rw [graph_placed, ed]; exact S.sorted.later hrow, fun x hx d hd hxd => ?_⟩
 rw [graph_placed] at hxd ⊢
 rw [ed] at hx
 rw [← hrow x hx d hd] at hxd
 have := S.ready x hx d hd hxd
 show upd s.graph.known f.id.toNat true d = true
 unfold upd
 split
 · rfl
 · exact this
theorem sort_commit {s : NodeL} (h : GoodN s) (S : SortN s) (sh : Int) {f : FrameL} (hf : goodL f = 0) (hk : f.kind = 3) : SortN (s.commit sh f) := by
 unfold NodeL.commit
 split
 · rename_i e; exact sort_settle (good_placed h sh hf hk e) (sort_placed S sh hf e) sh
 · exact S
theorem sort_zero : SortN zeroN := ⟨sorted_nil _, by simp [zeroN, NodeL.did]⟩

end Go.Proofs.Ytgdkjjmnoikhdab
