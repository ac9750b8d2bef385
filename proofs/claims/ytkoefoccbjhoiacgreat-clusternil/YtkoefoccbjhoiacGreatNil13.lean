/-
  The contracts of the document's own SameCase (of cases that are alike; against nothing) and IsCase.
  What a cluster that is no cluster answers; the walk of ClusterNil.
-/
import Derived.Test.YtkoefoccbjhoiacGreatNil11
import Derived.Test.YtkoefoccbjhoiacGreatNil12
namespace Go.Proofs.YtkoefoccbjhoiacGreat
open Go.RowKit

/-- Alike, as far as a case goes. -/
structure AlikeC (c e : CaseL) : Prop where
  begun : c.begun = e.begun
  fixed : c.fixed = e.fixed
  ops : c.ops = e.ops
  told : ∀ i, i < 6 → c.told i = e.told i
  known : ∀ i, i < 6 → c.known i = e.known i
  deps : c.deps = e.deps
  has : ∀ i, i < 4 → c.has i = e.has i
  vals : ∀ i, i < 4 → c.vals i = e.vals i
theorem AlikeC.refl (c : CaseL) : AlikeC c c := ⟨rfl, rfl, rfl, fun _ _ => rfl, fun _ _ => rfl, rfl, fun _ _ => rfl, fun _ _ => rfl⟩
set_option maxRecDepth 100000 in
set_option maxHeartbeats 400000 in
theorem sameNumbers_empty (a : Option Addr) (cap : Nat) (zs : List Int) (b : Option Addr) (cap' : Nat) (w : World) (h : SlInts w a cap zs) :
    Calls Tryz.prog 45 #[.slice a zs.length cap, .slice b 0 cap'] w fun e w' => e = .returned (.bool zs.isEmpty) ∧ Below w.heap.size w w' := by
  cases zs with
  | nil => exact sameNumbers_any a cap [] b cap' w h.2.1 h.1 (Or.inl rfl)
  | cons z r =>
    have hl := h.2.1
    unfold maxLen at hl
    have hne : (((z :: r).length : Int) != 0) = true := by simp; omega
    have E : Hid ((z :: r).isEmpty = false) := rfl
    generalize z :: r = l at *
    go_enter Tryz.func45, Tryz.ntmps45
    go_wp2
    go_ret
    exact ⟨ret_bool E.out.symm, Below.refl _ _⟩
set_option maxRecDepth 100000 in
set_option maxHeartbeats 400000 in
theorem sameOps_empty (a : Option Addr) (cap : Nat) (zs : List OpL) (b : Option Addr) (cap' : Nat) (w : World) (h : SlOps w a cap zs) :
    Calls Tryz.prog 52 #[.slice a zs.length cap, .slice b 0 cap'] w fun e w' => e = .returned (.bool zs.isEmpty) ∧ Below w.heap.size w w' := by
  cases zs with
  | nil => exact ref_sameOps_any a cap [] b cap' w h.2.1 h.1 (Or.inl rfl)
  | cons z r =>
    have hl := h.2.1
    unfold maxLen at hl
    have hne : (((z :: r).length : Int) != 0) = true := by simp; omega
    have E : Hid ((z :: r).isEmpty = false) := rfl
    generalize z :: r = l at *
    go_enter Tryz.func52, Tryz.ntmps52
    go_wp2
    go_ret
    exact ⟨ret_bool E.out.symm, Below.refl _ _⟩

set_option maxRecDepth 100000 in
set_option maxHeartbeats 2000000 in
theorem sameZ_0 (gr : Array Value) (c : CaseL) (hr : Array Value) (e : CaseL) (w : World) (h : CaseV w gr c) (h' : CaseV w hr e) (he : e = zeroC) (tb : c.begun = false) (tf : c.fixed = true) :
    Calls Tryz.prog 19 #[.agg gr, .agg hr] w fun r w' => r = .returned (.bool false) ∧ Below w.heap.size w w' := by
  have HE : Hid (e.begun = false ∧ e.fixed = false ∧ e.ops = [] ∧ e.deps = []) := by rw [he]; exact ⟨rfl, rfl, rfl, rfl⟩
  have Htb : Hid (c.begun = false) := tb
  have Htf : Hid (c.fixed = true) := tf
  clear he tb tf
  obtain ⟨W, hW⟩ : ∃ W, W = (w.alloc (.cells gr 47)).alloc (.cells hr 47) := ⟨_, rfl⟩
  have hb : Below w.heap.size w W := by rw [hW]; exact ((Below.refl _ _).alloc (Nat.le_refl _) _).alloc (by rw [size_push]; omega) _
  have hzW : W.heap.size = w.heap.size + 2 := by rw [hW, size_push, size_push]
  have hB1 : InBox w.heap.size W gr c := by rw [hW]; exact (InBox.new h).later ((Below.refl _ _).alloc (Nat.le_refl _) _)
  have hB2 : InBox (w.heap.size + 1) W hr e := by
    rw [hW, ← size_push w (.cells gr 47)]
    exact InBox.new (h'.later ((Below.refl _ _).alloc (Nat.le_refl _) _))
  have HW : Hid (W = (w.alloc (.cells gr 47)).alloc (.cells hr 47)) := hW
  have HB1 : Hid (InBox w.heap.size W gr c) := hB1
  have HB2 : Hid (InBox (w.heap.size + 1) W hr e) := hB2
  have p0 := hB1.begun
  have p0' := hB2.begun
  have p1 := hB1.fixed
  have p1' := hB2.fixed
  obtain ⟨a2, c2, p2, hs2, hl2⟩ := hB1.ops
  obtain ⟨b2, d2, p2', hs2', hl2'⟩ := hB2.ops
  clear hW hB1 hB2 h h'
  rw [Htb.out] at p0
  rw [Htf.out] at p1
  rw [HE.out.1] at p0'
  rw [HE.out.2.1] at p1'
  go_enter Tryz.func19, Tryz.ntmps19
  go_upto_region 1 with fail
  rw [← HW.out]
  clear HW
  clear p2 p2'
  go_wp2
  go_ret
  exact ⟨rfl, hb⟩

set_option maxRecDepth 100000 in
set_option maxHeartbeats 2000000 in
theorem sameZ_1 (gr : Array Value) (c : CaseL) (hr : Array Value) (e : CaseL) (w : World) (h : CaseV w gr c) (h' : CaseV w hr e) (he : e = zeroC) (tb : c.begun = false) (tf : c.fixed = false) (tp : c.ops.isEmpty = false) :
    Calls Tryz.prog 19 #[.agg gr, .agg hr] w fun r w' => r = .returned (.bool false) ∧ Below w.heap.size w w' := by
  have HE : Hid (e.begun = false ∧ e.fixed = false ∧ e.ops = [] ∧ e.deps = []) := by rw [he]; exact ⟨rfl, rfl, rfl, rfl⟩
  have Htb : Hid (c.begun = false) := tb
  have Htf : Hid (c.fixed = false) := tf
  have Htp : Hid (c.ops.isEmpty = false) := tp
  clear he tb tf tp
  obtain ⟨W, hW⟩ : ∃ W, W = (w.alloc (.cells gr 47)).alloc (.cells hr 47) := ⟨_, rfl⟩
  have hb : Below w.heap.size w W := by rw [hW]; exact ((Below.refl _ _).alloc (Nat.le_refl _) _).alloc (by rw [size_push]; omega) _
  have hzW : W.heap.size = w.heap.size + 2 := by rw [hW, size_push, size_push]
  have hB1 : InBox w.heap.size W gr c := by rw [hW]; exact (InBox.new h).later ((Below.refl _ _).alloc (Nat.le_refl _) _)
  have hB2 : InBox (w.heap.size + 1) W hr e := by
    rw [hW, ← size_push w (.cells gr 47)]
    exact InBox.new (h'.later ((Below.refl _ _).alloc (Nat.le_refl _) _))
  have HW : Hid (W = (w.alloc (.cells gr 47)).alloc (.cells hr 47)) := hW
  have HB1 : Hid (InBox w.heap.size W gr c) := hB1
  have HB2 : Hid (InBox (w.heap.size + 1) W hr e) := hB2
  have p0 := hB1.begun
  have p0' := hB2.begun
  have p1 := hB1.fixed
  have p1' := hB2.fixed
  obtain ⟨a2, c2, p2, hs2, hl2⟩ := hB1.ops
  obtain ⟨b2, d2, p2', hs2', hl2'⟩ := hB2.ops
  clear hW hB1 hB2 h h'
  rw [Htb.out] at p0
  rw [Htf.out] at p1
  rw [HE.out.1] at p0'
  rw [HE.out.2.1] at p1'
  go_enter Tryz.func19, Tryz.ntmps19
  go_upto_region 1 with fail
  rw [← HW.out]
  clear HW
  have hl0 : e.ops.length = 0 := by rw [HE.out.2.2.1]; rfl
  rw [hl0] at p2'
  clear hl0
  have htp : c.ops.isEmpty = false := Htp.out
  go_wp2_with fail
  refine (sameOps_empty a2 c2 c.ops b2 d2 W hs2).mono ?_
  rintro e1 w1 ⟨rfl, hb1⟩
  have HX1 : Hid (InBox w.heap.size w1 gr c) := HB1.out.later hb1
  have HX2 : Hid (InBox (w.heap.size + 1) w1 hr e) := HB2.out.later hb1
  have hw1 : Below w.heap.size w w1 := hb.trans (hb1.mono (by omega))
  have hz1 := hb1.size
  clear hb1 p0 p0' p1 p1' p2 p2'
  go_wp2
  go_ret
  exact ⟨rfl, hw1⟩

set_option maxRecDepth 100000 in
set_option maxHeartbeats 2000000 in
theorem sameZ_2 (gr : Array Value) (c : CaseL) (hr : Array Value) (e : CaseL) (w : World) (h : CaseV w gr c) (h' : CaseV w hr e) (he : e = zeroC) (tb : c.begun = false) (tf : c.fixed = false) (tp : c.ops.isEmpty = true) (t1 : sameB 6 c.told e.told = false) :
    Calls Tryz.prog 19 #[.agg gr, .agg hr] w fun r w' => r = .returned (.bool false) ∧ Below w.heap.size w w' := by
  have HE : Hid (e.begun = false ∧ e.fixed = false ∧ e.ops = [] ∧ e.deps = []) := by rw [he]; exact ⟨rfl, rfl, rfl, rfl⟩
  have Htb : Hid (c.begun = false) := tb
  have Htf : Hid (c.fixed = false) := tf
  have Htp : Hid (c.ops.isEmpty = true) := tp
  have Ht1 : Hid (sameB 6 c.told e.told = false) := t1
  clear he tb tf tp t1
  obtain ⟨W, hW⟩ : ∃ W, W = (w.alloc (.cells gr 47)).alloc (.cells hr 47) := ⟨_, rfl⟩
  have hb : Below w.heap.size w W := by rw [hW]; exact ((Below.refl _ _).alloc (Nat.le_refl _) _).alloc (by rw [size_push]; omega) _
  have hzW : W.heap.size = w.heap.size + 2 := by rw [hW, size_push, size_push]
  have hB1 : InBox w.heap.size W gr c := by rw [hW]; exact (InBox.new h).later ((Below.refl _ _).alloc (Nat.le_refl _) _)
  have hB2 : InBox (w.heap.size + 1) W hr e := by
    rw [hW, ← size_push w (.cells gr 47)]
    exact InBox.new (h'.later ((Below.refl _ _).alloc (Nat.le_refl _) _))
  have HW : Hid (W = (w.alloc (.cells gr 47)).alloc (.cells hr 47)) := hW
  have HB1 : Hid (InBox w.heap.size W gr c) := hB1
  have HB2 : Hid (InBox (w.heap.size + 1) W hr e) := hB2
  have p0 := hB1.begun
  have p0' := hB2.begun
  have p1 := hB1.fixed
  have p1' := hB2.fixed
  obtain ⟨a2, c2, p2, hs2, hl2⟩ := hB1.ops
  obtain ⟨b2, d2, p2', hs2', hl2'⟩ := hB2.ops
  clear hW hB1 hB2 h h'
  rw [Htb.out] at p0
  rw [Htf.out] at p1
  rw [HE.out.1] at p0'
  rw [HE.out.2.1] at p1'
  go_enter Tryz.func19, Tryz.ntmps19
  go_upto_region 1 with fail
  rw [← HW.out]
  clear HW
  have hl0 : e.ops.length = 0 := by rw [HE.out.2.2.1]; rfl
  rw [hl0] at p2'
  clear hl0
  have htp : c.ops.isEmpty = true := Htp.out
  go_wp2_with fail
  refine (sameOps_empty a2 c2 c.ops b2 d2 W hs2).mono ?_
  rintro e1 w1 ⟨rfl, hb1⟩
  have HX1 : Hid (InBox w.heap.size w1 gr c) := HB1.out.later hb1
  have HX2 : Hid (InBox (w.heap.size + 1) w1 hr e) := HB2.out.later hb1
  have hw1 : Below w.heap.size w w1 := hb.trans (hb1.mono (by omega))
  have hz1 := hb1.size
  clear hb1 p0 p0' p1 p1' p2 p2'
  obtain ⟨A1, hA1⟩ : ∃ A, A = bools 6 c.told := ⟨_, rfl⟩
  obtain ⟨ZA1, hZA1⟩ : ∃ A, A = bools 6 e.told := ⟨_, rfl⟩
  have rA1 := HX1.out.rTold
  have rZA1 := HX2.out.rTold
  have zA1 := row_six c.told
  have zZA1 := row_six e.told
  have eA1 := fun w => run_equalIn_bools 9998 Tryz.underlying43 Tryz.underlying4 Tryz.infoBool c.told e.told w
  rw [← hA1] at rA1 zA1 eA1
  rw [← hZA1] at rZA1 zZA1 eA1
  clear hA1 hZA1
  have g6 := Tryz.sixGuard
  have g4 := Tryz.fourGuard
  have gI := Tryz.fourIGuard
  rw [Ht1.out] at eA1
  go_wp2_with (first
    | ((with_reducible apply wpl_mid rA1); (· rfl); (· exact zA1); (· rfl); simp only [Act.put, List.setIfInBounds_toArray, List.set_cons_zero, List.set_cons_succ])
    | ((with_reducible apply wpl_mid rZA1); (· rfl); (· exact zZA1); (· rfl); simp only [Act.put, List.setIfInBounds_toArray, List.set_cons_zero, List.set_cons_succ])
    | fail)
  go_ret
  exact ⟨rfl, hw1⟩

set_option maxRecDepth 100000 in
set_option maxHeartbeats 2000000 in
theorem sameZ_3 (gr : Array Value) (c : CaseL) (hr : Array Value) (e : CaseL) (w : World) (h : CaseV w gr c) (h' : CaseV w hr e) (he : e = zeroC) (tb : c.begun = false) (tf : c.fixed = false) (tp : c.ops.isEmpty = true) (t1 : sameB 6 c.told e.told = true) (t2 : sameB 6 c.known e.known = false) :
    Calls Tryz.prog 19 #[.agg gr, .agg hr] w fun r w' => r = .returned (.bool false) ∧ Below w.heap.size w w' := by
  have HE : Hid (e.begun = false ∧ e.fixed = false ∧ e.ops = [] ∧ e.deps = []) := by rw [he]; exact ⟨rfl, rfl, rfl, rfl⟩
  have Htb : Hid (c.begun = false) := tb
  have Htf : Hid (c.fixed = false) := tf
  have Htp : Hid (c.ops.isEmpty = true) := tp
  have Ht1 : Hid (sameB 6 c.told e.told = true) := t1
  have Ht2 : Hid (sameB 6 c.known e.known = false) := t2
  clear he tb tf tp t1 t2
  obtain ⟨W, hW⟩ : ∃ W, W = (w.alloc (.cells gr 47)).alloc (.cells hr 47) := ⟨_, rfl⟩
  have hb : Below w.heap.size w W := by rw [hW]; exact ((Below.refl _ _).alloc (Nat.le_refl _) _).alloc (by rw [size_push]; omega) _
  have hzW : W.heap.size = w.heap.size + 2 := by rw [hW, size_push, size_push]
  have hB1 : InBox w.heap.size W gr c := by rw [hW]; exact (InBox.new h).later ((Below.refl _ _).alloc (Nat.le_refl _) _)
  have hB2 : InBox (w.heap.size + 1) W hr e := by
    rw [hW, ← size_push w (.cells gr 47)]
    exact InBox.new (h'.later ((Below.refl _ _).alloc (Nat.le_refl _) _))
  have HW : Hid (W = (w.alloc (.cells gr 47)).alloc (.cells hr 47)) := hW
  have HB1 : Hid (InBox w.heap.size W gr c) := hB1
  have HB2 : Hid (InBox (w.heap.size + 1) W hr e) := hB2
  have p0 := hB1.begun
  have p0' := hB2.begun
  have p1 := hB1.fixed
  have p1' := hB2.fixed
  obtain ⟨a2, c2, p2, hs2, hl2⟩ := hB1.ops
  obtain ⟨b2, d2, p2', hs2', hl2'⟩ := hB2.ops
  clear hW hB1 hB2 h h'
  rw [Htb.out] at p0
  rw [Htf.out] at p1
  rw [HE.out.1] at p0'
  rw [HE.out.2.1] at p1'
  go_enter Tryz.func19, Tryz.ntmps19
  go_upto_region 1 with fail
  rw [← HW.out]
  clear HW
  have hl0 : e.ops.length = 0 := by rw [HE.out.2.2.1]; rfl
  rw [hl0] at p2'
  clear hl0
  have htp : c.ops.isEmpty = true := Htp.out
  go_wp2_with fail
  refine (sameOps_empty a2 c2 c.ops b2 d2 W hs2).mono ?_
  rintro e1 w1 ⟨rfl, hb1⟩
  have HX1 : Hid (InBox w.heap.size w1 gr c) := HB1.out.later hb1
  have HX2 : Hid (InBox (w.heap.size + 1) w1 hr e) := HB2.out.later hb1
  have hw1 : Below w.heap.size w w1 := hb.trans (hb1.mono (by omega))
  have hz1 := hb1.size
  clear hb1 p0 p0' p1 p1' p2 p2'
  obtain ⟨A1, hA1⟩ : ∃ A, A = bools 6 c.told := ⟨_, rfl⟩
  obtain ⟨ZA1, hZA1⟩ : ∃ A, A = bools 6 e.told := ⟨_, rfl⟩
  have rA1 := HX1.out.rTold
  have rZA1 := HX2.out.rTold
  have zA1 := row_six c.told
  have zZA1 := row_six e.told
  have eA1 := fun w => run_equalIn_bools 9998 Tryz.underlying43 Tryz.underlying4 Tryz.infoBool c.told e.told w
  rw [← hA1] at rA1 zA1 eA1
  rw [← hZA1] at rZA1 zZA1 eA1
  clear hA1 hZA1
  obtain ⟨A2, hA2⟩ : ∃ A, A = bools 6 c.known := ⟨_, rfl⟩
  obtain ⟨ZA2, hZA2⟩ : ∃ A, A = bools 6 e.known := ⟨_, rfl⟩
  have rA2 := HX1.out.rKnown
  have rZA2 := HX2.out.rKnown
  have zA2 := row_six c.known
  have zZA2 := row_six e.known
  have eA2 := fun w => run_equalIn_bools 9998 Tryz.underlying43 Tryz.underlying4 Tryz.infoBool c.known e.known w
  rw [← hA2] at rA2 zA2 eA2
  rw [← hZA2] at rZA2 zZA2 eA2
  clear hA2 hZA2
  have g6 := Tryz.sixGuard
  have g4 := Tryz.fourGuard
  have gI := Tryz.fourIGuard
  rw [Ht1.out] at eA1
  rw [Ht2.out] at eA2
  go_wp2_with (first
    | ((with_reducible apply wpl_mid rA1); (· rfl); (· exact zA1); (· rfl); simp only [Act.put, List.setIfInBounds_toArray, List.set_cons_zero, List.set_cons_succ])
    | ((with_reducible apply wpl_mid rZA1); (· rfl); (· exact zZA1); (· rfl); simp only [Act.put, List.setIfInBounds_toArray, List.set_cons_zero, List.set_cons_succ])
    | ((with_reducible apply wpl_mid rA2); (· rfl); (· exact zA2); (· rfl); simp only [Act.put, List.setIfInBounds_toArray, List.set_cons_zero, List.set_cons_succ])
    | ((with_reducible apply wpl_mid rZA2); (· rfl); (· exact zZA2); (· rfl); simp only [Act.put, List.setIfInBounds_toArray, List.set_cons_zero, List.set_cons_succ])
    | fail)
  go_ret
  exact ⟨rfl, hw1⟩

set_option maxRecDepth 100000 in
set_option maxHeartbeats 2000000 in
theorem sameZ_4 (gr : Array Value) (c : CaseL) (hr : Array Value) (e : CaseL) (w : World) (h : CaseV w gr c) (h' : CaseV w hr e) (he : e = zeroC) (tb : c.begun = false) (tf : c.fixed = false) (tp : c.ops.isEmpty = true) (t1 : sameB 6 c.told e.told = true) (t2 : sameB 6 c.known e.known = true) (td : c.deps.isEmpty = false) :
    Calls Tryz.prog 19 #[.agg gr, .agg hr] w fun r w' => r = .returned (.bool false) ∧ Below w.heap.size w w' := by
  have HE : Hid (e.begun = false ∧ e.fixed = false ∧ e.ops = [] ∧ e.deps = []) := by rw [he]; exact ⟨rfl, rfl, rfl, rfl⟩
  have Htb : Hid (c.begun = false) := tb
  have Htf : Hid (c.fixed = false) := tf
  have Htp : Hid (c.ops.isEmpty = true) := tp
  have Ht1 : Hid (sameB 6 c.told e.told = true) := t1
  have Ht2 : Hid (sameB 6 c.known e.known = true) := t2
  have Htd : Hid (c.deps.isEmpty = false) := td
  clear he tb tf tp t1 t2 td
  obtain ⟨W, hW⟩ : ∃ W, W = (w.alloc (.cells gr 47)).alloc (.cells hr 47) := ⟨_, rfl⟩
  have hb : Below w.heap.size w W := by rw [hW]; exact ((Below.refl _ _).alloc (Nat.le_refl _) _).alloc (by rw [size_push]; omega) _
  have hzW : W.heap.size = w.heap.size + 2 := by rw [hW, size_push, size_push]
  have hB1 : InBox w.heap.size W gr c := by rw [hW]; exact (InBox.new h).later ((Below.refl _ _).alloc (Nat.le_refl _) _)
  have hB2 : InBox (w.heap.size + 1) W hr e := by
    rw [hW, ← size_push w (.cells gr 47)]
    exact InBox.new (h'.later ((Below.refl _ _).alloc (Nat.le_refl _) _))
  have HW : Hid (W = (w.alloc (.cells gr 47)).alloc (.cells hr 47)) := hW
  have HB1 : Hid (InBox w.heap.size W gr c) := hB1
  have HB2 : Hid (InBox (w.heap.size + 1) W hr e) := hB2
  have p0 := hB1.begun
  have p0' := hB2.begun
  have p1 := hB1.fixed
  have p1' := hB2.fixed
  obtain ⟨a2, c2, p2, hs2, hl2⟩ := hB1.ops
  obtain ⟨b2, d2, p2', hs2', hl2'⟩ := hB2.ops
  clear hW hB1 hB2 h h'
  rw [Htb.out] at p0
  rw [Htf.out] at p1
  rw [HE.out.1] at p0'
  rw [HE.out.2.1] at p1'
  go_enter Tryz.func19, Tryz.ntmps19
  go_upto_region 1 with fail
  rw [← HW.out]
  clear HW
  have hl0 : e.ops.length = 0 := by rw [HE.out.2.2.1]; rfl
  rw [hl0] at p2'
  clear hl0
  have htp : c.ops.isEmpty = true := Htp.out
  go_wp2_with fail
  refine (sameOps_empty a2 c2 c.ops b2 d2 W hs2).mono ?_
  rintro e1 w1 ⟨rfl, hb1⟩
  have HX1 : Hid (InBox w.heap.size w1 gr c) := HB1.out.later hb1
  have HX2 : Hid (InBox (w.heap.size + 1) w1 hr e) := HB2.out.later hb1
  have hw1 : Below w.heap.size w w1 := hb.trans (hb1.mono (by omega))
  have hz1 := hb1.size
  clear hb1 p0 p0' p1 p1' p2 p2'
  obtain ⟨A1, hA1⟩ : ∃ A, A = bools 6 c.told := ⟨_, rfl⟩
  obtain ⟨ZA1, hZA1⟩ : ∃ A, A = bools 6 e.told := ⟨_, rfl⟩
  have rA1 := HX1.out.rTold
  have rZA1 := HX2.out.rTold
  have zA1 := row_six c.told
  have zZA1 := row_six e.told
  have eA1 := fun w => run_equalIn_bools 9998 Tryz.underlying43 Tryz.underlying4 Tryz.infoBool c.told e.told w
  rw [← hA1] at rA1 zA1 eA1
  rw [← hZA1] at rZA1 zZA1 eA1
  clear hA1 hZA1
  obtain ⟨A2, hA2⟩ : ∃ A, A = bools 6 c.known := ⟨_, rfl⟩
  obtain ⟨ZA2, hZA2⟩ : ∃ A, A = bools 6 e.known := ⟨_, rfl⟩
  have rA2 := HX1.out.rKnown
  have rZA2 := HX2.out.rKnown
  have zA2 := row_six c.known
  have zZA2 := row_six e.known
  have eA2 := fun w => run_equalIn_bools 9998 Tryz.underlying43 Tryz.underlying4 Tryz.infoBool c.known e.known w
  rw [← hA2] at rA2 zA2 eA2
  rw [← hZA2] at rZA2 zZA2 eA2
  clear hA2 hZA2
  have g6 := Tryz.sixGuard
  have g4 := Tryz.fourGuard
  have gI := Tryz.fourIGuard
  rw [Ht1.out] at eA1
  rw [Ht2.out] at eA2
  obtain ⟨a5, c5, q5, hs5, _⟩ := HX1.out.deps
  obtain ⟨b5, d5, q5', hs5', _⟩ := HX2.out.deps
  have hd0 : e.deps.length = 0 := by rw [HE.out.2.2.2]; rfl
  rw [hd0] at q5'
  clear hd0
  have htd : c.deps.isEmpty = false := Htd.out
  go_wp2_with (first
    | ((with_reducible apply wpl_mid rA1); (· rfl); (· exact zA1); (· rfl); simp only [Act.put, List.setIfInBounds_toArray, List.set_cons_zero, List.set_cons_succ])
    | ((with_reducible apply wpl_mid rZA1); (· rfl); (· exact zZA1); (· rfl); simp only [Act.put, List.setIfInBounds_toArray, List.set_cons_zero, List.set_cons_succ])
    | ((with_reducible apply wpl_mid rA2); (· rfl); (· exact zA2); (· rfl); simp only [Act.put, List.setIfInBounds_toArray, List.set_cons_zero, List.set_cons_succ])
    | ((with_reducible apply wpl_mid rZA2); (· rfl); (· exact zZA2); (· rfl); simp only [Act.put, List.setIfInBounds_toArray, List.set_cons_zero, List.set_cons_succ])
    | fail)
  refine (sameNumbers_empty a5 c5 c.deps b5 d5 w1 hs5).mono ?_
  rintro e2 w2 ⟨rfl, hb2⟩
  have HY1 : Hid (InBox w.heap.size w2 gr c) := HX1.out.later hb2
  have HY2 : Hid (InBox (w.heap.size + 1) w2 hr e) := HX2.out.later hb2
  have hw2 : Below w.heap.size w w2 := hw1.trans (hb2.mono (by omega))
  clear hb2 q5 q5'
  go_wp2
  go_ret
  exact ⟨rfl, hw2⟩

set_option maxRecDepth 100000 in
set_option maxHeartbeats 2000000 in
theorem sameZ_5 (gr : Array Value) (c : CaseL) (hr : Array Value) (e : CaseL) (w : World) (h : CaseV w gr c) (h' : CaseV w hr e) (he : e = zeroC) (tb : c.begun = false) (tf : c.fixed = false) (tp : c.ops.isEmpty = true) (t1 : sameB 6 c.told e.told = true) (t2 : sameB 6 c.known e.known = true) (td : c.deps.isEmpty = true) (t3 : sameB 4 c.has e.has = false) :
    Calls Tryz.prog 19 #[.agg gr, .agg hr] w fun r w' => r = .returned (.bool false) ∧ Below w.heap.size w w' := by
  have HE : Hid (e.begun = false ∧ e.fixed = false ∧ e.ops = [] ∧ e.deps = []) := by rw [he]; exact ⟨rfl, rfl, rfl, rfl⟩
  have Htb : Hid (c.begun = false) := tb
  have Htf : Hid (c.fixed = false) := tf
  have Htp : Hid (c.ops.isEmpty = true) := tp
  have Ht1 : Hid (sameB 6 c.told e.told = true) := t1
  have Ht2 : Hid (sameB 6 c.known e.known = true) := t2
  have Htd : Hid (c.deps.isEmpty = true) := td
  have Ht3 : Hid (sameB 4 c.has e.has = false) := t3
  clear he tb tf tp t1 t2 td t3
  obtain ⟨W, hW⟩ : ∃ W, W = (w.alloc (.cells gr 47)).alloc (.cells hr 47) := ⟨_, rfl⟩
  have hb : Below w.heap.size w W := by rw [hW]; exact ((Below.refl _ _).alloc (Nat.le_refl _) _).alloc (by rw [size_push]; omega) _
  have hzW : W.heap.size = w.heap.size + 2 := by rw [hW, size_push, size_push]
  have hB1 : InBox w.heap.size W gr c := by rw [hW]; exact (InBox.new h).later ((Below.refl _ _).alloc (Nat.le_refl _) _)
  have hB2 : InBox (w.heap.size + 1) W hr e := by
    rw [hW, ← size_push w (.cells gr 47)]
    exact InBox.new (h'.later ((Below.refl _ _).alloc (Nat.le_refl _) _))
  have HW : Hid (W = (w.alloc (.cells gr 47)).alloc (.cells hr 47)) := hW
  have HB1 : Hid (InBox w.heap.size W gr c) := hB1
  have HB2 : Hid (InBox (w.heap.size + 1) W hr e) := hB2
  have p0 := hB1.begun
  have p0' := hB2.begun
  have p1 := hB1.fixed
  have p1' := hB2.fixed
  obtain ⟨a2, c2, p2, hs2, hl2⟩ := hB1.ops
  obtain ⟨b2, d2, p2', hs2', hl2'⟩ := hB2.ops
  clear hW hB1 hB2 h h'
  rw [Htb.out] at p0
  rw [Htf.out] at p1
  rw [HE.out.1] at p0'
  rw [HE.out.2.1] at p1'
  go_enter Tryz.func19, Tryz.ntmps19
  go_upto_region 1 with fail
  rw [← HW.out]
  clear HW
  have hl0 : e.ops.length = 0 := by rw [HE.out.2.2.1]; rfl
  rw [hl0] at p2'
  clear hl0
  have htp : c.ops.isEmpty = true := Htp.out
  go_wp2_with fail
  refine (sameOps_empty a2 c2 c.ops b2 d2 W hs2).mono ?_
  rintro e1 w1 ⟨rfl, hb1⟩
  have HX1 : Hid (InBox w.heap.size w1 gr c) := HB1.out.later hb1
  have HX2 : Hid (InBox (w.heap.size + 1) w1 hr e) := HB2.out.later hb1
  have hw1 : Below w.heap.size w w1 := hb.trans (hb1.mono (by omega))
  have hz1 := hb1.size
  clear hb1 p0 p0' p1 p1' p2 p2'
  obtain ⟨A1, hA1⟩ : ∃ A, A = bools 6 c.told := ⟨_, rfl⟩
  obtain ⟨ZA1, hZA1⟩ : ∃ A, A = bools 6 e.told := ⟨_, rfl⟩
  have rA1 := HX1.out.rTold
  have rZA1 := HX2.out.rTold
  have zA1 := row_six c.told
  have zZA1 := row_six e.told
  have eA1 := fun w => run_equalIn_bools 9998 Tryz.underlying43 Tryz.underlying4 Tryz.infoBool c.told e.told w
  rw [← hA1] at rA1 zA1 eA1
  rw [← hZA1] at rZA1 zZA1 eA1
  clear hA1 hZA1
  obtain ⟨A2, hA2⟩ : ∃ A, A = bools 6 c.known := ⟨_, rfl⟩
  obtain ⟨ZA2, hZA2⟩ : ∃ A, A = bools 6 e.known := ⟨_, rfl⟩
  have rA2 := HX1.out.rKnown
  have rZA2 := HX2.out.rKnown
  have zA2 := row_six c.known
  have zZA2 := row_six e.known
  have eA2 := fun w => run_equalIn_bools 9998 Tryz.underlying43 Tryz.underlying4 Tryz.infoBool c.known e.known w
  rw [← hA2] at rA2 zA2 eA2
  rw [← hZA2] at rZA2 zZA2 eA2
  clear hA2 hZA2
  have g6 := Tryz.sixGuard
  have g4 := Tryz.fourGuard
  have gI := Tryz.fourIGuard
  rw [Ht1.out] at eA1
  rw [Ht2.out] at eA2
  obtain ⟨a5, c5, q5, hs5, _⟩ := HX1.out.deps
  obtain ⟨b5, d5, q5', hs5', _⟩ := HX2.out.deps
  have hd0 : e.deps.length = 0 := by rw [HE.out.2.2.2]; rfl
  rw [hd0] at q5'
  clear hd0
  have htd : c.deps.isEmpty = true := Htd.out
  go_wp2_with (first
    | ((with_reducible apply wpl_mid rA1); (· rfl); (· exact zA1); (· rfl); simp only [Act.put, List.setIfInBounds_toArray, List.set_cons_zero, List.set_cons_succ])
    | ((with_reducible apply wpl_mid rZA1); (· rfl); (· exact zZA1); (· rfl); simp only [Act.put, List.setIfInBounds_toArray, List.set_cons_zero, List.set_cons_succ])
    | ((with_reducible apply wpl_mid rA2); (· rfl); (· exact zA2); (· rfl); simp only [Act.put, List.setIfInBounds_toArray, List.set_cons_zero, List.set_cons_succ])
    | ((with_reducible apply wpl_mid rZA2); (· rfl); (· exact zZA2); (· rfl); simp only [Act.put, List.setIfInBounds_toArray, List.set_cons_zero, List.set_cons_succ])
    | fail)
  refine (sameNumbers_empty a5 c5 c.deps b5 d5 w1 hs5).mono ?_
  rintro e2 w2 ⟨rfl, hb2⟩
  have HY1 : Hid (InBox w.heap.size w2 gr c) := HX1.out.later hb2
  have HY2 : Hid (InBox (w.heap.size + 1) w2 hr e) := HX2.out.later hb2
  have hw2 : Below w.heap.size w w2 := hw1.trans (hb2.mono (by omega))
  clear hb2 q5 q5'
  clear rA1 rZA1 zA1 zZA1 eA1 rA2 rZA2 zA2 zZA2 eA2
  obtain ⟨A3, hA3⟩ : ∃ A, A = bools 4 c.has := ⟨_, rfl⟩
  obtain ⟨ZA3, hZA3⟩ : ∃ A, A = bools 4 e.has := ⟨_, rfl⟩
  have rA3 := HY1.out.rHas
  have rZA3 := HY2.out.rHas
  have zA3 := row_four c.has
  have zZA3 := row_four e.has
  have eA3 := fun w => run_equalIn_bools 9998 Tryz.underlying44 Tryz.underlying4 Tryz.infoBool c.has e.has w
  rw [← hA3] at rA3 zA3 eA3
  rw [← hZA3] at rZA3 zZA3 eA3
  clear hA3 hZA3
  rw [Ht3.out] at eA3
  go_wp2_with (first
    | ((with_reducible apply wpl_mid rA3); (· rfl); (· exact zA3); (· rfl); simp only [Act.put, List.setIfInBounds_toArray, List.set_cons_zero, List.set_cons_succ])
    | ((with_reducible apply wpl_mid rZA3); (· rfl); (· exact zZA3); (· rfl); simp only [Act.put, List.setIfInBounds_toArray, List.set_cons_zero, List.set_cons_succ])
    | fail)
  go_ret
  exact ⟨rfl, hw2⟩

set_option maxRecDepth 100000 in
set_option maxHeartbeats 2000000 in
theorem sameZ_6 (gr : Array Value) (c : CaseL) (hr : Array Value) (e : CaseL) (w : World) (h : CaseV w gr c) (h' : CaseV w hr e) (he : e = zeroC) (tb : c.begun = false) (tf : c.fixed = false) (tp : c.ops.isEmpty = true) (t1 : sameB 6 c.told e.told = true) (t2 : sameB 6 c.known e.known = true) (td : c.deps.isEmpty = true) (t3 : sameB 4 c.has e.has = true) :
    Calls Tryz.prog 19 #[.agg gr, .agg hr] w fun r w' => r = .returned (.bool (sameI 4 c.vals e.vals)) ∧ Below w.heap.size w w' := by
  have HE : Hid (e.begun = false ∧ e.fixed = false ∧ e.ops = [] ∧ e.deps = []) := by rw [he]; exact ⟨rfl, rfl, rfl, rfl⟩
  have Htb : Hid (c.begun = false) := tb
  have Htf : Hid (c.fixed = false) := tf
  have Htp : Hid (c.ops.isEmpty = true) := tp
  have Ht1 : Hid (sameB 6 c.told e.told = true) := t1
  have Ht2 : Hid (sameB 6 c.known e.known = true) := t2
  have Htd : Hid (c.deps.isEmpty = true) := td
  have Ht3 : Hid (sameB 4 c.has e.has = true) := t3
  clear he tb tf tp t1 t2 td t3
  obtain ⟨W, hW⟩ : ∃ W, W = (w.alloc (.cells gr 47)).alloc (.cells hr 47) := ⟨_, rfl⟩
  have hb : Below w.heap.size w W := by rw [hW]; exact ((Below.refl _ _).alloc (Nat.le_refl _) _).alloc (by rw [size_push]; omega) _
  have hzW : W.heap.size = w.heap.size + 2 := by rw [hW, size_push, size_push]
  have hB1 : InBox w.heap.size W gr c := by rw [hW]; exact (InBox.new h).later ((Below.refl _ _).alloc (Nat.le_refl _) _)
  have hB2 : InBox (w.heap.size + 1) W hr e := by
    rw [hW, ← size_push w (.cells gr 47)]
    exact InBox.new (h'.later ((Below.refl _ _).alloc (Nat.le_refl _) _))
  have HW : Hid (W = (w.alloc (.cells gr 47)).alloc (.cells hr 47)) := hW
  have HB1 : Hid (InBox w.heap.size W gr c) := hB1
  have HB2 : Hid (InBox (w.heap.size + 1) W hr e) := hB2
  have p0 := hB1.begun
  have p0' := hB2.begun
  have p1 := hB1.fixed
  have p1' := hB2.fixed
  obtain ⟨a2, c2, p2, hs2, hl2⟩ := hB1.ops
  obtain ⟨b2, d2, p2', hs2', hl2'⟩ := hB2.ops
  clear hW hB1 hB2 h h'
  rw [Htb.out] at p0
  rw [Htf.out] at p1
  rw [HE.out.1] at p0'
  rw [HE.out.2.1] at p1'
  go_enter Tryz.func19, Tryz.ntmps19
  go_upto_region 1 with fail
  rw [← HW.out]
  clear HW
  have hl0 : e.ops.length = 0 := by rw [HE.out.2.2.1]; rfl
  rw [hl0] at p2'
  clear hl0
  have htp : c.ops.isEmpty = true := Htp.out
  go_wp2_with fail
  refine (sameOps_empty a2 c2 c.ops b2 d2 W hs2).mono ?_
  rintro e1 w1 ⟨rfl, hb1⟩
  have HX1 : Hid (InBox w.heap.size w1 gr c) := HB1.out.later hb1
  have HX2 : Hid (InBox (w.heap.size + 1) w1 hr e) := HB2.out.later hb1
  have hw1 : Below w.heap.size w w1 := hb.trans (hb1.mono (by omega))
  have hz1 := hb1.size
  clear hb1 p0 p0' p1 p1' p2 p2'
  obtain ⟨A1, hA1⟩ : ∃ A, A = bools 6 c.told := ⟨_, rfl⟩
  obtain ⟨ZA1, hZA1⟩ : ∃ A, A = bools 6 e.told := ⟨_, rfl⟩
  have rA1 := HX1.out.rTold
  have rZA1 := HX2.out.rTold
  have zA1 := row_six c.told
  have zZA1 := row_six e.told
  have eA1 := fun w => run_equalIn_bools 9998 Tryz.underlying43 Tryz.underlying4 Tryz.infoBool c.told e.told w
  rw [← hA1] at rA1 zA1 eA1
  rw [← hZA1] at rZA1 zZA1 eA1
  clear hA1 hZA1
  obtain ⟨A2, hA2⟩ : ∃ A, A = bools 6 c.known := ⟨_, rfl⟩
  obtain ⟨ZA2, hZA2⟩ : ∃ A, A = bools 6 e.known := ⟨_, rfl⟩
  have rA2 := HX1.out.rKnown
  have rZA2 := HX2.out.rKnown
  have zA2 := row_six c.known
  have zZA2 := row_six e.known
  have eA2 := fun w => run_equalIn_bools 9998 Tryz.underlying43 Tryz.underlying4 Tryz.infoBool c.known e.known w
  rw [← hA2] at rA2 zA2 eA2
  rw [← hZA2] at rZA2 zZA2 eA2
  clear hA2 hZA2
  have g6 := Tryz.sixGuard
  have g4 := Tryz.fourGuard
  have gI := Tryz.fourIGuard
  rw [Ht1.out] at eA1
  rw [Ht2.out] at eA2
  obtain ⟨a5, c5, q5, hs5, _⟩ := HX1.out.deps
  obtain ⟨b5, d5, q5', hs5', _⟩ := HX2.out.deps
  have hd0 : e.deps.length = 0 := by rw [HE.out.2.2.2]; rfl
  rw [hd0] at q5'
  clear hd0
  have htd : c.deps.isEmpty = true := Htd.out
  go_wp2_with (first
    | ((with_reducible apply wpl_mid rA1); (· rfl); (· exact zA1); (· rfl); simp only [Act.put, List.setIfInBounds_toArray, List.set_cons_zero, List.set_cons_succ])
    | ((with_reducible apply wpl_mid rZA1); (· rfl); (· exact zZA1); (· rfl); simp only [Act.put, List.setIfInBounds_toArray, List.set_cons_zero, List.set_cons_succ])
    | ((with_reducible apply wpl_mid rA2); (· rfl); (· exact zA2); (· rfl); simp only [Act.put, List.setIfInBounds_toArray, List.set_cons_zero, List.set_cons_succ])
    | ((with_reducible apply wpl_mid rZA2); (· rfl); (· exact zZA2); (· rfl); simp only [Act.put, List.setIfInBounds_toArray, List.set_cons_zero, List.set_cons_succ])
    | fail)
  refine (sameNumbers_empty a5 c5 c.deps b5 d5 w1 hs5).mono ?_
  rintro e2 w2 ⟨rfl, hb2⟩
  have HY1 : Hid (InBox w.heap.size w2 gr c) := HX1.out.later hb2
  have HY2 : Hid (InBox (w.heap.size + 1) w2 hr e) := HX2.out.later hb2
  have hw2 : Below w.heap.size w w2 := hw1.trans (hb2.mono (by omega))
  clear hb2 q5 q5'
  clear rA1 rZA1 zA1 zZA1 eA1 rA2 rZA2 zA2 zZA2 eA2
  obtain ⟨A3, hA3⟩ : ∃ A, A = bools 4 c.has := ⟨_, rfl⟩
  obtain ⟨ZA3, hZA3⟩ : ∃ A, A = bools 4 e.has := ⟨_, rfl⟩
  have rA3 := HY1.out.rHas
  have rZA3 := HY2.out.rHas
  have zA3 := row_four c.has
  have zZA3 := row_four e.has
  have eA3 := fun w => run_equalIn_bools 9998 Tryz.underlying44 Tryz.underlying4 Tryz.infoBool c.has e.has w
  rw [← hA3] at rA3 zA3 eA3
  rw [← hZA3] at rZA3 zZA3 eA3
  clear hA3 hZA3
  obtain ⟨A4, hA4⟩ : ∃ A, A = (rowF 4 fun i => Value.int .i64 (c.vals i)) := ⟨_, rfl⟩
  obtain ⟨ZA4, hZA4⟩ : ∃ A, A = (rowF 4 fun i => Value.int .i64 (e.vals i)) := ⟨_, rfl⟩
  have rA4 := HY1.out.rVals
  have rZA4 := HY2.out.rVals
  have zA4 := row_fourI c.vals
  have zZA4 := row_fourI e.vals
  have eA4 := fun w => run_equalIn_rows 9998 Tryz.underlying45 Tryz.underlying3 Tryz.infoInt1 c.vals e.vals w
  rw [← hA4] at rA4 zA4 eA4
  rw [← hZA4] at rZA4 zZA4 eA4
  clear hA4 hZA4
  rw [Ht3.out] at eA3
  go_wp2_with (first
    | ((with_reducible apply wpl_mid rA3); (· rfl); (· exact zA3); (· rfl); simp only [Act.put, List.setIfInBounds_toArray, List.set_cons_zero, List.set_cons_succ])
    | ((with_reducible apply wpl_mid rZA3); (· rfl); (· exact zZA3); (· rfl); simp only [Act.put, List.setIfInBounds_toArray, List.set_cons_zero, List.set_cons_succ])
    | ((with_reducible apply wpl_mid rA4); (· rfl); (· exact zA4); (· rfl); simp only [Act.put, List.setIfInBounds_toArray, List.set_cons_zero, List.set_cons_succ])
    | ((with_reducible apply wpl_mid rZA4); (· rfl); (· exact zZA4); (· rfl); simp only [Act.put, List.setIfInBounds_toArray, List.set_cons_zero, List.set_cons_succ])
    | fail)
  go_ret
  exact ⟨rfl, hw2⟩

theorem ref_sameCase_zero (gr : Array Value) (c : CaseL) (hr : Array Value) (w : World) (h : CaseV w gr c) (h' : CaseV w hr zeroC) (tb : c.begun = false) :
    Calls Tryz.prog 19 #[.agg gr, .agg hr] w fun r w' => r = .returned (.bool (goodCB c)) ∧ Below w.heap.size w w' := by
  have E : goodCB c = (!c.fixed && (c.ops.isEmpty && (sameB 6 c.told zeroC.told && (sameB 6 c.known zeroC.known && (c.deps.isEmpty && (sameB 4 c.has zeroC.has && sameI 4 c.vals zeroC.vals)))))) := by
    rw [zero_good tb, isZeroB]
    have e1 : decide (c.ops.length + c.deps.length = 0) = (c.ops.isEmpty && c.deps.isEmpty) := by
      cases c.ops <;> cases c.deps <;> simp
    rw [e1]
    show (!c.fixed && (c.ops.isEmpty && c.deps.isEmpty && (sameB 6 c.told zeroC.told && (sameB 6 c.known zeroC.known && (sameB 4 c.has zeroC.has && sameI 4 c.vals zeroC.vals))))) = _
    cases c.ops.isEmpty <;> cases c.deps.isEmpty <;> cases sameB 6 c.told zeroC.told <;> cases sameB 6 c.known zeroC.known <;> simp
  cases tf : c.fixed
  · cases tp : c.ops.isEmpty
    · rw [E, tf, tp]; exact sameZ_1 gr c hr zeroC w h h' rfl tb tf tp
    · cases t1 : sameB 6 c.told zeroC.told
      · rw [E, tf, tp, t1]; exact sameZ_2 gr c hr zeroC w h h' rfl tb tf tp t1
      · cases t2 : sameB 6 c.known zeroC.known
        · rw [E, tf, tp, t1, t2]; exact sameZ_3 gr c hr zeroC w h h' rfl tb tf tp t1 t2
        · cases td : c.deps.isEmpty
          · rw [E, tf, tp, t1, t2, td]; exact sameZ_4 gr c hr zeroC w h h' rfl tb tf tp t1 t2 td
          · cases t3 : sameB 4 c.has zeroC.has
            · rw [E, tf, tp, t1, t2, td, t3]; exact sameZ_5 gr c hr zeroC w h h' rfl tb tf tp t1 t2 td t3
            · rw [E, tf, tp, t1, t2, td, t3]; exact sameZ_6 gr c hr zeroC w h h' rfl tb tf tp t1 t2 td t3
  · rw [E, tf]; exact sameZ_0 gr c hr zeroC w h h' rfl tb tf

end Go.Proofs.YtkoefoccbjhoiacGreat

namespace Go.Proofs.YtkoefoccbjhoiacGreat
open Go.RowKit
set_option linter.unusedVariables false
set_option linter.unusedSimpArgs false

theorem zcN : Tryz.zeroCells32 = rowF 201 zv := by kernel_rfl
set_option maxRecDepth 100000 in
set_option maxHeartbeats 2000000 in
theorem nil_node (n : Int) (w : World) :
    Calls Tryz.prog 14 #[.pointer none, .int .i64 n] w fun e w' => e = .returned (.tuple #[.agg (rowF 201 zv), .bool false]) ∧ Below w.heap.size w w' := by
  obtain ⟨zr, hzr⟩ : ∃ zr, zr = rowF 201 zv := ⟨_, rfl⟩
  have hz0 := Tryz.zeroNode
  rw [← hzr] at hz0 ⊢
  have hzc := zcN
  rw [← hzr] at hzc
  have hsz : (Tryz.prog.info? 32).map (·.size) = some zr.size := by rw [hzr, rowF_size]; exact Tryz.infoNode
  have honz : zr.all (·.oneCell') = true := by rw [hzr]; exact rowF_all (zero_node (fun _ => True) w).one
  have r0 : (w.alloc (.cells zr 32)).heap[w.heap.size]? = some (.cells zr 32 (0, 0)) := heap_new _ _
  have hb : Below w.heap.size w ((w.alloc (.cells zr 32)).setRow w.heap.size zr) := setRow_below ((Below.refl _ _).alloc (Nat.le_refl _) _) (Nat.le_refl _) _
  clear hzr
  go_enter Tryz.func14, Tryz.ntmps14
  go_wp2_with (first
    | (refine wpList_alloc_as rfl 32 rfl zr hz0 ?_)
    | (refine wpList_store_row rfl 32 _ _ rfl w.heap.size zr rfl rfl 32 _ r0 hsz rfl honz ?_))
  exact bodyPost_ret (v := .tuple #[.agg zr, .bool false]) (results_row1 Tryz.results14 _ _ w.heap.size 32 zr (0, 0) _ rfl (heap_setRow r0) Tryz.underlying32 rfl hsz _ rfl) rfl ⟨rfl, hb⟩
set_option maxRecDepth 100000 in
set_option maxHeartbeats 2000000 in
theorem nil_case (n : Int) (w : World) :
    Calls Tryz.prog 20 #[.pointer none, .int .i64 n] w fun e w' => e = .returned (.agg (rowF 24 zcv)) ∧ Below w.heap.size w w' := by
  obtain ⟨zr, hzr⟩ : ∃ zr, zr = rowF 24 zcv := ⟨_, rfl⟩
  have hz0 := Tryz.zeroCase
  rw [← hzr] at hz0 ⊢
  have HZV : Hid (Value.agg #[.bool false, .bool false, .slice none 0 0, .bool false, .bool false, .bool false, .bool false, .bool false, .bool false, .bool false, .bool false, .bool false, .bool false, .bool false, .bool false, .slice none 0 0, .bool false, .bool false, .bool false, .bool false, .int .i64 0, .int .i64 0, .int .i64 0, .int .i64 0] = .agg zr) := by unfold Hid; rw [hzr]; rfl
  have hzc : (Tryz.prog.info? 47).map (·.size) = some zr.size := by rw [hzr, rowF_size]; exact Tryz.infoCase
  have hz1 : zr.all (·.oneCell') = true := by rw [hzr]; exact rowF_all (zcv_case (fun _ => True) w).one
  have r0 : (w.alloc (.cells zr 47)).heap[w.heap.size]? = some (.cells zr 47 (0, 0)) := heap_new _ _
  have hb : Below w.heap.size w ((w.alloc (.cells zr 47)).setRow w.heap.size zr) := setRow_below ((Below.refl _ _).alloc (Nat.le_refl _) _) (Nat.le_refl _) _
  clear hzr
  go_enter Tryz.func20, Tryz.ntmps20
  go_wp2_with (first
    | (refine wpList_alloc_as rfl 47 rfl zr hz0 ?_)
    | (refine wpList_store_row rfl 47 _ _ rfl w.heap.size zr rfl HZV.out 47 _ r0 hzc rfl hz1 ?_))
  exact bodyPost_ret (v := .agg zr) (results_cell_row Tryz.results20 _ _ w.heap.size 47 zr (0, 0) _ rfl (heap_setRow r0) Tryz.underlying47 rfl hzc) rfl ⟨rfl, hb⟩
set_option maxRecDepth 100000 in
theorem nil_log (n : Int) (w : World) :
    Calls Tryz.prog 18 #[.pointer none, .int .i64 n] w fun e w' => e = .returned (.string ⟨#[]⟩) ∧ Below w.heap.size w w' := by
  go_enter Tryz.func18, Tryz.ntmps18
  go_wp2
  go_ret
  exact ⟨rfl, Below.refl _ _⟩
set_option maxRecDepth 100000 in
theorem nil_net (w : World) :
    Calls Tryz.prog 21 #[.pointer none] w fun e w' => e = .returned (.slice none 0 0) ∧ Below w.heap.size w w' := by
  go_enter Tryz.func21, Tryz.ntmps21
  go_wp2
  go_ret
  exact ⟨rfl, Below.refl _ _⟩
set_option maxRecDepth 100000 in
set_option maxHeartbeats 2000000 in
theorem nil_do (a : ActL) (ad : Option Addr) (cap : Nat) (w : World) :
    Calls Tryz.prog 16 #[.pointer none, .agg #[.int .i64 a.kind, .int .i64 a.n, .int .i64 a.m, .slice ad a.ops.length cap]] w fun e w' => e = .returned (.agg #[.int .i64 4, .int .i64 0, .slice none 0 0]) ∧ Below w.heap.size w w' := by
  obtain ⟨W, hW⟩ : ∃ W, W = (w.alloc (.cells #[.int .i64 a.kind, .int .i64 a.n, .int .i64 a.m, .slice ad a.ops.length cap] 24)).alloc (.cells #[.int .i64 0, .int .i64 0, .slice none 0 0] 38) := ⟨_, rfl⟩
  have HW : Hid (W = (w.alloc (.cells #[.int .i64 a.kind, .int .i64 a.n, .int .i64 a.m, .slice ad a.ops.length cap] 24)).alloc (.cells #[.int .i64 0, .int .i64 0, .slice none 0 0] 38)) := hW
  have hbW : Below w.heap.size w W := by rw [hW]; exact ((Below.refl _ _).alloc (Nat.le_refl _) _).alloc (by rw [size_push]; omega) _
  obtain ⟨_, rR⟩ := two_rows w (.cells #[.int .i64 a.kind, .int .i64 a.n, .int .i64 a.m, .slice ad a.ops.length cap] 24) (.cells #[.int .i64 0, .int .i64 0, .slice none 0 0] 38)
  rw [← hW] at rR
  have zW : w.heap.size + 2 ≤ W.heap.size := by rw [hW, size_push, size_push]; exact Nat.le_refl _
  clear hW
  go_enter Tryz.func16, Tryz.ntmps16
  go_upto_region 1 with fail
  rw [← HW.out]
  clear HW
  go_wp2_with fail
  refine (q_refuse 4 W).mono ?_
  rintro e w1 ⟨rfl, hb1⟩
  have r1 : w1.heap[w.heap.size + 1]? = some (.cells #[.int .i64 0, .int .i64 0, .slice none 0 0] 38 (0, 0)) := by rw [hb1.block _ (by omega)]; exact rR
  go_wp2_with (first
    | (refine wpList_store_row rfl 38 _ _ rfl (w.heap.size + 1) #[.int .i64 4, .int .i64 0, .slice none 0 0] rfl rfl 38 _ r1 Tryz.infoReply3 rfl (one3 _ _ _ _ _) ?_)
    | fail)
  exact bodyPost_ret (v := .agg #[.int .i64 4, .int .i64 0, .slice none 0 0]) (results_cell_row Tryz.results16 _ _ (w.heap.size + 1) 38 #[.int .i64 4, .int .i64 0, .slice none 0 0] (0, 0) _ rfl (heap_setRow r1) Tryz.underlying38 rfl Tryz.infoReply3) rfl ⟨rfl, setRow_below (hbW.trans (hb1.mono (by omega))) (by omega) _⟩
set_option maxRecDepth 100000 in
set_option maxHeartbeats 2000000 in
theorem ref_sameReply4 (w : World) :
    Calls Tryz.prog 15 #[.agg #[.int .i64 4, .int .i64 0, .slice none 0 0], .agg #[.int .i64 4, .int .i64 0, .slice none 0 0]] w fun e w' => e = .returned (.bool true) ∧ Below w.heap.size w w' := by
  obtain ⟨W, hW⟩ : ∃ W, W = (w.alloc (.cells #[.int .i64 4, .int .i64 0, .slice none 0 0] 38)).alloc (.cells #[.int .i64 4, .int .i64 0, .slice none 0 0] 38) := ⟨_, rfl⟩
  have HW : Hid (W = (w.alloc (.cells #[.int .i64 4, .int .i64 0, .slice none 0 0] 38)).alloc (.cells #[.int .i64 4, .int .i64 0, .slice none 0 0] 38)) := hW
  have hbW : Below w.heap.size w W := by rw [hW]; exact ((Below.refl _ _).alloc (Nat.le_refl _) _).alloc (by rw [size_push]; omega) _
  obtain ⟨r0, r1⟩ := two_rows w (.cells #[.int .i64 4, .int .i64 0, .slice none 0 0] 38) (.cells #[.int .i64 4, .int .i64 0, .slice none 0 0] 38)
  rw [← hW] at r0 r1
  have p0 : W.cell? ⟨w.heap.size, 0, none⟩ = some (.int .i64 4) := by rw [cell_of_row _ _ _ _ _ _ r0]; rfl
  have p1 : W.cell? ⟨w.heap.size + 1, 0, none⟩ = some (.int .i64 4) := by rw [cell_of_row _ _ _ _ _ _ r1]; rfl
  have q0 : W.cell? ⟨w.heap.size, 1, none⟩ = some (.int .i64 0) := by rw [cell_of_row _ _ _ _ _ _ r0]; rfl
  have q1 : W.cell? ⟨w.heap.size + 1, 1, none⟩ = some (.int .i64 0) := by rw [cell_of_row _ _ _ _ _ _ r1]; rfl
  have z0 : W.cell? ⟨w.heap.size, 2, none⟩ = some (.slice none 0 0) := by rw [cell_of_row _ _ _ _ _ _ r0]; rfl
  have z1 : W.cell? ⟨w.heap.size + 1, 2, none⟩ = some (.slice none 0 0) := by rw [cell_of_row _ _ _ _ _ _ r1]; rfl
  clear hW r0 r1
  go_enter Tryz.func15, Tryz.ntmps15
  go_upto_region 1 with fail
  rw [← HW.out]
  clear HW
  go_wp2_with fail
  refine (sameNumbers_any none 0 [] none 0 W (by decide) (Or.inl rfl) (Or.inl rfl)).mono ?_
  rintro e w1 ⟨rfl, hb1⟩
  go_wp2_with fail
  go_ret
  exact ⟨rfl, hbW.trans (hb1.mono hbW.size)⟩
set_option maxRecDepth 100000 in
set_option maxHeartbeats 4000000 in
theorem clusterNil_any (v : Value) (a : ActL) (n : Int) (w : World) (hv : ActV w v a) :
    Calls Tryz.prog 3 #[v, .int .i64 n] w fun e w' => e = .returned (.bool true) ∧ Below w.heap.size w w' := by
  obtain ⟨ad, cap, rfl, _⟩ := hv
  obtain ⟨zr, hzr⟩ : ∃ zr, zr = rowF 201 zv := ⟨_, rfl⟩
  have hz0 := Tryz.zeroNode
  rw [← hzr] at hz0
  have hzc := zcN
  rw [← hzr] at hzc
  have hsz : (Tryz.prog.info? 32).map (·.size) = some zr.size := by rw [hzr, rowF_size]; exact Tryz.infoNode
  have honz : zr.all (·.oneCell') = true := by rw [hzr]; exact rowF_all (zero_node (fun _ => True) w).one
  have tN : RowT Tryz.prog 32 zr.size := ⟨_, Tryz.underlying32, rfl, hsz⟩
  have HNN : Hid (∀ wx, Calls Tryz.prog 14 #[.pointer none, .int .i64 n] wx fun e w' => e = .returned (.tuple #[.agg zr, .bool false]) ∧ Below wx.heap.size wx w') := fun wx => by rw [hzr]; exact nil_node n wx
  have HSN : Hid (∀ wx, Calls Tryz.prog 17 #[.agg zr, .agg zr] wx fun e w' => e = .returned (.bool true) ∧ Below wx.heap.size wx w') := fun wx => by rw [hzr]; exact ref_sameNode zv zv zeroN wx (zero_node _ _) (zero_node _ _)
  obtain ⟨zc, hzcc⟩ : ∃ zc, zc = rowF 24 zcv := ⟨_, rfl⟩
  have HNC : Hid (∀ wx, Calls Tryz.prog 20 #[.pointer none, .int .i64 n] wx fun e w' => e = .returned (.agg zc) ∧ Below wx.heap.size wx w') := fun wx => by rw [hzcc]; exact nil_case n wx
  have HSC : Hid (∀ wx, Calls Tryz.prog 19 #[.agg zc, .agg #[.bool false, .bool false, .slice none 0 0, .bool false, .bool false, .bool false, .bool false, .bool false, .bool false, .bool false, .bool false, .bool false, .bool false, .bool false, .bool false, .slice none 0 0, .bool false, .bool false, .bool false, .bool false, .int .i64 0, .int .i64 0, .int .i64 0, .int .i64 0]] wx fun e w' => e = .returned (.bool true) ∧ Below wx.heap.size wx w') := fun wx => by
    have e24 : (#[.bool false, .bool false, .slice none 0 0, .bool false, .bool false, .bool false, .bool false, .bool false, .bool false, .bool false, .bool false, .bool false, .bool false, .bool false, .bool false, .slice none 0 0, .bool false, .bool false, .bool false, .bool false, .int .i64 0, .int .i64 0, .int .i64 0, .int .i64 0] : Array Value) = rowF 24 zcv := rfl
    rw [e24, hzcc]
    exact ref_sameCase_zero _ zeroC _ wx (zero_case wx) (zero_case wx) rfl
  clear hzr hzcc
  obtain ⟨W, hW⟩ : ∃ W, W = w.alloc (.cells #[.int .i64 a.kind, .int .i64 a.n, .int .i64 a.m, .slice ad a.ops.length cap] 24) := ⟨_, rfl⟩
  have HW : Hid (W = w.alloc (.cells #[.int .i64 a.kind, .int .i64 a.n, .int .i64 a.m, .slice ad a.ops.length cap] 24)) := hW
  have hbW : Below w.heap.size w W := by rw [hW]; exact (Below.refl _ _).alloc (Nat.le_refl _) _
  have rA : W.heap[w.heap.size]? = some (.cells #[.int .i64 a.kind, .int .i64 a.n, .int .i64 a.m, .slice ad a.ops.length cap] 24 (0, 0)) := by rw [hW]; exact heap_new _ _
  have zW : w.heap.size + 1 ≤ W.heap.size := by rw [hW, size_push]; exact Nat.le_refl _
  clear hW
  go_enter Tryz.func3, Tryz.ntmps3
  go_upto_region 2 with fail
  rw [← HW.out]
  clear HW
  go_wp2_with fail
  refine (HNN.out W).mono ?_
  rintro e w1 ⟨rfl, hb1⟩
  have z1 := hb1.size
  have r0 : (w1.alloc (.cells zr 32)).heap[w1.heap.size]? = some (.cells zr 32 (0, 0)) := heap_new _ _
  obtain ⟨X, hX⟩ : ∃ X, X = (w1.alloc (.cells zr 32)).setRow w1.heap.size zr := ⟨_, rfl⟩
  have HX : Hid (X = (w1.alloc (.cells zr 32)).setRow w1.heap.size zr) := hX
  have hbX : Below w1.heap.size w1 X := by rw [hX]; exact setRow_below ((Below.refl _ _).alloc (Nat.le_refl _) _) (Nat.le_refl _) _
  have rX : X.heap[w1.heap.size]? = some (.cells zr 32 (0, 0)) := by rw [hX]; exact heap_setRow r0
  have lX : w1.heap.size < X.heap.size := (Array.getElem?_eq_some_iff.1 rX).1
  have rAX : X.heap[w.heap.size]? = some (.cells #[.int .i64 a.kind, .int .i64 a.n, .int .i64 a.m, .slice ad a.ops.length cap] 24 (0, 0)) := by rw [hbX.block _ (by omega), hb1.block _ (by omega)]; exact rA
  have hB : Below w.heap.size w X := (hbW.trans (hb1.mono hbW.size)).trans (hbX.mono (by omega))
  clear hX rA hbX hb1 hbW
  go_upto_region 3 with (first
    | (refine wpList_alloc_as rfl 32 rfl zr hz0 ?_)
    | (refine wpList_store_row rfl 32 _ _ rfl w1.heap.size zr rfl rfl 32 _ r0 hsz rfl honz ?_)
    | fail)
  rw [← HX.out]
  clear HX r0
  go_wp2_with (first | ((with_reducible apply wpl_row rAX); (· rfl); (· exact row_act _ _ _ _ _ _); (· rfl); simp only [Act.put, List.setIfInBounds_toArray, List.set_cons_zero, List.set_cons_succ]) | fail)
  refine (nil_do a ad cap X).mono ?_
  rintro e w2 ⟨rfl, hb2⟩
  go_wp2_with fail
  refine (ref_sameReply4 w2).mono ?_
  rintro e w3 ⟨rfl, hb3⟩
  have hb23 : Below X.heap.size X w3 := hb2.trans (hb3.mono hb2.size)
  have rX3 : w3.heap[w1.heap.size]? = some (.cells zr 32 (0, 0)) := by rw [hb23.block _ lX]; exact rX
  clear hb2 hb3
  go_wp2_with (first | ((with_reducible apply wpl_row rX3); (· rfl); (· exact tN); (· rfl); simp only [Act.put, List.setIfInBounds_toArray, List.set_cons_zero, List.set_cons_succ]) | fail)
  refine (HSN.out w3).mono ?_
  rintro e w4 ⟨rfl, hb4⟩
  go_wp2_with fail
  refine (nil_log n w4).mono ?_
  rintro e w5 ⟨rfl, hb5⟩
  go_wp2_with fail
  refine (HNC.out w5).mono ?_
  rintro e w6 ⟨rfl, hb6⟩
  go_wp2_with fail
  refine (HSC.out w6).mono ?_
  rintro e w7 ⟨rfl, hb7⟩
  go_wp2_with fail
  refine (nil_net w7).mono ?_
  rintro e w8 ⟨rfl, hb8⟩
  have hb38 : Below X.heap.size X w8 := ((((hb23.trans (hb4.mono hb23.size)).trans (hb5.mono (Nat.le_trans hb23.size hb4.size))).trans (hb6.mono (Nat.le_trans hb23.size (Nat.le_trans hb4.size hb5.size)))).trans (hb7.mono (Nat.le_trans hb23.size (Nat.le_trans hb4.size (Nat.le_trans hb5.size hb6.size))))).trans (hb8.mono (Nat.le_trans hb23.size (Nat.le_trans hb4.size (Nat.le_trans hb5.size (Nat.le_trans hb6.size hb7.size)))))
  clear hb23 hb4 hb5 hb6 hb7 hb8
  go_wp2_with fail
  go_ret
  exact ⟨rfl, hB.trans (hb38.mono hB.size)⟩

end Go.Proofs.YtkoefoccbjhoiacGreat
