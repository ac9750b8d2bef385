/-
  The contract of post's refusal.
  A case behind a pointer: its box, its lists behind it; what a store makes of it. The contract of post's takeKnown.
  The contract of post's mostTold.
-/
import Derived.Test.YtkoefoccbjhoiacPrs7
set_option linter.unusedVariables false
set_option linter.unusedSimpArgs false
namespace Go.Proofs.Ytkoefoccbjhoiac
open Go.RowKit

/-- P6.4: why a case can't take a frame. -/
def refC (c : CaseL) (id : Int) (f : FrameL) : Int := if isCaseOfB c id = false ∨ f.id ≠ id then 2 else if goodL f ≠ 0 then goodL f else if f.kind = 1 ∨ f.kind = 3 then 3 else 0
theorem bad_iff (c : CaseL) (id : Int) (f : FrameL) : (goodCB c = false ∨ c.begun = false ∨ f.id ≠ id ∨ hasL c.deps id = true) ↔ (isCaseOfB c id = false ∨ f.id ≠ id) := by
  unfold isCaseOfB
  cases goodCB c <;> cases c.begun <;> cases hasL c.deps id <;> simp
theorem take_refused {c : CaseL} {id : Int} {f : FrameL} (h : refC c id f ≠ 0) : takeC c id f = (c, [], refC c id f) := by
  unfold refC at *
  unfold takeC
  by_cases h1 : isCaseOfB c id = false ∨ f.id ≠ id
  · rw [if_pos ((bad_iff c id f).2 h1), if_pos h1]
  · rw [if_neg (fun e => h1 ((bad_iff c id f).1 e)), if_neg h1]
    rw [if_neg h1] at h
    by_cases h2 : goodL f ≠ 0
    · rw [if_pos h2, if_pos h2]
    · rw [if_neg h2, if_neg h2]
      rw [if_neg h2] at h
      by_cases h3 : f.kind = 1 ∨ f.kind = 3
      · rw [if_pos h3, if_pos h3]
      · rw [if_neg h3] at h
        exact absurd rfl h
theorem ref_ok {c : CaseL} {id : Int} {f : FrameL} (h : refC c id f = 0) : isCaseOfB c id = true ∧ f.id = id ∧ goodL f = 0 ∧ f.kind ≠ 1 ∧ f.kind ≠ 3 := by
  unfold refC at h
  by_cases h1 : isCaseOfB c id = false ∨ f.id ≠ id
  · rw [if_pos h1] at h; exact absurd h (show (2 : Int) ≠ 0 by decide)
  · rw [if_neg h1] at h
    by_cases h2 : goodL f ≠ 0
    · rw [if_pos h2] at h; exact absurd h h2
    · rw [if_neg h2] at h
      by_cases h3 : f.kind = 1 ∨ f.kind = 3
      · rw [if_pos h3] at h; exact absurd h (show (3 : Int) ≠ 0 by decide)
      · refine ⟨?_, ?_, ?_, fun e => h3 (Or.inl e), fun e => h3 (Or.inr e)⟩
        · cases e : isCaseOfB c id
          · exact absurd (Or.inl e) h1
          · rfl
        · by_cases e : f.id = id
          · exact e
          · exact absurd (Or.inr e) h1
        · by_cases e : goodL f = 0
          · exact e
          · exact absurd e h2

set_option maxRecDepth 100000 in
set_option maxHeartbeats 1000000 in
theorem p_refusal (gr : Array Value) (c : CaseL) (id : Int) (v : Value) (f : FrameL) (w : World) (h : CaseV w gr c) (hf : FrameV w v f) :
    Calls Try.prog 14 #[.agg gr, .int .i64 id, v] w fun e w' => e = .returned (.int .i64 (refC c id f)) ∧ Below w.heap.size w w' := by
  have HFV : Hid (∀ x, Below w.heap.size w x → FrameV x v f) := fun x hx => hf.later hx
  obtain ⟨a3, c3, a4, c4, a5, c5, a6, c6, rfl, _⟩ := hf
  obtain ⟨W, hW⟩ : ∃ W, W = (w.alloc (.cells gr 31)).alloc (.cells #[.int .i64 f.kind, .int .i64 f.node, .int .i64 f.id, .slice a3 f.ops.length c3, .slice a4 f.deps.length c4, .slice a5 f.ats.length c5, .slice a6 f.vals.length c6] 38) := ⟨_, rfl⟩
  have hb : Below w.heap.size w W := by rw [hW]; exact ((Below.refl _ _).alloc (Nat.le_refl _) _).alloc (by rw [size_push]; omega) _
  have hzW : W.heap.size = w.heap.size + 2 := by rw [hW, size_push, size_push]
  have hB : InBox w.heap.size W gr c := by rw [hW]; exact (InBox.new h).later ((Below.refl _ _).alloc (Nat.le_refl _) _)
  have r1 : W.heap[w.heap.size + 1]? = some (.cells #[.int .i64 f.kind, .int .i64 f.node, .int .i64 f.id, .slice a3 f.ops.length c3, .slice a4 f.deps.length c4, .slice a5 f.ats.length c5, .slice a6 f.vals.length c6] 38 (0, 0)) := by rw [hW]; exact (two_rows w _ _).2
  have rB := hB.row
  have tB := hB.case.row
  have HB : Hid (InBox w.heap.size W gr c) := hB
  have HW : Hid (W = (w.alloc (.cells gr 31)).alloc (.cells #[.int .i64 f.kind, .int .i64 f.node, .int .i64 f.id, .slice a3 f.ops.length c3, .slice a4 f.deps.length c4, .slice a5 f.ats.length c5, .slice a6 f.vals.length c6] 38)) := hW
  clear hW hB h
  go_enter Try.func14, Try.ntmps14
  go_upto_region 1 with fail
  rw [← HW.out]
  clear HW
  go_wp2_with (first
    | ((with_reducible apply wpl_row rB); (· rfl); (· exact tB); (· rfl); simp only [Act.put, List.setIfInBounds_toArray, List.set_cons_zero, List.set_cons_succ])
    | fail)
  refine (p_isCaseOf gr c id W HB.out.case).mono ?_
  rintro e w1 ⟨rfl, hb1⟩
  have hbw : Below w.heap.size w w1 := hb.trans (hb1.mono hb.size)
  have HbW : Hid (Below w.heap.size w w1) := hbw
  have hz1 := hb1.size
  have r1' : w1.heap[w.heap.size + 1]? = some (.cells #[.int .i64 f.kind, .int .i64 f.node, .int .i64 f.id, .slice a3 f.ops.length c3, .slice a4 f.deps.length c4, .slice a5 f.ats.length c5, .slice a6 f.vals.length c6] 38 (0, 0)) := by rw [hb1.block _ (by omega)]; exact r1
  have q2 : w1.cell? ⟨w.heap.size + 1, 2, none⟩ = some (.int .i64 f.id) := by rw [cell_of_row _ _ _ _ _ _ r1']; rfl
  clear rB hb1 HB hb r1
  cases t1 : isCaseOfB c id
  · have HE : Hid (refC c id f = 2) := by unfold Hid refC; rw [if_pos (Or.inl t1)]
    go_wp2
    go_ret
    exact ⟨ret_int HE.out.symm, HbW.out⟩
  by_cases t2 : f.id = id
  rotate_left
  · have HE : Hid (refC c id f = 2) := by unfold Hid refC; rw [if_pos (Or.inr t2)]
    have d2 : (f.id != id) = true := by simpa using t2
    clear t2
    go_wp2
    go_ret
    exact ⟨ret_int HE.out.symm, HbW.out⟩
  have HE : Hid (refC c id f = if goodL f ≠ 0 then goodL f else if f.kind = 1 ∨ f.kind = 3 then 3 else 0) := by
    unfold Hid refC
    rw [if_neg]
    rintro (e | e)
    · rw [t1] at e; cases e
    · exact e t2
  have d2 : (f.id != id) = false := by simpa using t2
  clear t2
  go_wp2_with (first
    | ((with_reducible apply wpl_row r1'); (· rfl); (· exact row_frame); (· rfl); simp only [Act.put, List.setIfInBounds_toArray, List.set_cons_zero, List.set_cons_succ])
    | fail)
  refine (wgood_any _ f w1 (HFV.out w1 hbw)).mono ?_
  rintro e w2 ⟨rfl, hb2⟩
  have HB2 : Hid (Below w.heap.size w w2) := HbW.out.trans (hb2.mono (by omega))
  have r2 : w2.heap[w.heap.size + 1]? = some (.cells #[.int .i64 f.kind, .int .i64 f.node, .int .i64 f.id, .slice a3 f.ops.length c3, .slice a4 f.deps.length c4, .slice a5 f.ats.length c5, .slice a6 f.vals.length c6] 38 (0, 0)) := by rw [hb2.block _ (by omega)]; exact r1'
  have q0 : w2.cell? ⟨w.heap.size + 1, 0, none⟩ = some (.int .i64 f.kind) := by rw [cell_of_row _ _ _ _ _ _ r2]; rfl
  clear hb2 r1' hbw q2
  by_cases t3 : goodL f = 0
  rotate_left
  · have HE2 : Hid (refC c id f = goodL f) := by unfold Hid; rw [HE.out, if_pos t3]
    have d3 : (goodL f != 0) = true := by simpa using t3
    clear t3
    go_wp2
    go_ret
    exact ⟨ret_int HE2.out.symm, HB2.out⟩
  have HE2 : Hid (refC c id f = if f.kind = 1 ∨ f.kind = 3 then 3 else 0) := by unfold Hid; rw [HE.out, if_neg (by simpa using t3)]
  have d3 : (goodL f != 0) = false := by simpa using t3
  clear t3
  by_cases k1 : f.kind = 1
  · have HE3 : Hid (refC c id f = 3) := by unfold Hid; rw [HE2.out, if_pos (Or.inl k1)]
    have d4 : (f.kind == 1) = true := by simpa using k1
    clear k1
    go_wp2
    go_ret
    exact ⟨ret_int HE3.out.symm, HB2.out⟩
  have d4 : (f.kind == 1) = false := by simpa using k1
  by_cases k3 : f.kind = 3
  · have HE3 : Hid (refC c id f = 3) := by unfold Hid; rw [HE2.out, if_pos (Or.inr k3)]
    have d5 : (f.kind == 3) = true := by simpa using k3
    clear k1 k3
    go_wp2
    go_ret
    exact ⟨ret_int HE3.out.symm, HB2.out⟩
  have d5 : (f.kind == 3) = false := by simpa using k3
  have HE3 : Hid (refC c id f = 0) := by
    unfold Hid
    rw [HE2.out, if_neg]
    rintro (e | e)
    · exact k1 e
    · exact k3 e
  clear k1 k3
  go_wp2
  go_ret
  exact ⟨ret_int HE3.out.symm, HB2.out⟩

end Go.Proofs.Ytkoefoccbjhoiac

namespace Go.Proofs.Ytkoefoccbjhoiac
open Go.RowKit

structure PBox (lo B : Nat) (w : World) (nv : Nat → Value) (c : CaseL) : Prop where
  row : w.heap[B]? = some (.cells (rowF 24 nv) 31 (0, 0))
  case : CaseC (lo ≤ ·) w nv c
  lt : B < lo
theorem PBox.box {lo B : Nat} {w : World} {nv : Nat → Value} {c : CaseL} (h : PBox lo B w nv c) : InBox B w (rowF 24 nv) c := ⟨h.row, ⟨nv, rfl, h.case.any⟩⟩
theorem PBox.blk {lo B : Nat} {w : World} {nv : Nat → Value} {c : CaseL} (h : PBox lo B w nv c) : BlkAt 24 w B nv := ⟨_, h.row⟩
theorem PBox.later {lo B : Nat} {w w' : World} {nv : Nat → Value} {c : CaseL} (h : PBox lo B w nv c) (hb : Below w.heap.size w w') : PBox lo B w' nv c :=
  ⟨by rw [hb.block B h.blk.lt]; exact h.row, h.case.later (SameOn.of_size hb), h.lt⟩
theorem PBox.drew {lo B : Nat} {w : World} {nv : Nat → Value} {c : CaseL} (h : PBox lo B w nv c) : PBox lo B w.drew nv c := h.later (Below.drew (Below.refl _ _))
def putV (nv : Nat → Value) (m : Nat) (v : Value) (i : Nat) : Value := if i = m then v else nv i
theorem PBox.put {lo B : Nat} {w : World} {nv : Nat → Value} {c c' : CaseL} (h : PBox lo B w nv c) (m : Nat) (v : Value) (hc : CaseC (lo ≤ ·) w (putV nv m v) c') : PBox lo B (w.setCell ⟨B, m, none⟩ v) (putV nv m v) c' := by
  refine ⟨?_, hc.later (fun k _ hk => Below.heap_setCell _ _ _ _ (show k ≠ B by have := h.lt; have : lo ≤ k := hk; omega)), h.lt⟩
  rw [heap_setCell_same w B m _ _ _ h.row, rowF_set]
  rfl
theorem CaseC.putTold {ok : Nat → Prop} {w : World} {nv : Nat → Value} {c : CaseL} (h : CaseC ok w nv c) {n : Nat} (hn : n < 6) (b : Bool) : CaseC ok w (putV nv (3 + n) (.bool b)) { c with told := upd c.told n b } := by
  refine ⟨?_, ?_, ?_, fun i hi => ?_, fun i hi => ?_, ?_, fun i hi => ?_, fun i hi => ?_⟩
  · unfold putV; rw [if_neg (by omega)]; exact h.begun
  · unfold putV; rw [if_neg (by omega)]; exact h.fixed
  · unfold putV; rw [if_neg (by omega)]; exact h.ops
  · unfold putV
    by_cases e : i = n
    · subst e; rw [if_pos rfl]; show _ = Value.bool (upd c.told i b i); rw [upd_same]
    · rw [if_neg (by omega)]; show _ = Value.bool (upd c.told n b i); rw [upd_other _ _ e]; exact h.told i hi
  · unfold putV; rw [if_neg (by omega)]; exact h.known i hi
  · unfold putV; rw [if_neg (by omega)]; exact h.deps
  · unfold putV; rw [if_neg (by omega)]; exact h.has i hi
  · unfold putV; rw [if_neg (by omega)]; exact h.vals i hi
theorem CaseC.putKnown {ok : Nat → Prop} {w : World} {nv : Nat → Value} {c : CaseL} (h : CaseC ok w nv c) {n : Nat} (hn : n < 6) (b : Bool) : CaseC ok w (putV nv (9 + n) (.bool b)) { c with known := upd c.known n b } := by
  refine ⟨?_, ?_, ?_, fun i hi => ?_, fun i hi => ?_, ?_, fun i hi => ?_, fun i hi => ?_⟩
  · unfold putV; rw [if_neg (by omega)]; exact h.begun
  · unfold putV; rw [if_neg (by omega)]; exact h.fixed
  · unfold putV; rw [if_neg (by omega)]; exact h.ops
  · unfold putV; rw [if_neg (by omega)]; exact h.told i hi
  · unfold putV
    by_cases e : i = n
    · subst e; rw [if_pos rfl]; show _ = Value.bool (upd c.known i b i); rw [upd_same]
    · rw [if_neg (by omega)]; show _ = Value.bool (upd c.known n b i); rw [upd_other _ _ e]; exact h.known i hi
  · unfold putV; rw [if_neg (by omega)]; exact h.deps
  · unfold putV; rw [if_neg (by omega)]; exact h.has i hi
  · unfold putV; rw [if_neg (by omega)]; exact h.vals i hi
theorem CaseC.putHas {ok : Nat → Prop} {w : World} {nv : Nat → Value} {c : CaseL} (h : CaseC ok w nv c) {n : Nat} (hn : n < 4) (b : Bool) : CaseC ok w (putV nv (16 + n) (.bool b)) { c with has := upd c.has n b } := by
  refine ⟨?_, ?_, ?_, fun i hi => ?_, fun i hi => ?_, ?_, fun i hi => ?_, fun i hi => ?_⟩
  · unfold putV; rw [if_neg (by omega)]; exact h.begun
  · unfold putV; rw [if_neg (by omega)]; exact h.fixed
  · unfold putV; rw [if_neg (by omega)]; exact h.ops
  · unfold putV; rw [if_neg (by omega)]; exact h.told i hi
  · unfold putV; rw [if_neg (by omega)]; exact h.known i hi
  · unfold putV; rw [if_neg (by omega)]; exact h.deps
  · unfold putV
    by_cases e : i = n
    · subst e; rw [if_pos rfl]; show _ = Value.bool (upd c.has i b i); rw [upd_same]
    · rw [if_neg (by omega)]; show _ = Value.bool (upd c.has n b i); rw [upd_other _ _ e]; exact h.has i hi
  · unfold putV; rw [if_neg (by omega)]; exact h.vals i hi
theorem CaseC.putVal {ok : Nat → Prop} {w : World} {nv : Nat → Value} {c : CaseL} (h : CaseC ok w nv c) {n : Nat} (hn : n < 4) (z : Int) : CaseC ok w (putV nv (20 + n) (.int .i64 z)) { c with vals := upd c.vals n z } := by
  refine ⟨?_, ?_, ?_, fun i hi => ?_, fun i hi => ?_, ?_, fun i hi => ?_, fun i hi => ?_⟩
  · unfold putV; rw [if_neg (by omega)]; exact h.begun
  · unfold putV; rw [if_neg (by omega)]; exact h.fixed
  · unfold putV; rw [if_neg (by omega)]; exact h.ops
  · unfold putV; rw [if_neg (by omega)]; exact h.told i hi
  · unfold putV; rw [if_neg (by omega)]; exact h.known i hi
  · unfold putV; rw [if_neg (by omega)]; exact h.deps
  · unfold putV; rw [if_neg (by omega)]; exact h.has i hi
  · unfold putV
    by_cases e : i = n
    · subst e; rw [if_pos rfl]; show _ = Value.int .i64 (upd c.vals i z i); rw [upd_same]
    · rw [if_neg (by omega)]; show _ = Value.int .i64 (upd c.vals n z i); rw [upd_other _ _ e]; exact h.vals i hi
theorem CaseC.putFixed {ok : Nat → Prop} {w : World} {nv : Nat → Value} {c : CaseL} (h : CaseC ok w nv c) (b : Bool) : CaseC ok w (putV nv 1 (.bool b)) { c with fixed := b } := by
  refine ⟨?_, ?_, ?_, fun i hi => ?_, fun i hi => ?_, ?_, fun i hi => ?_, fun i hi => ?_⟩
  · unfold putV; rw [if_neg (by omega)]; exact h.begun
  · rfl
  · unfold putV; rw [if_neg (by omega)]; exact h.ops
  · unfold putV; rw [if_neg (by omega)]; exact h.told i hi
  · unfold putV; rw [if_neg (by omega)]; exact h.known i hi
  · unfold putV; rw [if_neg (by omega)]; exact h.deps
  · unfold putV; rw [if_neg (by omega)]; exact h.has i hi
  · unfold putV; rw [if_neg (by omega)]; exact h.vals i hi
theorem CaseC.putDeps {ok : Nat → Prop} {w : World} {nv : Nat → Value} {c : CaseL} (h : CaseC ok w nv c) {v : Value} {ds : List Int} (hv : IsI ok w v ds) : CaseC ok w (putV nv 15 v) { c with deps := ds } := by
  refine ⟨?_, ?_, ?_, fun i hi => ?_, fun i hi => ?_, ?_, fun i hi => ?_, fun i hi => ?_⟩
  · unfold putV; rw [if_neg (by omega)]; exact h.begun
  · unfold putV; rw [if_neg (by omega)]; exact h.fixed
  · unfold putV; rw [if_neg (by omega)]; exact h.ops
  · unfold putV; rw [if_neg (by omega)]; exact h.told i hi
  · unfold putV; rw [if_neg (by omega)]; exact h.known i hi
  · exact hv
  · unfold putV; rw [if_neg (by omega)]; exact h.has i hi
  · unfold putV; rw [if_neg (by omega)]; exact h.vals i hi
theorem CaseC.putOps {ok : Nat → Prop} {w : World} {nv : Nat → Value} {c : CaseL} (h : CaseC ok w nv c) {v : Value} {zs : List OpL} (hv : IsO ok w v zs) : CaseC ok w (putV nv 2 v) { c with ops := zs } := by
  refine ⟨?_, ?_, ?_, fun i hi => ?_, fun i hi => ?_, ?_, fun i hi => ?_, fun i hi => ?_⟩
  · unfold putV; rw [if_neg (by omega)]; exact h.begun
  · unfold putV; rw [if_neg (by omega)]; exact h.fixed
  · exact hv
  · unfold putV; rw [if_neg (by omega)]; exact h.told i hi
  · unfold putV; rw [if_neg (by omega)]; exact h.known i hi
  · unfold putV; rw [if_neg (by omega)]; exact h.deps
  · unfold putV; rw [if_neg (by omega)]; exact h.has i hi
  · unfold putV; rw [if_neg (by omega)]; exact h.vals i hi
/-- All blocks that were there, but one, are as they were. -/
theorem grownR_refl (w : World) (row : Option Nat) : w.grownBy w row := ⟨rfl, rfl, rfl, Nat.le_refl _, fun _ _ _ => rfl⟩
theorem grownR_below {a w w' : World} {B : Nat} (h : a.grownBy w (some B)) (hb : Below w.heap.size w w') : a.grownBy w' (some B) :=
  ⟨hb.os.trans h.os, hb.tape.trans h.tape, hb.output.trans h.output, by have := h.size; have := hb.size; omega, fun k hk hr => by rw [hb.block k (by have := h.size; omega)]; exact h.block k hk hr⟩
theorem grownR_drew {a w : World} {B : Nat} (h : a.grownBy w (some B)) : a.grownBy w.drew (some B) := ⟨h.os, h.tape, h.output, h.size, h.block⟩

set_option maxRecDepth 100000 in
set_option maxHeartbeats 1000000 in
theorem p_takeKnown (lo B : Nat) (nv : Nat → Value) (c : CaseL) (v : Value) (f : FrameL) (w : World) (h : PBox lo B w nv c) (hf : FrameV w v f) (hn : 0 ≤ f.node ∧ f.node < 6) :
    Calls Try.prog 16 #[.pointer (some ⟨B, 0, none⟩), v] w fun e w' => e = .returned (.tuple #[]) ∧ ∃ nv', PBox lo B w' nv' (if c.fixed then { c with known := upd c.known f.node.toNat true } else c) ∧ w.grownBy w' (some B) := by
  obtain ⟨d, hd⟩ : ∃ d, d = (if c.fixed then { c with known := upd c.known f.node.toNat true } else c) := ⟨_, rfl⟩
  rw [← hd]
  have HD : Hid (d = (if c.fixed then { c with known := upd c.known f.node.toNat true } else c)) := hd
  clear hd
  obtain ⟨a3, c3, a4, c4, a5, c5, a6, c6, rfl, _⟩ := hf
  obtain ⟨n, hn6, en⟩ : ∃ n : Nat, n < 6 ∧ f.node = n := ⟨f.node.toNat, by omega, by omega⟩
  have HN : Hid (f.node.toNat = n) := by unfold Hid; omega
  obtain ⟨W, hW⟩ : ∃ W, W = w.alloc (.cells #[.int .i64 f.kind, .int .i64 f.node, .int .i64 f.id, .slice a3 f.ops.length c3, .slice a4 f.deps.length c4, .slice a5 f.ats.length c5, .slice a6 f.vals.length c6] 38) := ⟨_, rfl⟩
  have hb : Below w.heap.size w W := by rw [hW]; exact (Below.refl _ _).alloc (Nat.le_refl _) _
  have hP : PBox lo B W nv c := h.later hb
  have r1 : W.heap[w.heap.size]? = some (.cells #[.int .i64 f.kind, .int .i64 f.node, .int .i64 f.id, .slice a3 f.ops.length c3, .slice a4 f.deps.length c4, .slice a5 f.ats.length c5, .slice a6 f.vals.length c6] 38 (0, 0)) := by rw [hW]; exact heap_new _ _
  have k1 : W.cell? ⟨w.heap.size, 1, none⟩ = some (.int .i64 n) := by rw [cell_of_row _ _ _ _ _ _ r1, ← en]; rfl
  have q1 := hP.box.fixed
  have q9 := hP.box.known hn6
  have f9 : W.frozen? ⟨B, 9 + n, none⟩ = false := hP.blk.frozen _
  have n1 : (0 : Int) ≤ (n : Int) ∧ (n : Int) < 6 := by omega
  have HP : Hid (PBox lo B W nv c) := hP
  have HW : Hid (W = w.alloc (.cells #[.int .i64 f.kind, .int .i64 f.node, .int .i64 f.id, .slice a3 f.ops.length c3, .slice a4 f.deps.length c4, .slice a5 f.ats.length c5, .slice a6 f.vals.length c6] 38)) := hW
  have HGr : Hid (w.grownBy W (some B)) := grownR_below (grownR_refl _ _) hb
  clear hW hP h r1 en hn
  go_enter Try.func16, Try.ntmps16
  go_upto_region 1 with fail
  rw [← HW.out]
  clear HW
  cases t0 : c.fixed
  · rw [t0] at q1
    have HE : Hid (d = c) := by unfold Hid; rw [HD.out, t0]; rfl
    clear t0
    go_wp2
    go_end0
    exact ⟨rfl, nv, by rw [HE.out]; exact HP.out, HGr.out⟩
  · rw [t0] at q1
    have HE : Hid (d = { c with known := upd c.known n true }) := by unfold Hid; rw [HD.out, t0, HN.out]; rfl
    clear t0
    go_wp2
    go_region
    all_goals
      go_wp2
      go_end0
      refine ⟨rfl, putV nv (9 + n) (.bool true), ?_, ?_⟩
      · rw [HE.out]
        exact HP.out.drew.put (9 + n) (.bool true) (HP.out.drew.case.putKnown hn6 true)
      · exact grown_put_same (grownR_drew HGr.out) _ _

end Go.Proofs.Ytkoefoccbjhoiac

namespace Go.Proofs.Ytkoefoccbjhoiac
open Go.RowKit

theorem Try.infoPair : (Try.prog.info? 70).map (·.size) = some 2 := by kernel_rfl

theorem run_index_pair {P : Program} {t e : TypeId} (ht : P.underlying t = some (.array 2 e)) (he : P.underlying e = some (.int .i64)) (hi : (P.info? e).map (·.size) = some 1) (x0 x1 : Int) (w : World) :
    (Instr.index t (.agg #[.int .i64 x0, .int .i64 x1]) (.int .i64 0)).run P w = .ok (.int .i64 x0) w ∧ (Instr.index t (.agg #[.int .i64 x0, .int .i64 x1]) (.int .i64 1)).run P w = .ok (.int .i64 x1) w := by
  cases hq : P.info? e with
  | none => simp [hq] at hi
  | some i =>
    have hs : i.size = 1 := by simpa [hq] using hi
    constructor <;> simp [Instr.index, run_underlying ht, part, isAgg, run_underlying he, sizeOf, typeInfo, hq, hs, go_sem]

set_option maxRecDepth 100000 in
set_option maxHeartbeats 1000000 in
theorem p_mostTold (lo B : Nat) (nv : Nat → Value) (c : CaseL) (w : World) (h : PBox lo B w nv c) :
    Calls Try.prog 27 #[.pointer (some ⟨B, 0, none⟩)] w fun e w' => e = .returned (.bool (mostB c.ops c.told)) ∧ Below w.heap.size w w' := by
  obtain ⟨W, hW⟩ : ∃ W, W = w.alloc (.cells #[.int .i64 0, .int .i64 0] 70) := ⟨_, rfl⟩
  have hb : Below w.heap.size w W := by rw [hW]; exact (Below.refl _ _).alloc (Nat.le_refl _) _
  have hzW : W.heap.size = w.heap.size + 1 := by rw [hW]; exact size_push _ _
  have hP : PBox lo B W nv c := h.later hb
  have r0 : W.heap[w.heap.size]? = some (.cells #[.int .i64 0, .int .i64 0] 70 (0, 0)) := by rw [hW]; exact heap_new _ _
  have HW : Hid (W = w.alloc (.cells #[.int .i64 0, .int .i64 0] 70)) := hW
  have HP : Hid (∀ x, Below w.heap.size w x → PBox lo B x nv c) := fun x hx => h.later hx
  have rA := hP.box.rTold
  have zA := row_six c.told
  obtain ⟨A, hA⟩ : ∃ A, A = bools 6 c.told := ⟨_, rfl⟩
  rw [← hA] at rA zA
  have HA : Hid (A = bools 6 c.told) := hA
  have HR0 : Hid (W.heap[w.heap.size]? = some (.cells #[.int .i64 0, .int .i64 0] 70 (0, 0))) := r0
  have HB0 : Hid (Below w.heap.size w W) := hb
  have HM := most_cnt c.ops c.told
  have HM : Hid (mostB c.ops c.told = (!(decide (cntT c.told 0 6 < 2) && touchesL c.ops 0) && !(decide (cntT c.told 1 6 < 2) && touchesL c.ops 1))) := HM
  clear hW h hA hP r0 hb
  go_enter Try.func27, Try.ntmps27
  go_upto_region 2 with fail
  rw [← HW.out]
  clear HW
  go_wp2_with (first
    | ((with_reducible apply wpl_mid rA); (· rfl); (· exact zA); (· rfl); simp only [Act.put, List.setIfInBounds_toArray, List.set_cons_zero, List.set_cons_succ])
    | fail)
  go_loopw [12] (fun i wr => ∃ (k : Nat) (x0 x1 : Int), k ≤ 6 ∧ i = .int .i64 k ∧ Hid (((cntT c.told 0 k : Nat) : Int) = x0) ∧ Hid (((cntT c.told 1 k : Nat) : Int) = x1) ∧ Hid (wr.heap[w.heap.size]? = some (.cells #[.int .i64 x0, .int .i64 x1] 70 (0, 0))) ∧ Hid (Below w.heap.size w wr)) (fun i _ => 6 - (intOf i).toNat)
  case atStart => exact ⟨0, 0, 0, by omega, rfl, rfl, rfl, HR0, HB0⟩
  case round =>
    obtain ⟨k, x0, x1, hk, rfl, Hx0, Hx1, HR, HBw⟩ := hrel
    have hsz := HBw.out.size
    have bx0 : 0 ≤ x0 ∧ x0 ≤ 6 := by have := Hx0.out; have := cntT_le c.told 0 k; omega
    have bx1 : 0 ≤ x1 ∧ x1 ≤ 6 := by have := Hx1.out; have := cntT_le c.told 1 k; omega
    by_cases hlt : k < 6
    · have hix := fun wx => run_index_bools Try.underlying26 Try.underlying4 Try.infoBool c.told hlt wx
      rw [← HA.out] at hix
      have e0 : wr.cell? ⟨w.heap.size, 0, none⟩ = some (.int .i64 x0) := by rw [cell_of_row _ _ _ _ _ _ HR.out]; rfl
      have e1 : wr.cell? ⟨w.heap.size, 1, none⟩ = some (.int .i64 x1) := by rw [cell_of_row _ _ _ _ _ _ HR.out]; rfl
      have f0 : wr.frozen? ⟨w.heap.size, 0, none⟩ = false := frozen_of_row _ _ _ _ _ HR.out
      have f1 : wr.frozen? ⟨w.heap.size, 1, none⟩ = false := frozen_of_row _ _ _ _ _ HR.out
      have w0 : IntKind.i64.wrap (x0 + 1) = x0 + 1 := wraps_i64 _ (by omega) (by omega)
      have w1 : IntKind.i64.wrap (x1 + 1) = x1 + 1 := wraps_i64 _ (by omega) (by omega)
      have hkk : (k : Int) < 6 := by omega
      cases tt : c.told k
      · rw [tt] at hix
        have HC : Hid (cntT c.told 0 (k + 1) = cntT c.told 0 k) := by unfold Hid; simp [cntT, tt]
        have HC' : Hid (cntT c.told 1 (k + 1) = cntT c.told 1 k) := by unfold Hid; simp [cntT, tt]
        go_wp2
        go_roundw
        case rel => exact ⟨k + 1, x0, x1, by omega, by go_num, by rw [HC.out]; exact Hx0, by rw [HC'.out]; exact Hx1, HR, HBw⟩
        case measure => simp [intOf]; omega
      · rw [tt] at hix
        by_cases h3 : k < 3
        · have HO : Hid (ofL (k : Int) = 0) := by unfold Hid ofL; rw [if_pos (by omega)]
          have hO : ofL (k : Int) = 0 := HO.out
          have HC : Hid (cntT c.told 0 (k + 1) = cntT c.told 0 k + 1) := by unfold Hid; simp [cntT, tt, HO.out]
          have HC' : Hid (cntT c.told 1 (k + 1) = cntT c.told 1 k) := by unfold Hid; simp [cntT, tt, HO.out]
          go_wp2_with (go_at_call 25; refine (of_any _ _).mono ?_; rintro e w' ⟨rfl, rfl⟩)
          go_roundw
          case rel =>
            refine ⟨k + 1, x0 + 1, x1, by omega, by go_num, ?_, ?_, ?_, (Below.setCell HBw.out (Nat.le_refl _) _)⟩
            · rw [HC.out]; unfold Hid; have := Hx0.out; omega
            · rw [HC'.out]; exact Hx1.out
            · rw [heap_setCell_same _ _ _ _ _ _ HR.out]; rfl
          case measure => simp [intOf]; omega
        · have HO : Hid (ofL (k : Int) = 1) := by unfold Hid ofL; rw [if_neg (by omega)]
          have hO : ofL (k : Int) = 1 := HO.out
          have HC : Hid (cntT c.told 1 (k + 1) = cntT c.told 1 k + 1) := by unfold Hid; simp [cntT, tt, HO.out]
          have HC' : Hid (cntT c.told 0 (k + 1) = cntT c.told 0 k) := by unfold Hid; simp [cntT, tt, HO.out]
          go_wp2_with (go_at_call 25; refine (of_any _ _).mono ?_; rintro e w' ⟨rfl, rfl⟩)
          go_roundw
          case rel =>
            refine ⟨k + 1, x0, x1 + 1, by omega, by go_num, ?_, ?_, ?_, (Below.setCell HBw.out (Nat.le_refl _) _)⟩
            · rw [HC'.out]; exact Hx0.out
            · rw [HC.out]; unfold Hid; have := Hx1.out; omega
            · rw [heap_setCell_same _ _ _ _ _ _ HR.out]; rfl
          case measure => simp [intOf]; omega
    · have hk6 : k = 6 := by omega
      subst hk6
      have HPw : Hid (PBox lo B wr nv c) := HP.out wr HBw.out
      obtain ⟨a2, c2, q2, hs2, hl2⟩ := HPw.out.box.ops
      have e0 : wr.cell? ⟨w.heap.size, 0, none⟩ = some (.int .i64 x0) := by rw [cell_of_row _ _ _ _ _ _ HR.out]; rfl
      have e1 : wr.cell? ⟨w.heap.size, 1, none⟩ = some (.int .i64 x1) := by rw [cell_of_row _ _ _ _ _ _ HR.out]; rfl
      have HM2 : Hid (mostB c.ops c.told = (!(decide (x0 < 2) && touchesL c.ops 0) && !(decide (x1 < 2) && touchesL c.ops 1))) := by
        unfold Hid
        rw [HM.out, ← Hx0.out, ← Hx1.out]
        simp only [show ∀ n : Nat, decide (n < 2) = decide ((n : Int) < 2) from fun n => by rw [decide_eq_decide]; omega]
      clear HM
      have ix0 := fun wx => (run_index_pair Try.underlying70 Try.underlying3 Try.infoInt1 x0 x1 wx).1
      have ix1 := fun wx => (run_index_pair Try.underlying70 Try.underlying3 Try.infoInt1 x0 x1 wx).2
      by_cases d0 : x0 < 2
      · have D0 : Hid (decide (x0 < 2) = true) := decide_eq_true d0
        go_wp2_with fail
        refine wp_loop_rounds 3 ?_; rw [rounds_succ]
        go_wp2_with fail
        refine (touches_any a2 c2 c.ops 0 wr hs2.2.1 hs2.1).mono ?_
        rintro e w5 ⟨rfl, hb5⟩
        have HB5 : Hid (Below w.heap.size w w5) := HBw.out.trans (hb5.mono hsz)
        have q5 : w5.cell? ⟨B, 2, none⟩ = some (.slice a2 c.ops.length c2) := by rw [hb5.cell (p := ⟨B, 2, none⟩) HPw.out.blk.lt]; exact q2
        have hs5 := hs2.later hb5
        have hz5 := hb5.size
        clear hb5 q2
        cases u0 : touchesL c.ops 0
        · by_cases d1 : x1 < 2
          · go_wp2_with fail
            rw [rounds_succ]
            go_wp2_with fail
            refine (touches_any a2 c2 c.ops 1 w5 hs5.2.1 hs5.1).mono ?_
            rintro e w6 ⟨rfl, hb6⟩
            have HB6 : Hid (Below w.heap.size w w6) := HB5.out.trans (hb6.mono (by omega))
            clear hb6
            cases u1 : touchesL c.ops 1
            · have HE : Hid (mostB c.ops c.told = true) := by unfold Hid; rw [HM2.out, u0, u1]; simp
              go_wp2_with fail
              rw [rounds_succ]
              go_wp2
              go_ret
              exact ⟨ret_bool HE.out.symm, HB6.out⟩
            · have HE : Hid (mostB c.ops c.told = false) := by unfold Hid; rw [HM2.out, u0, u1, decide_eq_true d1]; simp
              go_wp2
              go_ret
              exact ⟨ret_bool HE.out.symm, HB6.out⟩
          · have HE : Hid (mostB c.ops c.told = true) := by unfold Hid; rw [HM2.out, u0, decide_eq_false d1]; simp
            go_wp2_with fail
            rw [rounds_succ]
            go_wp2_with fail
            rw [rounds_succ]
            go_wp2
            go_ret
            exact ⟨ret_bool HE.out.symm, HB5.out⟩
        · have HE : Hid (mostB c.ops c.told = false) := by unfold Hid; rw [HM2.out, u0, D0.out]; simp
          go_wp2
          go_ret
          exact ⟨ret_bool HE.out.symm, HB5.out⟩
      · have D0 : Hid (decide (x0 < 2) = false) := decide_eq_false d0
        go_wp2_with fail
        refine wp_loop_rounds 3 ?_; rw [rounds_succ]
        by_cases d1 : x1 < 2
        · go_wp2_with fail
          rw [rounds_succ]
          go_wp2_with fail
          refine (touches_any a2 c2 c.ops 1 wr hs2.2.1 hs2.1).mono ?_
          rintro e w6 ⟨rfl, hb6⟩
          have HB6 : Hid (Below w.heap.size w w6) := HBw.out.trans (hb6.mono hsz)
          clear hb6
          cases u1 : touchesL c.ops 1
          · have HE : Hid (mostB c.ops c.told = true) := by unfold Hid; rw [HM2.out, u1, D0.out]; simp
            go_wp2_with fail
            rw [rounds_succ]
            go_wp2
            go_ret
            exact ⟨ret_bool HE.out.symm, HB6.out⟩
          · have HE : Hid (mostB c.ops c.told = false) := by unfold Hid; rw [HM2.out, u1, D0.out, decide_eq_true d1]; simp
            go_wp2
            go_ret
            exact ⟨ret_bool HE.out.symm, HB6.out⟩
        · have HE : Hid (mostB c.ops c.told = true) := by unfold Hid; rw [HM2.out, D0.out, decide_eq_false d1]; simp
          go_wp2_with fail
          rw [rounds_succ]
          go_wp2_with fail
          rw [rounds_succ]
          go_wp2
          go_ret
          exact ⟨ret_bool HE.out.symm, HBw.out⟩

end Go.Proofs.Ytkoefoccbjhoiac
