/-
  The contract of post's Take.
  The statements' own look whether post answers at all.
  A list of frames in memory.
  A case in a box beside which its lists lie; alloc and store of rows in a region that draws.
  A case in a box, its lists where 'ok' holds.
  The contract of the statements' own sameNumbers, at two lists that are alike.
-/
import Derived.Test.YtkoefoccbjhoiabPfx12
import Derived.Test.YtkoefoccbjhoiabPfx7
import Derived.Test.YtkoefoccbjhoiabPfx6
import Derived.Test.YtkoefoccbjhoiabPfx1
set_option linter.unusedVariables false
set_option linter.unusedSimpArgs false
namespace Go.Proofs.Ytkoefoccbjhoiab
open Go.RowKit


theorem good_kind {f : FrameL} (h : goodL f = 0) : 1 ≤ f.kind ∧ f.kind ≤ 5 := by
  unfold goodL at h
  split at h
  · omega
  · omega
/-- Take. -/
theorem p_take (gr : Array Value) (c : CaseL) (id : Int) (v : Value) (f : FrameL) (w : World) (h : CaseV w gr c) (hf : FrameV w v f) :
    Calls Try.prog 54 #[.agg gr, .int .i64 id, v] w fun e w' => ∃ gr' x, e = .returned (.tuple #[.agg gr', x, .int .i64 (takeC c id f).2.2]) ∧ CaseG w.heap.size w' gr' (takeC c id f).1 ∧ FramesV w.heap.size w' x (takeC c id f).2.1 ∧ Below w.heap.size w w' := by
  by_cases t0 : refC c id f = 0
  · obtain ⟨_, _, h3, h4, h5⟩ := ref_ok t0
    have hk := good_kind h3
    by_cases k2 : f.kind = 2
    · exact take_1 gr c id v f w h hf t0 k2
    · by_cases k4 : f.kind = 4
      · exact take_2 gr c id v f w h hf t0 k4
      · exact take_3 gr c id v f w h hf t0 (by omega)
  · exact take_0 gr c id v f w h hf t0

end Go.Proofs.Ytkoefoccbjhoiab

namespace Go.Proofs.Ytkoefoccbjhoiab
open Go.RowKit

def post3 : List FrameL := [⟨1, 0, 3, [(1, 2, 0)], [], [], []⟩, ⟨1, 1, 3, [(1, 2, 0)], [], [], []⟩, ⟨1, 2, 3, [(1, 2, 0)], [], [], []⟩]
theorem post3_eq : (beginC 3 [(1, 2, 0)]).2.1 = post3 := by rfl
theorem post3_code : (beginC 3 [(1, 2, 0)]).2.2 = 0 := by rfl
theorem post3_begun : (beginC 3 [(1, 2, 0)]).1.begun = true := by rfl

set_option maxRecDepth 100000 in
set_option maxHeartbeats 1000000 in
theorem keep_posts (w : World) : Calls Try.prog 56 #[] w fun e w' => e = .returned (.bool true) ∧ Below w.heap.size w w' := by
  obtain ⟨zr, hzr⟩ : ∃ zr, zr = rowF 24 zcv := ⟨_, rfl⟩
  have HZ0 : Hid ((Try.prog.info? 73).map (·.zero) = some (some (.agg zr))) := by unfold Hid; rw [hzr]; exact Try.zeroCase
  have hzz : zr.size = 24 := by rw [hzr, rowF_size]
  obtain ⟨W, hW⟩ : ∃ W, W = w.alloc (.cells #[.int .i64 1, .int .i64 2, .int .i64 0] 108) := ⟨_, rfl⟩
  have hb : Below w.heap.size w W := by rw [hW]; exact (Below.refl _ _).alloc (Nat.le_refl _) _
  have r0 : W.heap[w.heap.size]? = some (.cells #[.int .i64 1, .int .i64 2, .int .i64 0] 108 (0, 0)) := by rw [hW]; exact heap_new _ _
  have hsl : SlOps W (some ⟨w.heap.size, 0, none⟩) 1 [(1, 2, 0)] := by
    refine ⟨Or.inr ⟨w.heap.size, 0, rfl, (Array.getElem?_eq_some_iff.1 r0).1, fun i hi => ?_⟩, by decide, by decide, fun e => by cases e⟩
    have : i = 0 := by simp at hi; exact hi
    subst this
    exact ⟨by rw [cell_of_row _ _ _ _ _ _ r0]; rfl, by rw [cell_of_row _ _ _ _ _ _ r0]; rfl, by rw [cell_of_row _ _ _ _ _ _ r0]; rfl⟩
  have HW : Hid (W = w.alloc (.cells #[.int .i64 1, .int .i64 2, .int .i64 0] 108)) := hW
  have HB : Hid (Calls Try.prog 43 #[.agg #[.int .i64 3, .slice (some ⟨w.heap.size, 0, none⟩) 1 1]] W fun e w' => ∃ gr x, e = .returned (.tuple #[.agg gr, x, .int .i64 0]) ∧ CaseV w' gr (beginC 3 [(1, 2, 0)]).1 ∧ FramesV W.heap.size w' x post3 ∧ Below W.heap.size W w') := by
    have := p_begin 3 (some ⟨w.heap.size, 0, none⟩) 1 [(1, 2, 0)] W hsl
    rw [post3_eq, post3_code] at this
    exact this
  have hzW : w.heap.size ≤ W.heap.size := hb.size
  clear hW r0 hsl hzr
  go_enter Try.func56, Try.ntmps56
  go_wp2_with fail
  rw [← HW.out]
  clear HW
  refine Calls.mono HB.out ?_
  rintro e w1 ⟨gr, x, rfl, hcv, hfr, hb1⟩
  have rowZ : (w1.alloc (.cells zr 73)).heap[w1.heap.size]? = some (.cells zr 73 (0, 0)) := heap_new _ _
  have i9 := hcv.info
  have o9 := hcv.one
  have s9 : zr.size = gr.size := by rw [hzz, hcv.size]
  obtain ⟨X, hX⟩ : ∃ X, X = (w1.alloc (.cells zr 73)).setRow w1.heap.size gr := ⟨_, rfl⟩
  have hbX : Below w1.heap.size w1 X := by rw [hX]; exact setRow_below ((Below.refl _ _).alloc (Nat.le_refl _) _) (Nat.le_refl _) _
  have hbox : InBox w1.heap.size X gr (beginC 3 [(1, 2, 0)]).1 := ⟨by rw [hX]; exact heap_setRow rowZ, hcv.later hbX⟩
  have q0 : X.cell? ⟨w1.heap.size, 0, none⟩ = some (.bool true) := by rw [hbox.begun, post3_begun]
  obtain ⟨a, cap, ex⟩ := hfr.form
  have hlen : post3.length = 3 := rfl
  rw [ex] at hfr
  obtain ⟨g, cs, ea, hg, hcs, hc7, hfv⟩ := (hfr.later hbX).at (i := 2) (by decide)
  obtain ⟨b3, d3, b4, d4, b5, d5, b6, d6, ecs, _⟩ := hfv
  have k15 : X.cell? ⟨g, 15, none⟩ = some (.int .i64 2) := by
    have h1 : cs[1]? = some (.int .i64 2) := by
      have : cs.toArray[1]? = some (.int .i64 2) := by
        have e2 := congrArg (fun v : Value => match v with | .agg a => a[1]? | _ => none) ecs
        exact e2
      simpa using this
    exact hcs 1 _ h1
  have HbF : Hid (Below w.heap.size w X) := (hb.trans (hb1.mono hzW)).trans (hbX.mono (by have := hb1.size; omega))
  subst ea
  rw [hlen] at ex
  subst ex
  have HX : Hid (X = (w1.alloc (.cells zr 73)).setRow w1.heap.size gr) := hX
  clear hX hbox hfr hcs hcv hbX ecs
  go_upto_region 2 with (first
    | (refine wpList_alloc_as rfl 73 rfl zr HZ0.out ?_)
    | (refine wpList_store_row rfl 73 _ _ rfl w1.heap.size gr rfl rfl 73 _ rowZ i9 s9 o9 ?_)
    | fail)
  rw [← HX.out]
  clear HX
  go_wp2
  go_ret
  exact ⟨rfl, HbF.out⟩

set_option maxRecDepth 100000 in
set_option maxHeartbeats 1000000 in
theorem law_posts (w : World) : Calls Try.prog 52 #[] w fun e w' => e = .returned (.bool true) ∧ Below w.heap.size w w' := by
  obtain ⟨zr, hzr⟩ : ∃ zr, zr = rowF 24 zcv := ⟨_, rfl⟩
  have HZ0 : Hid ((Try.prog.info? 73).map (·.zero) = some (some (.agg zr))) := by unfold Hid; rw [hzr]; exact Try.zeroCase
  have hzz : zr.size = 24 := by rw [hzr, rowF_size]
  obtain ⟨W, hW⟩ : ∃ W, W = w.alloc (.cells #[.int .i64 1, .int .i64 2, .int .i64 0] 108) := ⟨_, rfl⟩
  have hb : Below w.heap.size w W := by rw [hW]; exact (Below.refl _ _).alloc (Nat.le_refl _) _
  have r0 : W.heap[w.heap.size]? = some (.cells #[.int .i64 1, .int .i64 2, .int .i64 0] 108 (0, 0)) := by rw [hW]; exact heap_new _ _
  have hsl : SlOps W (some ⟨w.heap.size, 0, none⟩) 1 [(1, 2, 0)] := by
    refine ⟨Or.inr ⟨w.heap.size, 0, rfl, (Array.getElem?_eq_some_iff.1 r0).1, fun i hi => ?_⟩, by decide, by decide, fun e => by cases e⟩
    have : i = 0 := by simp at hi; exact hi
    subst this
    exact ⟨by rw [cell_of_row _ _ _ _ _ _ r0]; rfl, by rw [cell_of_row _ _ _ _ _ _ r0]; rfl, by rw [cell_of_row _ _ _ _ _ _ r0]; rfl⟩
  have HW : Hid (W = w.alloc (.cells #[.int .i64 1, .int .i64 2, .int .i64 0] 108)) := hW
  have HB : Hid (Calls Try.prog 43 #[.agg #[.int .i64 3, .slice (some ⟨w.heap.size, 0, none⟩) 1 1]] W fun e w' => ∃ gr x, e = .returned (.tuple #[.agg gr, x, .int .i64 0]) ∧ CaseV w' gr (beginC 3 [(1, 2, 0)]).1 ∧ FramesV W.heap.size w' x post3 ∧ Below W.heap.size W w') := by
    have := p_begin 3 (some ⟨w.heap.size, 0, none⟩) 1 [(1, 2, 0)] W hsl
    rw [post3_eq, post3_code] at this
    exact this
  have hzW : w.heap.size ≤ W.heap.size := hb.size
  clear hW r0 hsl hzr
  go_enter Try.func52, Try.ntmps52
  go_wp2_with fail
  rw [← HW.out]
  clear HW
  refine Calls.mono HB.out ?_
  rintro e w1 ⟨gr, x, rfl, hcv, hfr, hb1⟩
  have rowZ : (w1.alloc (.cells zr 73)).heap[w1.heap.size]? = some (.cells zr 73 (0, 0)) := heap_new _ _
  have i9 := hcv.info
  have o9 := hcv.one
  have s9 : zr.size = gr.size := by rw [hzz, hcv.size]
  obtain ⟨X, hX⟩ : ∃ X, X = (w1.alloc (.cells zr 73)).setRow w1.heap.size gr := ⟨_, rfl⟩
  have hbX : Below w1.heap.size w1 X := by rw [hX]; exact setRow_below ((Below.refl _ _).alloc (Nat.le_refl _) _) (Nat.le_refl _) _
  have hbox : InBox w1.heap.size X gr (beginC 3 [(1, 2, 0)]).1 := ⟨by rw [hX]; exact heap_setRow rowZ, hcv.later hbX⟩
  have q0 : X.cell? ⟨w1.heap.size, 0, none⟩ = some (.bool true) := by rw [hbox.begun, post3_begun]
  obtain ⟨a, cap, ex⟩ := hfr.form
  have hlen : post3.length = 3 := rfl
  rw [ex] at hfr
  obtain ⟨g, cs, ea, hg, hcs, hc7, hfv⟩ := (hfr.later hbX).at (i := 2) (by decide)
  obtain ⟨b3, d3, b4, d4, b5, d5, b6, d6, ecs, _⟩ := hfv
  have k15 : X.cell? ⟨g, 15, none⟩ = some (.int .i64 2) := by
    have h1 : cs[1]? = some (.int .i64 2) := by
      have : cs.toArray[1]? = some (.int .i64 2) := by
        have e2 := congrArg (fun v : Value => match v with | .agg a => a[1]? | _ => none) ecs
        exact e2
      simpa using this
    exact hcs 1 _ h1
  have HbF : Hid (Below w.heap.size w X) := (hb.trans (hb1.mono hzW)).trans (hbX.mono (by have := hb1.size; omega))
  subst ea
  rw [hlen] at ex
  subst ex
  have HX : Hid (X = (w1.alloc (.cells zr 73)).setRow w1.heap.size gr) := hX
  clear hX hbox hfr hcs hcv hbX ecs
  go_upto_region 2 with (first
    | (refine wpList_alloc_as rfl 73 rfl zr HZ0.out ?_)
    | (refine wpList_store_row rfl 73 _ _ rfl w1.heap.size gr rfl rfl 73 _ rowZ i9 s9 o9 ?_)
    | fail)
  rw [← HX.out]
  clear HX
  go_wp2
  go_ret
  exact ⟨rfl, HbF.out⟩

end Go.Proofs.Ytkoefoccbjhoiab

namespace Go.Proofs.Ytkoefoccbjhoiab
open Go.RowKit

/-- Where they lie. -/
def FrsIn (B : Nat) (w : World) (a : Option Addr) (fs : List FrameL) : Prop := fs = [] ∨ ∃ b off, a = some ⟨b, off, none⟩ ∧ b < B ∧ ∀ i, i < fs.length → ∃ cs, cs.length = 7 ∧ w.rangeAt b (off + i * 7) cs ∧ FrameV w (.agg cs.toArray) (fs.getD i zeroF)
theorem FramesV.frsIn {B : Nat} {w : World} {a : Option Addr} {cap : Nat} {fs : List FrameL} (h : FramesV B w (.slice a fs.length cap) fs) : FrsIn w.heap.size w a fs := by
  by_cases h0 : fs = []
  · exact Or.inl h0
  · have hp : 0 < fs.length := List.length_pos_iff.2 h0
    obtain ⟨g, _, ha, hg, _⟩ := h.at hp
    refine Or.inr ⟨g, 0, ha, hg, fun i hi => ?_⟩
    obtain ⟨g', cs, ha', _, hr, hl, hf⟩ := h.at hi
    rw [ha] at ha'
    cases ha'
    refine ⟨cs, hl, by rw [Nat.zero_add]; exact hr, ?_⟩
    have : fs.getD i zeroF = fs[i] := by simp [List.getD, hi]
    rw [this]
    exact hf

end Go.Proofs.Ytkoefoccbjhoiab

namespace Go.Proofs.Ytkoefoccbjhoiab
open Go.RowKit

theorem wpc_alloc {P : Program} {w : World} {o : Oper} {a : Act} {K : Act → World → Prop} {Q : Exit → Act → World → Prop} (ty : TypeId) (ho : o.op = .alloc ty) (cs : Array Value) (hz : (P.info? ty).map (·.zero) = some (some (.agg cs)))
    (h : K (a.put o.dst (.pointer (some ⟨w.heap.size, 0, none⟩))) (w.alloc (.cells cs ty))) : o.wp P a w K Q := by
  cases hq : P.info? ty with
  | none => simp [hq] at hz
  | some i =>
    have hzz : i.zero = some (.agg cs) := by simpa [hq] using hz
    unfold Oper.wp execOp
    simp [ho, Instr.alloc, zeroValue, typeInfo, hq, hzz, newVar, newRow, Value.cells, go_sem]
    exact h
structure LBox (b : Nat) (w : World) (gr : Array Value) (c : CaseL) : Prop where
  row : w.heap[b]? = some (.cells gr 73 (0, 0))
  case : ∃ nv, gr = rowF 24 nv ∧ CaseC (fun k => k ≠ b) w nv c
theorem LBox.box {b : Nat} {w : World} {gr : Array Value} {c : CaseL} (h : LBox b w gr c) : InBox b w gr c := by
  obtain ⟨nv, e, hc⟩ := h.case
  exact ⟨h.row, nv, e, hc.any⟩
theorem LBox.later {b : Nat} {w w' : World} {gr : Array Value} {c : CaseL} (h : LBox b w gr c) (hb : Below w.heap.size w w') : LBox b w' gr c := by
  obtain ⟨nv, e, hc⟩ := h.case
  exact ⟨by rw [hb.block b h.box.lt]; exact h.row, nv, e, hc.later (SameOn.of_size hb)⟩
/-- Another case, whose lists lie elsewhere, is put into the box. -/
theorem LBox.set {b : Nat} {w : World} {gr gr' : Array Value} {c c' : CaseL} (h : LBox b w gr c) {lo : Nat} (hc : CaseG lo w gr' c') (hlo : b < lo) : LBox b (w.setRow b gr') gr' c' := by
  obtain ⟨nv, e, hc⟩ := hc
  refine ⟨heap_setRow h.row, nv, e, ?_⟩
  exact (hc.later (w' := w.setRow b gr') (fun k _ hk => setRow_other _ _ (by have : lo ≤ k := hk; omega))).mono (fun k _ hk => by have : lo ≤ k := hk; show k ≠ b; omega)
theorem CaseG.later {lo : Nat} {w w' : World} {gr : Array Value} {c : CaseL} (h : CaseG lo w gr c) (hb : Below w.heap.size w w') : CaseG lo w' gr c := by
  obtain ⟨nv, e, hc⟩ := h
  exact ⟨nv, e, hc.later (SameOn.of_size hb)⟩
theorem CaseG.mono {lo lo' : Nat} {w : World} {gr : Array Value} {c : CaseL} (h : CaseG lo w gr c) (hl : lo' ≤ lo) : CaseG lo' w gr c := by
  obtain ⟨nv, e, hc⟩ := h
  exact ⟨nv, e, hc.mono (fun k _ hk => by have : lo ≤ k := hk; show lo' ≤ k; omega)⟩
/-- The k-th frame of a list that came in. -/
theorem FrsIn.at {B : Nat} {w : World} {a : Option Addr} {fs : List FrameL} (h : FrsIn B w a fs) {k : Nat} (hk : k < fs.length) : ∃ b off cs, a = some ⟨b, off, none⟩ ∧ b < B ∧ cs.length = 7 ∧ w.rangeAt b (off + k * 7) cs ∧ FrameV w (.agg cs.toArray) (fs.getD k zeroF) := by
  rcases h with e | ⟨b, off, rfl, hb, hc⟩
  · rw [e] at hk; simp at hk
  · obtain ⟨cs, h1, h2, h3⟩ := hc k hk
    exact ⟨b, off, cs, rfl, hb, h1, h2, h3⟩
theorem range_later {w w' : World} {b off : Nat} {cs : List Value} {B : Nat} (h : w.rangeAt b off cs) (hb : Below B w w') (hB : b < B) : w'.rangeAt b off cs := fun j v hv => by
  rw [hb.cell (p := ⟨b, off + j, none⟩) hB]
  exact h j v hv

end Go.Proofs.Ytkoefoccbjhoiab

namespace Go.Proofs.Ytkoefoccbjhoiab
open Go.RowKit

structure OBox (ok : Nat → Prop) (b : Nat) (w : World) (gr : Array Value) (c : CaseL) : Prop where
  row : w.heap[b]? = some (.cells gr 73 (0, 0))
  case : ∃ nv, gr = rowF 24 nv ∧ CaseC ok w nv c
theorem OBox.box {ok : Nat → Prop} {b : Nat} {w : World} {gr : Array Value} {c : CaseL} (h : OBox ok b w gr c) : InBox b w gr c := by
  obtain ⟨nv, e, hc⟩ := h.case
  exact ⟨h.row, nv, e, hc.any⟩
theorem OBox.keep {ok : Nat → Prop} {b : Nat} {w w' : World} {gr : Array Value} {c : CaseL} (h : OBox ok b w gr c) (hr : w'.heap[b]? = w.heap[b]?) (hs : SameOn ok w w') : OBox ok b w' gr c := by
  obtain ⟨nv, e, hc⟩ := h.case
  exact ⟨by rw [hr]; exact h.row, nv, e, hc.later hs⟩
theorem OBox.later {ok : Nat → Prop} {b : Nat} {w w' : World} {gr : Array Value} {c : CaseL} (h : OBox ok b w gr c) (hb : Below w.heap.size w w') : OBox ok b w' gr c :=
  h.keep (hb.block b h.box.lt) (SameOn.of_size hb)
theorem OBox.copy {ok : Nat → Prop} {b b' : Nat} {w : World} {gr : Array Value} {c : CaseL} (h : OBox ok b w gr c) (hr : w.heap[b']? = some (.cells gr 73 (0, 0))) : OBox ok b' w gr c := ⟨hr, h.case⟩
theorem bools_zero : (#[.bool false, .bool false, .bool false, .bool false, .bool false, .bool false] : Array Value) = bools 6 fun _ => false := rfl

end Go.Proofs.Ytkoefoccbjhoiab

namespace Go.Proofs.Ytkoefoccbjhoiab
open Go.RowKit

set_option maxRecDepth 100000 in
set_option maxHeartbeats 400000 in
theorem keep_same_any (a : Option Addr) (cap : Nat) (zs : List Int) (a' : Option Addr) (cap' : Nat) (w : World) (hl : zs.length ≤ maxLen) (hz : IntsAt w.heap.size w a zs) (hy : IntsAt w.heap.size w a' zs) :
    Calls Try.prog 20 #[.slice a zs.length cap, .slice a' zs.length cap'] w fun e w' => e = .returned (.bool true) ∧ Below w.heap.size w w' := by
  unfold maxLen at hl
  have hne : ((zs.length : Int) != (zs.length : Int)) = false := by simp
  rcases hz with rfl | ⟨b, off, rfl, hb, hc⟩
  · go_enter Try.func20, Try.ntmps20
    go_wp2
    refine wp_loop_rounds 1 ?_; rw [rounds_succ]
    go_wp2
    go_ret
    exact ⟨rfl, Below.refl _ _⟩
  rcases hy with rfl | ⟨b', off', rfl, hb', hc'⟩
  · go_enter Try.func20, Try.ntmps20
    go_wp2
    refine wp_loop_rounds 1 ?_; rw [rounds_succ]
    go_wp2
    go_ret
    exact ⟨rfl, Below.refl _ _⟩
  go_enter Try.func20, Try.ntmps20
  go_wp2
  go_loopw [13] (fun i wr => ∃ k : Nat, k ≤ zs.length ∧ i = .int .i64 k ∧ Below w.heap.size w wr) (fun i _ => zs.length - (intOf i).toNat)
  case atStart => exact ⟨0, Nat.zero_le _, rfl, Below.refl _ _⟩
  case round =>
    obtain ⟨k, hk, rfl, hB⟩ := hrel
    by_cases hlt : k < zs.length
    · obtain ⟨q, Hq, e0⟩ := IntsAt.at hc hb hB hlt
      have f0 : wr.cell? ⟨b', off' + k, none⟩ = some (.int .i64 q) := by rw [hB.cell (p := ⟨b', off' + k, none⟩) hb', ← Hq.out]; exact hc' k hlt
      have hi : (k : Int) < (zs.length : Int) := by omega
      clear hc hc'
      go_wp2
      go_quiet (fail)
      go_wp2
      go_roundw
      case rel => exact ⟨k + 1, by omega, by go_num, below_drewN hB _⟩
      case measure => simp [intOf]; omega
    · go_wp2
      go_ret
      exact ⟨rfl, hB⟩

end Go.Proofs.Ytkoefoccbjhoiab
