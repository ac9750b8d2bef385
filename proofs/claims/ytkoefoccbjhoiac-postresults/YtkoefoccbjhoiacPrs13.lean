/-
  The statements' own look whether post answers at all.
  A list of frames in memory.
  A case in a box beside which its lists lie; alloc and store of rows in a region that draws.
  The contract of the statements' own sameNumbers, at two lists that are alike.
  The walk of PostResults.
-/
import Derived.Test.YtkoefoccbjhoiacPrs7
import Derived.Test.YtkoefoccbjhoiacPrs6
import Derived.Test.YtkoefoccbjhoiacPrs12
import Derived.Test.YtkoefoccbjhoiacPrs1
set_option linter.unusedVariables false
set_option linter.unusedSimpArgs false
namespace Go.Proofs.Ytkoefoccbjhoiac
open Go.RowKit

def post3 : List FrameL := [⟨1, 0, 3, [(1, 2, 0)], [], [], []⟩, ⟨1, 1, 3, [(1, 2, 0)], [], [], []⟩, ⟨1, 2, 3, [(1, 2, 0)], [], [], []⟩]
theorem post3_eq : (beginC 3 [(1, 2, 0)]).2.1 = post3 := by rfl
theorem post3_code : (beginC 3 [(1, 2, 0)]).2.2 = 0 := by rfl
theorem post3_begun : (beginC 3 [(1, 2, 0)]).1.begun = true := by rfl

set_option maxRecDepth 100000 in
set_option maxHeartbeats 1000000 in
theorem keep_posts (w : World) : Calls Try.prog 5 #[] w fun e w' => e = .returned (.bool true) ∧ Below w.heap.size w w' := by
  obtain ⟨zr, hzr⟩ : ∃ zr, zr = rowF 24 zcv := ⟨_, rfl⟩
  have HZ0 : Hid ((Try.prog.info? 31).map (·.zero) = some (some (.agg zr))) := by unfold Hid; rw [hzr]; exact Try.zeroCase
  have hzz : zr.size = 24 := by rw [hzr, rowF_size]
  obtain ⟨W, hW⟩ : ∃ W, W = w.alloc (.cells #[.int .i64 1, .int .i64 2, .int .i64 0] 47) := ⟨_, rfl⟩
  have hb : Below w.heap.size w W := by rw [hW]; exact (Below.refl _ _).alloc (Nat.le_refl _) _
  have r0 : W.heap[w.heap.size]? = some (.cells #[.int .i64 1, .int .i64 2, .int .i64 0] 47 (0, 0)) := by rw [hW]; exact heap_new _ _
  have hsl : SlOps W (some ⟨w.heap.size, 0, none⟩) 1 [(1, 2, 0)] := by
    refine ⟨Or.inr ⟨w.heap.size, 0, rfl, (Array.getElem?_eq_some_iff.1 r0).1, fun i hi => ?_⟩, by decide, by decide, fun e => by cases e⟩
    have : i = 0 := by simp at hi; exact hi
    subst this
    exact ⟨by rw [cell_of_row _ _ _ _ _ _ r0]; rfl, by rw [cell_of_row _ _ _ _ _ _ r0]; rfl, by rw [cell_of_row _ _ _ _ _ _ r0]; rfl⟩
  have HW : Hid (W = w.alloc (.cells #[.int .i64 1, .int .i64 2, .int .i64 0] 47)) := hW
  have HB : Hid (Calls Try.prog 4 #[.agg #[.int .i64 3, .slice (some ⟨w.heap.size, 0, none⟩) 1 1]] W fun e w' => ∃ gr x, e = .returned (.tuple #[.agg gr, x, .int .i64 0]) ∧ CaseV w' gr (beginC 3 [(1, 2, 0)]).1 ∧ FramesV W.heap.size w' x post3 ∧ Below W.heap.size W w') := by
    have := p_begin 3 (some ⟨w.heap.size, 0, none⟩) 1 [(1, 2, 0)] W hsl
    rw [post3_eq, post3_code] at this
    exact this
  have hzW : w.heap.size ≤ W.heap.size := hb.size
  clear hW r0 hsl hzr
  go_enter Try.func5, Try.ntmps5
  go_wp2_with fail
  rw [← HW.out]
  clear HW
  refine Calls.mono HB.out ?_
  rintro e w1 ⟨gr, x, rfl, hcv, hfr, hb1⟩
  have rowZ : (w1.alloc (.cells zr 31)).heap[w1.heap.size]? = some (.cells zr 31 (0, 0)) := heap_new _ _
  have i9 := hcv.info
  have o9 := hcv.one
  have s9 : zr.size = gr.size := by rw [hzz, hcv.size]
  obtain ⟨X, hX⟩ : ∃ X, X = (w1.alloc (.cells zr 31)).setRow w1.heap.size gr := ⟨_, rfl⟩
  have hbX : Below w1.heap.size w1 X := by rw [hX]; exact setRow_below ((Below.refl _ _).alloc (Nat.le_refl _) _) (Nat.le_refl _) _
  have hbox : InBox w1.heap.size X gr (beginC 3 [(1, 2, 0)]).1 := ⟨by rw [hX]; exact heap_setRow rowZ, hcv.later hbX⟩
  have q0 : X.cell? ⟨w1.heap.size, 0, none⟩ = some (.bool true) := by rw [hbox.begun, post3_begun]
  obtain ⟨a, cap, ex⟩ := hfr.form
  have hlen : post3.length = 3 := rfl
  rw [ex] at hfr
  obtain ⟨g, cs, ea, hg, hcs, hc7, hfv⟩ := (hfr.later hbX).at (i := 2) (by decide)
  obtain ⟨b3, d3, b4, d4, b5, d5, b6, d6, ecs, _⟩ := hfv
  have k15 : X.cell? ⟨g, 15, none⟩ = some (.int .i64 2) := by
    have h1 : cs[1]? = some (.int .i64 2) := by
      have : cs.toArray[1]? = some (.int .i64 2) := by
        have e2 := congrArg (fun v : Value => match v with | .agg a => a[1]? | _ => none) ecs
        exact e2
      simpa using this
    exact hcs 1 _ h1
  have HbF : Hid (Below w.heap.size w X) := (hb.trans (hb1.mono hzW)).trans (hbX.mono (by have := hb1.size; omega))
  subst ea
  rw [hlen] at ex
  subst ex
  have HX : Hid (X = (w1.alloc (.cells zr 31)).setRow w1.heap.size gr) := hX
  clear hX hbox hfr hcs hcv hbX ecs
  go_upto_region 2 with (first
    | (refine wpList_alloc_as rfl 31 rfl zr HZ0.out ?_)
    | (refine wpList_store_row rfl 31 _ _ rfl w1.heap.size gr rfl rfl 31 _ rowZ i9 s9 o9 ?_)
    | fail)
  rw [← HX.out]
  clear HX
  go_wp2
  go_ret
  exact ⟨rfl, HbF.out⟩

end Go.Proofs.Ytkoefoccbjhoiac

namespace Go.Proofs.Ytkoefoccbjhoiac
open Go.RowKit

/-- Where they lie. -/
def FrsIn (B : Nat) (w : World) (a : Option Addr) (fs : List FrameL) : Prop := fs = [] ∨ ∃ b off, a = some ⟨b, off, none⟩ ∧ b < B ∧ ∀ i, i < fs.length → ∃ cs, cs.length = 7 ∧ w.rangeAt b (off + i * 7) cs ∧ FrameV w (.agg cs.toArray) (fs.getD i zeroF)
theorem FramesV.frsIn {B : Nat} {w : World} {a : Option Addr} {cap : Nat} {fs : List FrameL} (h : FramesV B w (.slice a fs.length cap) fs) : FrsIn w.heap.size w a fs := by
  by_cases h0 : fs = []
  · exact Or.inl h0
  · have hp : 0 < fs.length := List.length_pos_iff.2 h0
    obtain ⟨g, _, ha, hg, _⟩ := h.at hp
    refine Or.inr ⟨g, 0, ha, hg, fun i hi => ?_⟩
    obtain ⟨g', cs, ha', _, hr, hl, hf⟩ := h.at hi
    rw [ha] at ha'
    cases ha'
    refine ⟨cs, hl, by rw [Nat.zero_add]; exact hr, ?_⟩
    have : fs.getD i zeroF = fs[i] := by simp [List.getD, hi]
    rw [this]
    exact hf

end Go.Proofs.Ytkoefoccbjhoiac

namespace Go.Proofs.Ytkoefoccbjhoiac
open Go.RowKit

theorem wpc_alloc {P : Program} {w : World} {o : Oper} {a : Act} {K : Act → World → Prop} {Q : Exit → Act → World → Prop} (ty : TypeId) (ho : o.op = .alloc ty) (cs : Array Value) (hz : (P.info? ty).map (·.zero) = some (some (.agg cs)))
    (h : K (a.put o.dst (.pointer (some ⟨w.heap.size, 0, none⟩))) (w.alloc (.cells cs ty))) : o.wp P a w K Q := by
  cases hq : P.info? ty with
  | none => simp [hq] at hz
  | some i =>
    have hzz : i.zero = some (.agg cs) := by simpa [hq] using hz
    unfold Oper.wp execOp
    simp [ho, Instr.alloc, zeroValue, typeInfo, hq, hzz, newVar, newRow, Value.cells, go_sem]
    exact h
structure LBox (b : Nat) (w : World) (gr : Array Value) (c : CaseL) : Prop where
  row : w.heap[b]? = some (.cells gr 31 (0, 0))
  case : ∃ nv, gr = rowF 24 nv ∧ CaseC (fun k => k ≠ b) w nv c
theorem LBox.box {b : Nat} {w : World} {gr : Array Value} {c : CaseL} (h : LBox b w gr c) : InBox b w gr c := by
  obtain ⟨nv, e, hc⟩ := h.case
  exact ⟨h.row, nv, e, hc.any⟩
theorem LBox.later {b : Nat} {w w' : World} {gr : Array Value} {c : CaseL} (h : LBox b w gr c) (hb : Below w.heap.size w w') : LBox b w' gr c := by
  obtain ⟨nv, e, hc⟩ := h.case
  exact ⟨by rw [hb.block b h.box.lt]; exact h.row, nv, e, hc.later (SameOn.of_size hb)⟩
/-- Another case, whose lists lie elsewhere, is put into the box. -/
theorem LBox.set {b : Nat} {w : World} {gr gr' : Array Value} {c c' : CaseL} (h : LBox b w gr c) {lo : Nat} (hc : CaseG lo w gr' c') (hlo : b < lo) : LBox b (w.setRow b gr') gr' c' := by
  obtain ⟨nv, e, hc⟩ := hc
  refine ⟨heap_setRow h.row, nv, e, ?_⟩
  exact (hc.later (w' := w.setRow b gr') (fun k _ hk => setRow_other _ _ (by have : lo ≤ k := hk; omega))).mono (fun k _ hk => by have : lo ≤ k := hk; show k ≠ b; omega)
theorem CaseG.later {lo : Nat} {w w' : World} {gr : Array Value} {c : CaseL} (h : CaseG lo w gr c) (hb : Below w.heap.size w w') : CaseG lo w' gr c := by
  obtain ⟨nv, e, hc⟩ := h
  exact ⟨nv, e, hc.later (SameOn.of_size hb)⟩
theorem CaseG.mono {lo lo' : Nat} {w : World} {gr : Array Value} {c : CaseL} (h : CaseG lo w gr c) (hl : lo' ≤ lo) : CaseG lo' w gr c := by
  obtain ⟨nv, e, hc⟩ := h
  exact ⟨nv, e, hc.mono (fun k _ hk => by have : lo ≤ k := hk; show lo' ≤ k; omega)⟩
/-- The k-th frame of a list that came in. -/
theorem FrsIn.at {B : Nat} {w : World} {a : Option Addr} {fs : List FrameL} (h : FrsIn B w a fs) {k : Nat} (hk : k < fs.length) : ∃ b off cs, a = some ⟨b, off, none⟩ ∧ b < B ∧ cs.length = 7 ∧ w.rangeAt b (off + k * 7) cs ∧ FrameV w (.agg cs.toArray) (fs.getD k zeroF) := by
  rcases h with e | ⟨b, off, rfl, hb, hc⟩
  · rw [e] at hk; simp at hk
  · obtain ⟨cs, h1, h2, h3⟩ := hc k hk
    exact ⟨b, off, cs, rfl, hb, h1, h2, h3⟩
theorem range_later {w w' : World} {b off : Nat} {cs : List Value} {B : Nat} (h : w.rangeAt b off cs) (hb : Below B w w') (hB : b < B) : w'.rangeAt b off cs := fun j v hv => by
  rw [hb.cell (p := ⟨b, off + j, none⟩) hB]
  exact h j v hv

end Go.Proofs.Ytkoefoccbjhoiac

namespace Go.Proofs.Ytkoefoccbjhoiac
open Go.RowKit

set_option maxRecDepth 100000 in
set_option maxHeartbeats 400000 in
theorem keep_same_any (a : Option Addr) (cap : Nat) (zs : List Int) (a' : Option Addr) (cap' : Nat) (w : World) (hl : zs.length ≤ maxLen) (hz : IntsAt w.heap.size w a zs) (hy : IntsAt w.heap.size w a' zs) :
    Calls Try.prog 8 #[.slice a zs.length cap, .slice a' zs.length cap'] w fun e w' => e = .returned (.bool true) ∧ Below w.heap.size w w' := by
  unfold maxLen at hl
  have hne : ((zs.length : Int) != (zs.length : Int)) = false := by simp
  rcases hz with rfl | ⟨b, off, rfl, hb, hc⟩
  · go_enter Try.func8, Try.ntmps8
    go_wp2
    refine wp_loop_rounds 1 ?_; rw [rounds_succ]
    go_wp2
    go_ret
    exact ⟨rfl, Below.refl _ _⟩
  rcases hy with rfl | ⟨b', off', rfl, hb', hc'⟩
  · go_enter Try.func8, Try.ntmps8
    go_wp2
    refine wp_loop_rounds 1 ?_; rw [rounds_succ]
    go_wp2
    go_ret
    exact ⟨rfl, Below.refl _ _⟩
  go_enter Try.func8, Try.ntmps8
  go_wp2
  go_loopw [13] (fun i wr => ∃ k : Nat, k ≤ zs.length ∧ i = .int .i64 k ∧ Below w.heap.size w wr) (fun i _ => zs.length - (intOf i).toNat)
  case atStart => exact ⟨0, Nat.zero_le _, rfl, Below.refl _ _⟩
  case round =>
    obtain ⟨k, hk, rfl, hB⟩ := hrel
    by_cases hlt : k < zs.length
    · obtain ⟨q, Hq, e0⟩ := IntsAt.at hc hb hB hlt
      have f0 : wr.cell? ⟨b', off' + k, none⟩ = some (.int .i64 q) := by rw [hB.cell (p := ⟨b', off' + k, none⟩) hb', ← Hq.out]; exact hc' k hlt
      have hi : (k : Int) < (zs.length : Int) := by omega
      clear hc hc'
      go_wp2
      go_quiet (fail)
      go_wp2
      go_roundw
      case rel => exact ⟨k + 1, by omega, by go_num, below_drewN hB _⟩
      case measure => simp [intOf]; omega
    · go_wp2
      go_ret
      exact ⟨rfl, hB⟩

end Go.Proofs.Ytkoefoccbjhoiac

namespace Go.Proofs.Ytkoefoccbjhoiac
open Go.RowKit
set_option linter.unusedVariables false
set_option linter.unusedSimpArgs false

set_option maxRecDepth 100000 in
set_option maxHeartbeats 8000000 in
theorem postResults_any (n : Int) (a : Option Addr) (cap : Nat) (ops : List OpL) (la : Option Addr) (lcap : Nat) (fs : List FrameL) (w : World) (hz : SlOps w a cap ops) (hl : fs.length ≤ maxLen) (hF : FrsIn w.heap.size w la fs) :
    Calls Try.prog 3 #[.agg #[.int .i64 n, .slice a ops.length cap], .slice la fs.length lcap] w fun e w' => e = .returned (.bool true) ∧ Below w.heap.size w w' := by
  unfold maxLen at hl
  obtain ⟨zr, hzr⟩ : ∃ zr, zr = rowF 24 zcv := ⟨_, rfl⟩
  have HZ0 : Hid ((Try.prog.info? 31).map (·.zero) = some (some (.agg zr))) := by unfold Hid; rw [hzr]; exact Try.zeroCase
  have hzz : zr.size = 24 := by rw [hzr, rowF_size]
  obtain ⟨W, hW⟩ : ∃ W, W = w.alloc (.cells #[.int .i64 n, .slice a ops.length cap] 24) := ⟨_, rfl⟩
  have hb : Below w.heap.size w W := by rw [hW]; exact (Below.refl _ _).alloc (Nat.le_refl _) _
  have hzW : W.heap.size = w.heap.size + 1 := by rw [hW]; exact size_push _ _
  have r0 : W.heap[w.heap.size]? = some (.cells #[.int .i64 n, .slice a ops.length cap] 24 (0, 0)) := by rw [hW]; exact heap_new _ _
  have c0 : W.cell? ⟨w.heap.size, 0, none⟩ = some (.int .i64 n) := by rw [cell_of_row _ _ _ _ _ _ r0]; rfl
  have c1 : W.cell? ⟨w.heap.size, 1, none⟩ = some (.slice a ops.length cap) := by rw [cell_of_row _ _ _ _ _ _ r0]; rfl
  have HW : Hid (W = w.alloc (.cells #[.int .i64 n, .slice a ops.length cap] 24)) := hW
  have HZ : Hid (SlOps W a cap ops) := hz.later hb
  have HFr : Hid (FrsIn w.heap.size w la fs) := hF
  clear hW hzr hF hz r0
  go_enter Try.func3, Try.ntmps3
  go_upto_region 1 with fail
  rw [← HW.out]
  clear HW
  go_wp2_with fail
  refine (p_begin n a cap ops W HZ.out).mono ?_
  rintro e w1 ⟨gr0, x0, rfl, hcv, _, hb1⟩
  have hz1 := hb1.size
  have HBw1 : Hid (Below w.heap.size w w1) := hb.trans (hb1.mono (by omega))
  have kn0 : w1.cell? ⟨w.heap.size, 0, none⟩ = some (.int .i64 n) := by rw [hb1.cell (p := ⟨w.heap.size, 0, none⟩) (show w.heap.size < W.heap.size by omega)]; exact c0
  have kn1 : w1.cell? ⟨w.heap.size, 1, none⟩ = some (.slice a ops.length cap) := by rw [hb1.cell (p := ⟨w.heap.size, 1, none⟩) (show w.heap.size < W.heap.size by omega)]; exact c1
  have rowZ : (w1.alloc (.cells zr 31)).heap[w1.heap.size]? = some (.cells zr 31 (0, 0)) := heap_new _ _
  have i9 := hcv.info
  have o9 := hcv.one
  have s9 : zr.size = gr0.size := by rw [hzz, hcv.size]
  obtain ⟨X, hX⟩ : ∃ X, X = (w1.alloc (.cells zr 31)).setRow w1.heap.size gr0 := ⟨_, rfl⟩
  have hbX : Below w1.heap.size w1 X := by rw [hX]; exact setRow_below ((Below.refl _ _).alloc (Nat.le_refl _) _) (Nat.le_refl _) _
  obtain ⟨B, hBe⟩ : ∃ B, B = w1.heap.size := ⟨_, rfl⟩
  have HLX : Hid (LBox B X gr0 (beginC n ops).1) := by
    obtain ⟨nv, e, hc⟩ := hcv
    rw [hBe]
    exact ⟨by rw [hX]; exact heap_setRow rowZ, nv, e, (hc.later (SameOn.of_size hbX)).mono (fun b _ hb => by have : b < w1.heap.size := hb; show b ≠ w1.heap.size; omega)⟩
  have HX : Hid (X = (w1.alloc (.cells zr 31)).setRow w1.heap.size gr0) := hX
  have HBX : Hid (Below w1.heap.size w1 X) := hbX
  clear hX hcv hb1 hbX c0 c1
  go_upto_region 2 with (first
    | (refine wpList_alloc_as rfl 31 rfl zr HZ0.out ?_)
    | (refine wpList_store_row rfl 31 _ _ rfl w1.heap.size gr0 rfl rfl 31 _ rowZ i9 s9 o9 ?_)
    | fail)
  rw [← HX.out, ← hBe]
  have hB1 : w1.heap.size ≤ B := by omega
  have hB2 : B ≤ w1.heap.size := by omega
  clear HX rowZ i9 o9 s9 hBe
  by_cases t0 : (beginC n ops).2.2 = 0
  rotate_left
  · have d0 : ((beginC n ops).2.2 != 0) = true := by simpa using t0
    clear t0
    go_wp2_with fail
    refine (keep_posts X).mono ?_
    rintro e w2 ⟨rfl, hb2⟩
    have HB2 : Hid (Below w.heap.size w w2) := (HBw1.out.trans (HBX.out.mono (by omega))).trans (hb2.mono (by have := HBX.out.size; omega))
    clear hb2
    go_wp2
    go_ret
    exact ⟨rfl, HB2.out⟩
  have d0 : ((beginC n ops).2.2 != 0) = false := by simpa using t0
  have HRI0 : Hid (ResInv ops (beginC n ops).1) := res_begin t0
  have HGO : Hid (goodOpsL ops = true) := (fix_begin t0).2.1
  obtain ⟨cb, hcb⟩ : ∃ cb, cb = (beginC n ops).1 := ⟨_, rfl⟩
  rw [← hcb] at HLX HRI0
  clear t0 hcb
  go_wp2_with fail
  refine (keep_posts X).mono ?_
  rintro e w2 ⟨rfl, hb2⟩
  have HL2 : Hid (LBox B w2 gr0 cb) := HLX.out.later hb2
  have HB2 : Hid (Below w1.heap.size w1 w2) := HBX.out.trans (hb2.mono (by have := HBX.out.size; omega))
  clear hb2 HLX
  go_wp2
  go_loopw [8, 9, 10] (fun was kn i wr => ∃ (k : Nat) (c : CaseL) (gr : Array Value) (l : List Int) (kb : Bool), k ≤ fs.length ∧ i = .int .i64 k ∧ kn = .bool kb ∧ Hid (LBox B wr gr c) ∧ Hid (ResInv ops c) ∧ Hid (IsI (fun b => b ≠ B) wr was l) ∧ Hid (kb = true → resultC c = (l, true)) ∧ Hid (Below w1.heap.size w1 wr)) (fun _ _ i _ => fs.length - (intOf i).toNat)
  case atStart => exact ⟨0, cb, gr0, [], false, Nat.zero_le _, rfl, rfl, HL2, HRI0, IsI.nil _ _, (fun e => by cases e), HB2⟩
  case round =>
    obtain ⟨k, c, gr, l, kb, hk, rfl, rfl, HL, HRI, HIw, HKn, HBw⟩ := hrel
    obtain ⟨aw, cw, rfl, _⟩ := HIw.out.sl
    by_cases hlt : k < fs.length
    · by_cases h40 : k < 40
      · have hlt' : (k : Int) < (fs.length : Int) := by omega
        have h40' : (k : Int) < 40 := by omega
        have hsz := HBw.out.size
        obtain ⟨lb, lo, cs, rfl, hlb, hcs7, hcs, hfv⟩ := HFr.out.at hlt
        obtain ⟨f, hf⟩ : ∃ f, f = fs.getD k zeroF := ⟨_, rfl⟩
        rw [← hf] at hfv
        clear hf
        have HBww : Hid (Below w.heap.size w wr) := HBw1.out.trans (HBw.out.mono (by omega))
        obtain ⟨gl, hgl⟩ : ∃ gl, gl = gr.toList := ⟨_, rfl⟩
        obtain ⟨W9, hW9⟩ : ∃ W9, W9 = wr.drew := ⟨_, rfl⟩
        have hz9 : W9.heap.size ≤ wr.heap.size := by rw [hW9]; exact Nat.le_refl _
        have hz9' : wr.heap.size ≤ W9.heap.size := by rw [hW9]; exact Nat.le_refl _
        have HL9 : Hid (LBox B W9 gr c) := by unfold Hid; rw [hW9]; exact HL.out.later (Below.drew (Below.refl _ _))
        have hB9 : B < W9.heap.size := HL9.out.box.lt
        have rgl : W9.rangeAt B 0 gl := by rw [hgl]; exact HL9.out.box.range
        have zgl : (Try.prog.info? 31).map (·.size) = some gl.length := by rw [hgl]; exact HL9.out.box.case.len
        have zcs : (Try.prog.info? 38).map (·.size) = some cs.length := by rw [hcs7]; exact Try.infoFrame7
        have hwr9 : Below w.heap.size w W9 := by rw [hW9]; exact HBww.out.drew
        have k0 : W9.cell? ⟨w.heap.size, 0, none⟩ = some (.int .i64 n) := by rw [hW9, show wr.drew.cell? ⟨w.heap.size, 0, none⟩ = wr.cell? ⟨w.heap.size, 0, none⟩ from rfl, HBw.out.cell (p := ⟨w.heap.size, 0, none⟩) (show w.heap.size < w1.heap.size by omega)]; exact kn0
        have rcs : W9.rangeAt lb (lo + k * 7) cs := range_later hcs hwr9 hlb
        have hfv9 : FrameV W9 (.agg cs.toArray) f := hfv.later hwr9
        have hww9 : w.heap.size < W9.heap.size := by omega
        have m1 : (0 : Int) ≤ (k : Int) ∧ (k : Int) < (fs.length : Int) := by omega
        have HSk : Hid (∀ wx, Below W9.heap.size W9 wx → (fun w' : World => w'.rangeAt B 0 gl ∧ w'.cell? ⟨w.heap.size, 0, none⟩ = some (.int .i64 n) ∧ w'.rangeAt lb (lo + k * 7) cs) wx) := fun wx hx => ⟨range_later rgl hx hB9, by rw [hx.cell (p := ⟨w.heap.size, 0, none⟩) hww9]; exact k0, range_later rcs hx (by omega)⟩
        have HTk : Hid (∀ wx, wx = W9 → Calls Try.prog 6 #[.agg gl.toArray, .int .i64 n, .agg cs.toArray] wx fun e w' => ∃ gr' x, e = .returned (.tuple #[.agg gr', x, .int .i64 (takeC c n f).2.2]) ∧ Hid (CaseG W9.heap.size w' gr' (takeC c n f).1) ∧ Hid (FramesV W9.heap.size w' x (takeC c n f).2.1) ∧ Hid (Below W9.heap.size W9 w') ∧ (fun w' : World => w'.rangeAt B 0 gl ∧ w'.cell? ⟨w.heap.size, 0, none⟩ = some (.int .i64 n) ∧ w'.rangeAt lb (lo + k * 7) cs) w') := by
          rintro wx rfl
          rw [hgl, Array.toArray_toList]
          refine (p_take gr c n _ f _ HL9.out.box.case hfv9).mono ?_
          rintro e w' ⟨gr', x, rfl, hc, hx, hb⟩
          refine ⟨gr', x, rfl, hc, hx, hb, ?_⟩
          rw [← hgl]
          exact HSk.out w' hb
        have hbA : Below W9.heap.size W9 (W9.alloc (.cells zr 31)) := (Below.refl _ _).alloc (Nat.le_refl _) _
        have HTl : Hid (∀ wx, wx = W9.alloc (.cells zr 31) → Calls Try.prog 6 #[.agg gl.toArray, .int .i64 n, .agg cs.toArray] wx fun e w' => ∃ gr' x, e = .returned (.tuple #[.agg gr', x, .int .i64 (takeC c n f).2.2]) ∧ Hid (CaseG (W9.alloc (.cells zr 31)).heap.size w' gr' (takeC c n f).1) ∧ Hid (FramesV (W9.alloc (.cells zr 31)).heap.size w' x (takeC c n f).2.1) ∧ Hid (Below (W9.alloc (.cells zr 31)).heap.size (W9.alloc (.cells zr 31)) w') ∧ (fun w' : World => w'.rangeAt B 0 gl ∧ w'.cell? ⟨w.heap.size, 0, none⟩ = some (.int .i64 n) ∧ w'.rangeAt lb (lo + k * 7) cs) w') := by
          rintro wx rfl
          rw [hgl, Array.toArray_toList]
          refine (p_take gr c n _ f _ (HL9.out.later hbA).box.case (hfv9.later hbA)).mono ?_
          rintro e w' ⟨gr', x, rfl, hc, hx, hb⟩
          refine ⟨gr', x, rfl, hc, hx, hb, ?_⟩
          rw [← hgl]
          exact HSk.out w' (hbA.trans (hb.mono hbA.size))
        have HSA : Hid (∀ w3, Below W9.heap.size W9 w3 → (fun w' : World => w'.rangeAt B 0 gl ∧ w'.cell? ⟨w.heap.size, 0, none⟩ = some (.int .i64 n) ∧ w'.rangeAt lb (lo + k * 7) cs) w3 → (fun w' : World => w'.rangeAt B 0 gl ∧ w'.cell? ⟨w.heap.size, 0, none⟩ = some (.int .i64 n) ∧ w'.rangeAt lb (lo + k * 7) cs) (w3.alloc (.cells zr 31))) := fun w3 h3 _ => HSk.out _ (h3.alloc h3.size _)
        have HSB : Hid (∀ w3, Below W9.heap.size W9 w3 → ∀ gr', (fun w' : World => w'.rangeAt B 0 gl ∧ w'.cell? ⟨w.heap.size, 0, none⟩ = some (.int .i64 n) ∧ w'.rangeAt lb (lo + k * 7) cs) (w3.alloc (.cells zr 31)) → (fun w' : World => w'.rangeAt B 0 gl ∧ w'.cell? ⟨w.heap.size, 0, none⟩ = some (.int .i64 n) ∧ w'.rangeAt lb (lo + k * 7) cs) ((w3.alloc (.cells zr 31)).setRow w3.heap.size gr')) := fun w3 h3 gr' _ => HSk.out _ (setRow_below (h3.alloc h3.size _) h3.size _)
        have HSC : Hid ((fun w' : World => w'.rangeAt B 0 gl ∧ w'.cell? ⟨w.heap.size, 0, none⟩ = some (.int .i64 n) ∧ w'.rangeAt lb (lo + k * 7) cs) W9 → (fun w' : World => w'.rangeAt B 0 gl ∧ w'.cell? ⟨w.heap.size, 0, none⟩ = some (.int .i64 n) ∧ w'.rangeAt lb (lo + k * 7) cs) (W9.alloc (.cells zr 31))) := fun _ => HSk.out _ hbA
        have HSD : Hid (∀ w3 gr', (fun w' : World => w'.rangeAt B 0 gl ∧ w'.cell? ⟨w.heap.size, 0, none⟩ = some (.int .i64 n) ∧ w'.rangeAt lb (lo + k * 7) cs) w3 → (fun w' : World => w'.rangeAt B 0 gl ∧ w'.cell? ⟨w.heap.size, 0, none⟩ = some (.int .i64 n) ∧ w'.rangeAt lb (lo + k * 7) cs) (w3.setRow W9.heap.size gr')) := fun w3 gr' h3 => by
          have ho : ∀ b, b ≠ W9.heap.size → (w3.setRow W9.heap.size gr').heap[b]? = w3.heap[b]? := fun b hb => setRow_other _ _ hb
          refine ⟨fun j v hv => ?_, ?_, fun j v hv => ?_⟩
          · rw [World.cell?_of_block (a := ⟨B, 0 + j, none⟩) (ho B (by omega))]; exact h3.1 j v hv
          · rw [World.cell?_of_block (a := ⟨w.heap.size, 0, none⟩) (ho w.heap.size (by omega))]; exact h3.2.1
          · rw [World.cell?_of_block (a := ⟨lb, lo + k * 7 + j, none⟩) (ho lb (by omega))]; exact h3.2.2 j v hv
        have HHW9 : Hid (W9 = wr.drew) := hW9
        clear hgl hW9 hbA hfv hcs hfv9
        have HBw9 : Hid (Below w1.heap.size w1 W9) := by unfold Hid; rw [HHW9.out]; exact HBw.out.drew
        have HIw9 : Hid (IsI (fun b => b ≠ B) W9 (.slice aw l.length cw) l) := by unfold Hid; rw [HHW9.out]; exact HIw.out.later (SameOn.of_size (Below.drew (Below.refl _ _)))
        clear hlt h40
        go_wp2
        refine wp_region_held_drew (S := fun w' : World => w'.rangeAt B 0 gl ∧ w'.cell? ⟨w.heap.size, 0, none⟩ = some (.int .i64 n) ∧ w'.rangeAt lb (lo + k * 7) cs) (by kernel_rfl) (by rw [← HHW9.out]; exact ⟨rgl, k0, rcs⟩) ?_
        intro hH
        rw [← HHW9.out] at hH ⊢
        refine wpAnyH_takeD (i := 0) (d := some 40) (v := .agg gl.toArray) rfl rfl (by kernel_rfl) (by kernel_rfl) (by kernel_rfl) (fun _ _ _ h => h) (yieldsIf_load_mid (by rfl) _ _ rfl _ _ rfl gl _ (fun _ h => h.1) Try.underlying31 rfl zgl) hH ?_
        simp only [Act.put, List.setIfInBounds_toArray, List.set_cons_zero, List.set_cons_succ]
        refine wpAnyH_takeD (i := 1) (d := some 41) (v := .pointer (some ⟨w.heap.size, 0, none⟩)) rfl rfl (by kernel_rfl) (by kernel_rfl) (by kernel_rfl) (fun _ _ _ h => h) (Or.inl ⟨by rfl, fun _ _ => by go_simp⟩) hH ?_
        simp only [Act.put, List.setIfInBounds_toArray, List.set_cons_zero, List.set_cons_succ]
        refine wpAnyH_takeD (i := 2) (d := some 42) (v := .int .i64 n) rfl rfl (by kernel_rfl) (by kernel_rfl) (by kernel_rfl) (fun _ _ _ h => h) (Or.inl ⟨by rfl, fun _ hS => by obtain ⟨hS1, hS2, hS3⟩ := hS; go_simp⟩) hH ?_
        simp only [Act.put, List.setIfInBounds_toArray, List.set_cons_zero, List.set_cons_succ]
        refine wpAnyH_takeD (i := 3) (d := some 43) (v := .slice (some ⟨lb, lo, none⟩) fs.length lcap) rfl rfl (by kernel_rfl) (by kernel_rfl) (by kernel_rfl) (fun _ _ _ h => h) (Or.inl ⟨by rfl, fun _ _ => by go_simp⟩) hH ?_
        simp only [Act.put, List.setIfInBounds_toArray, List.set_cons_zero, List.set_cons_succ]
        refine wpAnyH_takeD (i := 4) (d := some 44) (v := .int .i64 k) rfl rfl (by kernel_rfl) (by kernel_rfl) (by kernel_rfl) (fun _ _ _ h => h) (Or.inl ⟨by rfl, fun _ _ => by go_simp⟩) hH ?_
        simp only [Act.put, List.setIfInBounds_toArray, List.set_cons_zero, List.set_cons_succ]
        refine wpAnyH_takeD (i := 5) (d := some 45) (v := .pointer (some ⟨lb, lo + k * 7, none⟩)) rfl rfl (by kernel_rfl) (by kernel_rfl) (by kernel_rfl) (fun _ _ _ h => h) (Or.inl ⟨by rfl, fun _ _ => by go_simp⟩) hH ?_
        simp only [Act.put, List.setIfInBounds_toArray, List.set_cons_zero, List.set_cons_succ]
        refine wpAnyH_takeD (i := 6) (d := some 46) (v := .agg cs.toArray) rfl rfl (by kernel_rfl) (by kernel_rfl) (by kernel_rfl) (fun _ _ _ h => h) (yieldsIf_load_mid (by rfl) _ _ rfl _ _ rfl cs _ (fun _ h => h.2.2) Try.underlying38 rfl zcs) hH ?_
        simp only [Act.put, List.setIfInBounds_toArray, List.set_cons_zero, List.set_cons_succ]
        refine wpAnyH_ready (rs := [7, 12]) (by kernel_rfl) (by simp) ?_
        refine AllReadyH.cons rfl (fun K hK => ?_) (AllReadyH.cons rfl (fun K hK => ?_) AllReadyH.nil)
        · go_simp
          refine Calls.mono (HTk.out _ rfl) ?_
          rintro e w3 ⟨gr', x, rfl, HCG, HFx, HB3, hS3⟩
          go_wp2_with fail
          refine hK.out _ _ (hS3) (fun hH2 => ?_)
          clear hK K hH
          have hH := hH2
          clear hH2
          refine wpAnyH_takeD (i := 8) (d := some 39) (v := .tuple #[.agg gr', x, .int .i64 (takeC c n f).2.2]) rfl rfl (by kernel_rfl) (by kernel_rfl) (by kernel_rfl) (fun _ _ _ h => h) (Or.inl ⟨by rfl, fun _ _ => by go_simp⟩) hH ?_
          simp only [Act.put, List.setIfInBounds_toArray, List.set_cons_zero, List.set_cons_succ]
          refine wpAnyH_takeD (i := 9) (d := some 48) (v := .agg gr') rfl rfl (by kernel_rfl) (by kernel_rfl) (by kernel_rfl) (fun _ _ _ h => h) (Or.inl ⟨by rfl, fun _ _ => by go_simp⟩) hH ?_
          simp only [Act.put, List.setIfInBounds_toArray, List.set_cons_zero, List.set_cons_succ]
          refine wpAnyH_takeD (i := 10) (d := some 49) (v := x) rfl rfl (by kernel_rfl) (by kernel_rfl) (by kernel_rfl) (fun _ _ _ h => h) (Or.inl ⟨by rfl, fun _ _ => by go_simp⟩) hH ?_
          simp only [Act.put, List.setIfInBounds_toArray, List.set_cons_zero, List.set_cons_succ]
          refine wpAnyH_takeD (i := 11) (d := some 50) (v := .int .i64 (takeC c n f).2.2) rfl rfl (by kernel_rfl) (by kernel_rfl) (by kernel_rfl) (fun _ _ _ h => h) (Or.inl ⟨by rfl, fun _ _ => by go_simp⟩) hH ?_
          simp only [Act.put, List.setIfInBounds_toArray, List.set_cons_zero, List.set_cons_succ]
          have hz3 := HB3.out.size
          refine wpAnyH_ready (rs := [12]) (by kernel_rfl) (by simp) ?_
          refine AllReadyH.cons rfl (fun K hK => ?_) AllReadyH.nil
          rw [if_pos (by rfl)]
          refine wpc_alloc 31 rfl zr HZ0.out ?_
          refine hK.out _ _ (HSA.out w3 HB3.out hH) (fun hH2 => ?_)
          clear hK K hH
          have hH := hH2
          clear hH2
          simp only [Act.put, List.setIfInBounds_toArray, List.set_cons_zero, List.set_cons_succ]
          refine wpAnyH_ready (rs := [13]) (by kernel_rfl) (by simp) ?_
          refine AllReadyH.cons rfl (fun K hK => ?_) AllReadyH.nil
          rw [if_pos (by rfl)]
          refine wp_store_row 31 _ _ rfl (w3.heap.size) gr' rfl rfl 31 _ (heap_new _ _) (HCG.out.v.info) (by rw [hzz, HCG.out.v.size]) (HCG.out.v.one) ?_
          refine hK.out _ _ (HSB.out w3 HB3.out gr' hH) (fun hH2 => ?_)
          clear hK K hH
          have hH := hH2
          clear hH2
          refine wpAnyH_takeD (i := 14) (d := some 12) (v := x) rfl rfl (by kernel_rfl) (by kernel_rfl) (by kernel_rfl) (fun _ _ _ h => h) (Or.inl ⟨by rfl, fun _ _ => by go_simp⟩) hH ?_
          simp only [Act.put, List.setIfInBounds_toArray, List.set_cons_zero, List.set_cons_succ]
          refine wpAnyH_takeD (i := 15) (d := some 13) (v := .int .i64 (takeC c n f).2.2) rfl rfl (by kernel_rfl) (by kernel_rfl) (by kernel_rfl) (fun _ _ _ h => h) (Or.inl ⟨by rfl, fun _ _ => by go_simp⟩) hH ?_
          simp only [Act.put, List.setIfInBounds_toArray, List.set_cons_zero, List.set_cons_succ]
          refine wpAnyH_done (by kernel_rfl) ?_ _
          obtain ⟨p, hp⟩ : ∃ p, p = w3.heap.size := ⟨_, rfl⟩
          obtain ⟨Y, hY⟩ : ∃ Y, Y = (w3.alloc (.cells zr 31)).setRow w3.heap.size gr' := ⟨_, rfl⟩
          have hbY : Below w3.heap.size w3 Y := by rw [hY]; exact setRow_below ((Below.refl _ _).alloc (Nat.le_refl _) _) (Nat.le_refl _) _
          have rY : Y.heap[p]? = some (.cells gr' 31 (0, 0)) := by rw [hY, hp]; exact heap_setRow (heap_new _ _)
          have HbWY : Hid (Below W9.heap.size W9 Y) := HB3.out.trans (hbY.mono hz3)
          have HCY : Hid (CaseG W9.heap.size Y gr' (takeC c n f).1) := HCG.out.later hbY
          have hpb : B < p := by rw [hp]; omega
          rw [← hY, ← hp]
          clear hY hp hbY
          have hzY := HbWY.out.size
          have HLY : Hid (LBox B Y gr c) := HL9.out.later HbWY.out
          have hsY : Below w1.heap.size w1 Y := (HBw9.out).trans (HbWY.out.mono (by omega))
          have HBY : Hid (Below w1.heap.size w1 Y) := hsY
          have HIY : Hid (IsI (fun b => b ≠ B) Y (.slice aw l.length cw) l) := (HIw9.out).later (SameOn.of_size HbWY.out)
          have tY : RowT Try.prog 31 gr'.size := HCY.out.v.row
          clear hsY
          by_cases tc : (takeC c n f).2.2 = 0
          · have dc : ((takeC c n f).2.2 == 0) = true := by simpa using tc
            obtain ⟨d, hd⟩ : ∃ d, d = (takeC c n f).1 := ⟨_, rfl⟩
            have HRD : Hid (ResInv ops d) := by unfold Hid; rw [hd]; exact (res_step HRI.out).1
            have HST : Hid (kb = true → (resultC d).2 = true ∧ (resultC d).1 = l) := fun e => by
              have e0 := HKn.out e
              have h1 := res_stays HRI.out HRD.out (by rw [hd]; exact (res_step HRI.out).2) (by rw [e0])
              rw [e0] at h1
              exact h1
            rw [← hd] at HCY
            clear hd tc
            obtain ⟨V, hV⟩ : ∃ V, V = Y.setRow B gr' := ⟨_, rfl⟩
            have HLV : Hid (LBox B V gr' d) := by unfold Hid; rw [hV]; exact HLY.out.set HCY.out hB9
            have HBV : Hid (Below w1.heap.size w1 V) := by unfold Hid; rw [hV]; exact setRow_below HBY.out (by omega) _
            have HIV : Hid (IsI (fun b => b ≠ B) V (.slice aw l.length cw) l) := by unfold Hid; rw [hV]; exact HIY.out.later (fun b _ hb => setRow_other _ _ hb)
            have HHV : Hid (V = Y.setRow B gr') := hV
            have rLY := HLY.out.row
            have i9 := HCY.out.v.info
            have o9 := HCY.out.v.one
            have s9 : gr.size = gr'.size := by rw [HLY.out.box.case.size, HCY.out.v.size]
            clear hV
            go_upto_region 12 with (first
              | ((with_reducible apply wpl_row rY); (· rfl); (· exact tY); (· rfl); simp only [Act.put, List.setIfInBounds_toArray, List.set_cons_zero, List.set_cons_succ])
              | (refine wpList_store_row rfl 31 _ _ rfl B gr' rfl rfl 31 _ rLY i9 s9 o9 ?_)
              | fail)
            rw [← HHV.out]
            clear HHV rLY rY
            have rB := HLV.out.row
            have tB := HLV.out.box.case.row
            go_wp2_with (first
              | ((with_reducible apply wpl_row rB); (· rfl); (· exact tB); (· rfl); simp only [Act.put, List.setIfInBounds_toArray, List.set_cons_zero, List.set_cons_succ])
              | fail)
            refine (p_result _ _ V HLV.out.box.case).mono ?_
            rintro e w5 ⟨v5, rfl, hv5, hb5⟩
            have HL5 : Hid (LBox B w5 _ _) := HLV.out.later hb5
            have HB5 : Hid (Below w1.heap.size w1 w5) := HBV.out.trans (hb5.mono (by have := HBV.out.size; omega))
            have HI5 : Hid (IsI (fun b => b ≠ B) w5 (.slice aw l.length cw) l) := HIV.out.later (SameOn.of_size hb5)
            have hV5 : IsI (fun b => b ≠ B) w5 v5 _ := hv5.mono (fun b _ hb => by have hb' : V.heap.size ≤ b := hb; have := HLV.out.box.lt; show b ≠ B; omega)
            clear hb5 hv5 rB tB
            obtain ⟨lv, hlv⟩ : ∃ lv, lv = (resultC d).1 := ⟨_, rfl⟩
            obtain ⟨ok, hok⟩ : ∃ ok, ok = (resultC d).2 := ⟨_, rfl⟩
            rw [← hlv] at hV5
            rw [← hok]
            have HRes : Hid (ok = true → resultC d = (lv, true)) := fun e => by rw [hlv, ← e, hok]
            have HFx : Hid (ok = true → lv.length = ops.length ∧ d.fixed = true) := fun e => by
              have := res_len HRD.out (by rw [← hok]; exact e) HGO.out
              rw [hlv]
              exact this
            have HSt : Hid (kb = true → ok = true ∧ lv = l) := fun e => by
              obtain ⟨g1, g2⟩ := HST.out e
              exact ⟨by rw [hok]; exact g1, by rw [hlv]; exact g2⟩
            obtain ⟨av, cv, rfl, hsv⟩ := hV5.sl
            have HV5 : Hid (IsI (fun b => b ≠ B) w5 (.slice av lv.length cv) lv) := hV5
            have q75 : w5.cell? ⟨w.heap.size, 1, none⟩ = some (.slice a ops.length cap) := by rw [HB5.out.cell (p := ⟨w.heap.size, 1, none⟩) (show w.heap.size < w1.heap.size by omega)]; exact kn1
            have q81 := HL5.out.box.fixed
            have hlv0 := hsv.2.1
            unfold maxLen at hlv0
            clear hlv hok hV5
            cases kb
            · cases ok
              · go_wp2
                go_roundw
                case rel => exact ⟨k + 1, d, _, lv, false, by omega, by go_num, rfl, HL5, HRD, HV5, (fun e => by cases e), HB5⟩
                case measure => simp [intOf]; omega
              · obtain ⟨e1, e2⟩ := HFx.out rfl
                have HRes2 : Hid (resultC d = (lv, true)) := HRes.out rfl
                have dl : ((lv.length : Int) != (ops.length : Int)) = false := by rw [e1]; simp
                rw [e2] at q81
                clear e1 e2
                go_wp2
                go_roundw
                case rel => exact ⟨k + 1, d, _, lv, true, by omega, by go_num, rfl, HL5, HRD, HV5, fun _ => HRes2.out, HB5⟩
                case measure => simp [intOf]; omega
            · obtain ⟨e3, e4⟩ := HSt.out rfl
              subst e3
              subst e4
              obtain ⟨e1, e2⟩ := HFx.out rfl
              have HRes2 : Hid (resultC d = (lv, true)) := HRes.out rfl
              have dl : ((lv.length : Int) != (ops.length : Int)) = false := by rw [e1]; simp
              rw [e2] at q81
              clear e1 e2
              obtain ⟨aw', cw', ew', hsw⟩ := HI5.out.sl
              cases ew'
              go_wp2_with fail
              refine (keep_same_any av cv lv aw cw w5 hsv.2.1 hsv.1 hsw.1).mono ?_
              rintro e w6 ⟨rfl, hb6⟩
              have HL6 : Hid (LBox B w6 _ _) := HL5.out.later hb6
              have HB6 : Hid (Below w1.heap.size w1 w6) := HB5.out.trans (hb6.mono (by have := HB5.out.size; omega))
              have HV6 : Hid (IsI (fun b => b ≠ B) w6 (.slice av lv.length cv) lv) := HV5.out.later (SameOn.of_size hb6)
              have q75' : w6.cell? ⟨w.heap.size, 1, none⟩ = some (.slice a ops.length cap) := by rw [HB6.out.cell (p := ⟨w.heap.size, 1, none⟩) (show w.heap.size < w1.heap.size by omega)]; exact kn1
              have q81' : w6.cell? ⟨B, 1, none⟩ = some (.bool true) := by rw [hb6.cell (p := ⟨B, 1, none⟩) HL5.out.box.lt]; exact q81
              clear hb6 q75 q81
              go_wp2
              go_roundw
              case rel => exact ⟨k + 1, d, _, lv, true, by omega, by go_num, rfl, HL6, HRD, HV6, fun _ => HRes2.out, HB6⟩
              case measure => simp [intOf]; omega
          · have dc : ((takeC c n f).2.2 == 0) = false := by simpa using tc
            obtain ⟨d, hd⟩ : ∃ d, d = c := ⟨_, rfl⟩
            have HRD : Hid (ResInv ops d) := by unfold Hid; rw [hd]; exact HRI.out
            have HST : Hid (kb = true → (resultC d).2 = true ∧ (resultC d).1 = l) := fun e => by rw [hd, HKn.out e]; exact ⟨rfl, rfl⟩
            rw [← hd] at HLY
            clear tc hd
            go_upto_region 12 with fail
            have rB := HLY.out.row
            have tB := HLY.out.box.case.row
            go_wp2_with (first
              | ((with_reducible apply wpl_row rB); (· rfl); (· exact tB); (· rfl); simp only [Act.put, List.setIfInBounds_toArray, List.set_cons_zero, List.set_cons_succ])
              | fail)
            refine (p_result gr d Y HLY.out.box.case).mono ?_
            rintro e w5 ⟨v5, rfl, hv5, hb5⟩
            have HL5 : Hid (LBox B w5 _ _) := HLY.out.later hb5
            have HB5 : Hid (Below w1.heap.size w1 w5) := HBY.out.trans (hb5.mono (by have := HBY.out.size; omega))
            have HI5 : Hid (IsI (fun b => b ≠ B) w5 (.slice aw l.length cw) l) := HIY.out.later (SameOn.of_size hb5)
            have hV5 : IsI (fun b => b ≠ B) w5 v5 _ := hv5.mono (fun b _ hb => by have hb' : Y.heap.size ≤ b := hb; have := HLY.out.box.lt; show b ≠ B; omega)
            clear hb5 hv5 rB tB
            obtain ⟨lv, hlv⟩ : ∃ lv, lv = (resultC d).1 := ⟨_, rfl⟩
            obtain ⟨ok, hok⟩ : ∃ ok, ok = (resultC d).2 := ⟨_, rfl⟩
            rw [← hlv] at hV5
            rw [← hok]
            have HRes : Hid (ok = true → resultC d = (lv, true)) := fun e => by rw [hlv, ← e, hok]
            have HFx : Hid (ok = true → lv.length = ops.length ∧ d.fixed = true) := fun e => by
              have := res_len HRD.out (by rw [← hok]; exact e) HGO.out
              rw [hlv]
              exact this
            have HSt : Hid (kb = true → ok = true ∧ lv = l) := fun e => by
              obtain ⟨g1, g2⟩ := HST.out e
              exact ⟨by rw [hok]; exact g1, by rw [hlv]; exact g2⟩
            obtain ⟨av, cv, rfl, hsv⟩ := hV5.sl
            have HV5 : Hid (IsI (fun b => b ≠ B) w5 (.slice av lv.length cv) lv) := hV5
            have q75 : w5.cell? ⟨w.heap.size, 1, none⟩ = some (.slice a ops.length cap) := by rw [HB5.out.cell (p := ⟨w.heap.size, 1, none⟩) (show w.heap.size < w1.heap.size by omega)]; exact kn1
            have q81 := HL5.out.box.fixed
            have hlv0 := hsv.2.1
            unfold maxLen at hlv0
            clear hlv hok hV5
            cases kb
            · cases ok
              · go_wp2
                go_roundw
                case rel => exact ⟨k + 1, d, _, lv, false, by omega, by go_num, rfl, HL5, HRD, HV5, (fun e => by cases e), HB5⟩
                case measure => simp [intOf]; omega
              · obtain ⟨e1, e2⟩ := HFx.out rfl
                have HRes2 : Hid (resultC d = (lv, true)) := HRes.out rfl
                have dl : ((lv.length : Int) != (ops.length : Int)) = false := by rw [e1]; simp
                rw [e2] at q81
                clear e1 e2
                go_wp2
                go_roundw
                case rel => exact ⟨k + 1, d, _, lv, true, by omega, by go_num, rfl, HL5, HRD, HV5, fun _ => HRes2.out, HB5⟩
                case measure => simp [intOf]; omega
            · obtain ⟨e3, e4⟩ := HSt.out rfl
              subst e3
              subst e4
              obtain ⟨e1, e2⟩ := HFx.out rfl
              have HRes2 : Hid (resultC d = (lv, true)) := HRes.out rfl
              have dl : ((lv.length : Int) != (ops.length : Int)) = false := by rw [e1]; simp
              rw [e2] at q81
              clear e1 e2
              obtain ⟨aw', cw', ew', hsw⟩ := HI5.out.sl
              cases ew'
              go_wp2_with fail
              refine (keep_same_any av cv lv aw cw w5 hsv.2.1 hsv.1 hsw.1).mono ?_
              rintro e w6 ⟨rfl, hb6⟩
              have HL6 : Hid (LBox B w6 _ _) := HL5.out.later hb6
              have HB6 : Hid (Below w1.heap.size w1 w6) := HB5.out.trans (hb6.mono (by have := HB5.out.size; omega))
              have HV6 : Hid (IsI (fun b => b ≠ B) w6 (.slice av lv.length cv) lv) := HV5.out.later (SameOn.of_size hb6)
              have q75' : w6.cell? ⟨w.heap.size, 1, none⟩ = some (.slice a ops.length cap) := by rw [HB6.out.cell (p := ⟨w.heap.size, 1, none⟩) (show w.heap.size < w1.heap.size by omega)]; exact kn1
              have q81' : w6.cell? ⟨B, 1, none⟩ = some (.bool true) := by rw [hb6.cell (p := ⟨B, 1, none⟩) HL5.out.box.lt]; exact q81
              clear hb6 q75 q81
              go_wp2
              go_roundw
              case rel => exact ⟨k + 1, d, _, lv, true, by omega, by go_num, rfl, HL6, HRD, HV6, fun _ => HRes2.out, HB6⟩
              case measure => simp [intOf]; omega
        · rw [if_pos (by rfl)]
          refine wpc_alloc 31 rfl zr HZ0.out ?_
          refine hK.out _ _ (HSC.out hH) (fun hH2 => ?_)
          clear hK K hH
          have hH := hH2
          clear hH2
          simp only [Act.put, List.setIfInBounds_toArray, List.set_cons_zero, List.set_cons_succ]
          refine wpAnyH_ready (rs := [7]) (by kernel_rfl) (by simp) ?_
          refine AllReadyH.cons rfl (fun K hK => ?_) AllReadyH.nil
          go_simp
          refine Calls.mono (HTl.out _ rfl) ?_
          rintro e w3 ⟨gr', x, rfl, HCG, HFx, HB3, hS3⟩
          go_wp2_with fail
          refine hK.out _ _ (hS3) (fun hH2 => ?_)
          clear hK K hH
          have hH := hH2
          clear hH2
          refine wpAnyH_takeD (i := 8) (d := some 39) (v := .tuple #[.agg gr', x, .int .i64 (takeC c n f).2.2]) rfl rfl (by kernel_rfl) (by kernel_rfl) (by kernel_rfl) (fun _ _ _ h => h) (Or.inl ⟨by rfl, fun _ _ => by go_simp⟩) hH ?_
          simp only [Act.put, List.setIfInBounds_toArray, List.set_cons_zero, List.set_cons_succ]
          refine wpAnyH_takeD (i := 9) (d := some 48) (v := .agg gr') rfl rfl (by kernel_rfl) (by kernel_rfl) (by kernel_rfl) (fun _ _ _ h => h) (Or.inl ⟨by rfl, fun _ _ => by go_simp⟩) hH ?_
          simp only [Act.put, List.setIfInBounds_toArray, List.set_cons_zero, List.set_cons_succ]
          refine wpAnyH_takeD (i := 10) (d := some 49) (v := x) rfl rfl (by kernel_rfl) (by kernel_rfl) (by kernel_rfl) (fun _ _ _ h => h) (Or.inl ⟨by rfl, fun _ _ => by go_simp⟩) hH ?_
          simp only [Act.put, List.setIfInBounds_toArray, List.set_cons_zero, List.set_cons_succ]
          refine wpAnyH_takeD (i := 11) (d := some 50) (v := .int .i64 (takeC c n f).2.2) rfl rfl (by kernel_rfl) (by kernel_rfl) (by kernel_rfl) (fun _ _ _ h => h) (Or.inl ⟨by rfl, fun _ _ => by go_simp⟩) hH ?_
          simp only [Act.put, List.setIfInBounds_toArray, List.set_cons_zero, List.set_cons_succ]
          have hz3 := HB3.out.size
          have hrZ : w3.heap[W9.heap.size]? = some (.cells zr 31 (0, 0)) := by rw [HB3.out.block _ (by rw [size_push]; omega)]; exact heap_new _ _
          refine wpAnyH_ready (rs := [13]) (by kernel_rfl) (by simp) ?_
          refine AllReadyH.cons rfl (fun K hK => ?_) AllReadyH.nil
          rw [if_pos (by rfl)]
          refine wp_store_row 31 _ _ rfl (W9.heap.size) gr' rfl rfl 31 _ hrZ (HCG.out.v.info) (by rw [hzz, HCG.out.v.size]) (HCG.out.v.one) ?_
          refine hK.out _ _ (HSD.out w3 gr' hH) (fun hH2 => ?_)
          clear hK K hH
          have hH := hH2
          clear hH2
          refine wpAnyH_takeD (i := 14) (d := some 12) (v := x) rfl rfl (by kernel_rfl) (by kernel_rfl) (by kernel_rfl) (fun _ _ _ h => h) (Or.inl ⟨by rfl, fun _ _ => by go_simp⟩) hH ?_
          simp only [Act.put, List.setIfInBounds_toArray, List.set_cons_zero, List.set_cons_succ]
          refine wpAnyH_takeD (i := 15) (d := some 13) (v := .int .i64 (takeC c n f).2.2) rfl rfl (by kernel_rfl) (by kernel_rfl) (by kernel_rfl) (fun _ _ _ h => h) (Or.inl ⟨by rfl, fun _ _ => by go_simp⟩) hH ?_
          simp only [Act.put, List.setIfInBounds_toArray, List.set_cons_zero, List.set_cons_succ]
          refine wpAnyH_done (by kernel_rfl) ?_ _
          obtain ⟨p, hp⟩ : ∃ p, p = W9.heap.size := ⟨_, rfl⟩
          obtain ⟨Y, hY⟩ : ∃ Y, Y = w3.setRow W9.heap.size gr' := ⟨_, rfl⟩
          have rY : Y.heap[p]? = some (.cells gr' 31 (0, 0)) := by rw [hY, hp]; exact heap_setRow hrZ
          have HbWY : Hid (Below W9.heap.size W9 Y) := by unfold Hid; rw [hY]; exact setRow_below (((Below.refl _ _).alloc (Nat.le_refl _) _).trans (HB3.out.mono (by rw [size_push]; omega))) (Nat.le_refl _) _
          have HCY : Hid (CaseG W9.heap.size Y gr' (takeC c n f).1) := by
            obtain ⟨mv, e, hc⟩ := HCG.out
            unfold Hid
            rw [hY]
            exact ⟨mv, e, (hc.later (w' := w3.setRow W9.heap.size gr') (fun b _ hb => setRow_other _ _ (by have hb' : (W9.alloc (.cells zr 31)).heap.size ≤ b := hb; rw [size_push] at hb'; omega))).mono (fun b _ hb => by have hb' : (W9.alloc (.cells zr 31)).heap.size ≤ b := hb; rw [size_push] at hb'; show W9.heap.size ≤ b; omega)⟩
          have hpb : B < p := by rw [hp]; omega
          rw [← hY, ← hp]
          clear hY hp hrZ
          have hzY := HbWY.out.size
          have HLY : Hid (LBox B Y gr c) := HL9.out.later HbWY.out
          have hsY : Below w1.heap.size w1 Y := (HBw9.out).trans (HbWY.out.mono (by omega))
          have HBY : Hid (Below w1.heap.size w1 Y) := hsY
          have HIY : Hid (IsI (fun b => b ≠ B) Y (.slice aw l.length cw) l) := (HIw9.out).later (SameOn.of_size HbWY.out)
          have tY : RowT Try.prog 31 gr'.size := HCY.out.v.row
          clear hsY
          by_cases tc : (takeC c n f).2.2 = 0
          · have dc : ((takeC c n f).2.2 == 0) = true := by simpa using tc
            obtain ⟨d, hd⟩ : ∃ d, d = (takeC c n f).1 := ⟨_, rfl⟩
            have HRD : Hid (ResInv ops d) := by unfold Hid; rw [hd]; exact (res_step HRI.out).1
            have HST : Hid (kb = true → (resultC d).2 = true ∧ (resultC d).1 = l) := fun e => by
              have e0 := HKn.out e
              have h1 := res_stays HRI.out HRD.out (by rw [hd]; exact (res_step HRI.out).2) (by rw [e0])
              rw [e0] at h1
              exact h1
            rw [← hd] at HCY
            clear hd tc
            obtain ⟨V, hV⟩ : ∃ V, V = Y.setRow B gr' := ⟨_, rfl⟩
            have HLV : Hid (LBox B V gr' d) := by unfold Hid; rw [hV]; exact HLY.out.set HCY.out hB9
            have HBV : Hid (Below w1.heap.size w1 V) := by unfold Hid; rw [hV]; exact setRow_below HBY.out (by omega) _
            have HIV : Hid (IsI (fun b => b ≠ B) V (.slice aw l.length cw) l) := by unfold Hid; rw [hV]; exact HIY.out.later (fun b _ hb => setRow_other _ _ hb)
            have HHV : Hid (V = Y.setRow B gr') := hV
            have rLY := HLY.out.row
            have i9 := HCY.out.v.info
            have o9 := HCY.out.v.one
            have s9 : gr.size = gr'.size := by rw [HLY.out.box.case.size, HCY.out.v.size]
            clear hV
            go_upto_region 12 with (first
              | ((with_reducible apply wpl_row rY); (· rfl); (· exact tY); (· rfl); simp only [Act.put, List.setIfInBounds_toArray, List.set_cons_zero, List.set_cons_succ])
              | (refine wpList_store_row rfl 31 _ _ rfl B gr' rfl rfl 31 _ rLY i9 s9 o9 ?_)
              | fail)
            rw [← HHV.out]
            clear HHV rLY rY
            have rB := HLV.out.row
            have tB := HLV.out.box.case.row
            go_wp2_with (first
              | ((with_reducible apply wpl_row rB); (· rfl); (· exact tB); (· rfl); simp only [Act.put, List.setIfInBounds_toArray, List.set_cons_zero, List.set_cons_succ])
              | fail)
            refine (p_result _ _ V HLV.out.box.case).mono ?_
            rintro e w5 ⟨v5, rfl, hv5, hb5⟩
            have HL5 : Hid (LBox B w5 _ _) := HLV.out.later hb5
            have HB5 : Hid (Below w1.heap.size w1 w5) := HBV.out.trans (hb5.mono (by have := HBV.out.size; omega))
            have HI5 : Hid (IsI (fun b => b ≠ B) w5 (.slice aw l.length cw) l) := HIV.out.later (SameOn.of_size hb5)
            have hV5 : IsI (fun b => b ≠ B) w5 v5 _ := hv5.mono (fun b _ hb => by have hb' : V.heap.size ≤ b := hb; have := HLV.out.box.lt; show b ≠ B; omega)
            clear hb5 hv5 rB tB
            obtain ⟨lv, hlv⟩ : ∃ lv, lv = (resultC d).1 := ⟨_, rfl⟩
            obtain ⟨ok, hok⟩ : ∃ ok, ok = (resultC d).2 := ⟨_, rfl⟩
            rw [← hlv] at hV5
            rw [← hok]
            have HRes : Hid (ok = true → resultC d = (lv, true)) := fun e => by rw [hlv, ← e, hok]
            have HFx : Hid (ok = true → lv.length = ops.length ∧ d.fixed = true) := fun e => by
              have := res_len HRD.out (by rw [← hok]; exact e) HGO.out
              rw [hlv]
              exact this
            have HSt : Hid (kb = true → ok = true ∧ lv = l) := fun e => by
              obtain ⟨g1, g2⟩ := HST.out e
              exact ⟨by rw [hok]; exact g1, by rw [hlv]; exact g2⟩
            obtain ⟨av, cv, rfl, hsv⟩ := hV5.sl
            have HV5 : Hid (IsI (fun b => b ≠ B) w5 (.slice av lv.length cv) lv) := hV5
            have q75 : w5.cell? ⟨w.heap.size, 1, none⟩ = some (.slice a ops.length cap) := by rw [HB5.out.cell (p := ⟨w.heap.size, 1, none⟩) (show w.heap.size < w1.heap.size by omega)]; exact kn1
            have q81 := HL5.out.box.fixed
            have hlv0 := hsv.2.1
            unfold maxLen at hlv0
            clear hlv hok hV5
            cases kb
            · cases ok
              · go_wp2
                go_roundw
                case rel => exact ⟨k + 1, d, _, lv, false, by omega, by go_num, rfl, HL5, HRD, HV5, (fun e => by cases e), HB5⟩
                case measure => simp [intOf]; omega
              · obtain ⟨e1, e2⟩ := HFx.out rfl
                have HRes2 : Hid (resultC d = (lv, true)) := HRes.out rfl
                have dl : ((lv.length : Int) != (ops.length : Int)) = false := by rw [e1]; simp
                rw [e2] at q81
                clear e1 e2
                go_wp2
                go_roundw
                case rel => exact ⟨k + 1, d, _, lv, true, by omega, by go_num, rfl, HL5, HRD, HV5, fun _ => HRes2.out, HB5⟩
                case measure => simp [intOf]; omega
            · obtain ⟨e3, e4⟩ := HSt.out rfl
              subst e3
              subst e4
              obtain ⟨e1, e2⟩ := HFx.out rfl
              have HRes2 : Hid (resultC d = (lv, true)) := HRes.out rfl
              have dl : ((lv.length : Int) != (ops.length : Int)) = false := by rw [e1]; simp
              rw [e2] at q81
              clear e1 e2
              obtain ⟨aw', cw', ew', hsw⟩ := HI5.out.sl
              cases ew'
              go_wp2_with fail
              refine (keep_same_any av cv lv aw cw w5 hsv.2.1 hsv.1 hsw.1).mono ?_
              rintro e w6 ⟨rfl, hb6⟩
              have HL6 : Hid (LBox B w6 _ _) := HL5.out.later hb6
              have HB6 : Hid (Below w1.heap.size w1 w6) := HB5.out.trans (hb6.mono (by have := HB5.out.size; omega))
              have HV6 : Hid (IsI (fun b => b ≠ B) w6 (.slice av lv.length cv) lv) := HV5.out.later (SameOn.of_size hb6)
              have q75' : w6.cell? ⟨w.heap.size, 1, none⟩ = some (.slice a ops.length cap) := by rw [HB6.out.cell (p := ⟨w.heap.size, 1, none⟩) (show w.heap.size < w1.heap.size by omega)]; exact kn1
              have q81' : w6.cell? ⟨B, 1, none⟩ = some (.bool true) := by rw [hb6.cell (p := ⟨B, 1, none⟩) HL5.out.box.lt]; exact q81
              clear hb6 q75 q81
              go_wp2
              go_roundw
              case rel => exact ⟨k + 1, d, _, lv, true, by omega, by go_num, rfl, HL6, HRD, HV6, fun _ => HRes2.out, HB6⟩
              case measure => simp [intOf]; omega
          · have dc : ((takeC c n f).2.2 == 0) = false := by simpa using tc
            obtain ⟨d, hd⟩ : ∃ d, d = c := ⟨_, rfl⟩
            have HRD : Hid (ResInv ops d) := by unfold Hid; rw [hd]; exact HRI.out
            have HST : Hid (kb = true → (resultC d).2 = true ∧ (resultC d).1 = l) := fun e => by rw [hd, HKn.out e]; exact ⟨rfl, rfl⟩
            rw [← hd] at HLY
            clear tc hd
            go_upto_region 12 with fail
            have rB := HLY.out.row
            have tB := HLY.out.box.case.row
            go_wp2_with (first
              | ((with_reducible apply wpl_row rB); (· rfl); (· exact tB); (· rfl); simp only [Act.put, List.setIfInBounds_toArray, List.set_cons_zero, List.set_cons_succ])
              | fail)
            refine (p_result gr d Y HLY.out.box.case).mono ?_
            rintro e w5 ⟨v5, rfl, hv5, hb5⟩
            have HL5 : Hid (LBox B w5 _ _) := HLY.out.later hb5
            have HB5 : Hid (Below w1.heap.size w1 w5) := HBY.out.trans (hb5.mono (by have := HBY.out.size; omega))
            have HI5 : Hid (IsI (fun b => b ≠ B) w5 (.slice aw l.length cw) l) := HIY.out.later (SameOn.of_size hb5)
            have hV5 : IsI (fun b => b ≠ B) w5 v5 _ := hv5.mono (fun b _ hb => by have hb' : Y.heap.size ≤ b := hb; have := HLY.out.box.lt; show b ≠ B; omega)
            clear hb5 hv5 rB tB
            obtain ⟨lv, hlv⟩ : ∃ lv, lv = (resultC d).1 := ⟨_, rfl⟩
            obtain ⟨ok, hok⟩ : ∃ ok, ok = (resultC d).2 := ⟨_, rfl⟩
            rw [← hlv] at hV5
            rw [← hok]
            have HRes : Hid (ok = true → resultC d = (lv, true)) := fun e => by rw [hlv, ← e, hok]
            have HFx : Hid (ok = true → lv.length = ops.length ∧ d.fixed = true) := fun e => by
              have := res_len HRD.out (by rw [← hok]; exact e) HGO.out
              rw [hlv]
              exact this
            have HSt : Hid (kb = true → ok = true ∧ lv = l) := fun e => by
              obtain ⟨g1, g2⟩ := HST.out e
              exact ⟨by rw [hok]; exact g1, by rw [hlv]; exact g2⟩
            obtain ⟨av, cv, rfl, hsv⟩ := hV5.sl
            have HV5 : Hid (IsI (fun b => b ≠ B) w5 (.slice av lv.length cv) lv) := hV5
            have q75 : w5.cell? ⟨w.heap.size, 1, none⟩ = some (.slice a ops.length cap) := by rw [HB5.out.cell (p := ⟨w.heap.size, 1, none⟩) (show w.heap.size < w1.heap.size by omega)]; exact kn1
            have q81 := HL5.out.box.fixed
            have hlv0 := hsv.2.1
            unfold maxLen at hlv0
            clear hlv hok hV5
            cases kb
            · cases ok
              · go_wp2
                go_roundw
                case rel => exact ⟨k + 1, d, _, lv, false, by omega, by go_num, rfl, HL5, HRD, HV5, (fun e => by cases e), HB5⟩
                case measure => simp [intOf]; omega
              · obtain ⟨e1, e2⟩ := HFx.out rfl
                have HRes2 : Hid (resultC d = (lv, true)) := HRes.out rfl
                have dl : ((lv.length : Int) != (ops.length : Int)) = false := by rw [e1]; simp
                rw [e2] at q81
                clear e1 e2
                go_wp2
                go_roundw
                case rel => exact ⟨k + 1, d, _, lv, true, by omega, by go_num, rfl, HL5, HRD, HV5, fun _ => HRes2.out, HB5⟩
                case measure => simp [intOf]; omega
            · obtain ⟨e3, e4⟩ := HSt.out rfl
              subst e3
              subst e4
              obtain ⟨e1, e2⟩ := HFx.out rfl
              have HRes2 : Hid (resultC d = (lv, true)) := HRes.out rfl
              have dl : ((lv.length : Int) != (ops.length : Int)) = false := by rw [e1]; simp
              rw [e2] at q81
              clear e1 e2
              obtain ⟨aw', cw', ew', hsw⟩ := HI5.out.sl
              cases ew'
              go_wp2_with fail
              refine (keep_same_any av cv lv aw cw w5 hsv.2.1 hsv.1 hsw.1).mono ?_
              rintro e w6 ⟨rfl, hb6⟩
              have HL6 : Hid (LBox B w6 _ _) := HL5.out.later hb6
              have HB6 : Hid (Below w1.heap.size w1 w6) := HB5.out.trans (hb6.mono (by have := HB5.out.size; omega))
              have HV6 : Hid (IsI (fun b => b ≠ B) w6 (.slice av lv.length cv) lv) := HV5.out.later (SameOn.of_size hb6)
              have q75' : w6.cell? ⟨w.heap.size, 1, none⟩ = some (.slice a ops.length cap) := by rw [HB6.out.cell (p := ⟨w.heap.size, 1, none⟩) (show w.heap.size < w1.heap.size by omega)]; exact kn1
              have q81' : w6.cell? ⟨B, 1, none⟩ = some (.bool true) := by rw [hb6.cell (p := ⟨B, 1, none⟩) HL5.out.box.lt]; exact q81
              clear hb6 q75 q81
              go_wp2
              go_roundw
              case rel => exact ⟨k + 1, d, _, lv, true, by omega, by go_num, rfl, HL6, HRD, HV6, fun _ => HRes2.out, HB6⟩
              case measure => simp [intOf]; omega
      · have h40' : ¬ (k : Int) < 40 := by omega
        have HBF : Hid (Below w.heap.size w wr) := HBw1.out.trans (HBw.out.mono (by omega))
        have hlt' : (k : Int) < (fs.length : Int) := by omega
        clear hlt h40
        go_wp2
        go_ret
        exact ⟨rfl, HBF.out⟩
    · have hlt' : ¬ (k : Int) < (fs.length : Int) := by omega
      have HBF : Hid (Below w.heap.size w wr) := HBw1.out.trans (HBw.out.mono (by omega))
      clear hlt
      go_wp2
      go_ret
      exact ⟨rfl, HBF.out⟩

end Go.Proofs.Ytkoefoccbjhoiac
