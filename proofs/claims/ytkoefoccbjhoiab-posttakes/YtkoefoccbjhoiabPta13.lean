/-
  The contract of the document's own BeginCase.
  The contract of the document's own CopyCase.
  The contract of the document's own IsFrame.
  The document's own TakeAnswer: what is refused.
-/
import Derived.Test.YtkoefoccbjhoiabPta5
import Derived.Test.YtkoefoccbjhoiabPta12
import Derived.Test.YtkoefoccbjhoiabPta10
import Derived.Test.YtkoefoccbjhoiabPta4
import Derived.Test.YtkoefoccbjhoiabPta11
import Derived.Deep.Cut
import Derived.Test.YtkoefoccbjhoiabPta7
namespace Go.Proofs.Ytkoefoccbjhoiab
open Go.RowKit
set_option linter.unusedSimpArgs false

theorem below_none {w w' : World} (h : w.grownBy w' none) : Below w.heap.size w w' := ⟨h.os, h.tape, h.output, h.size, fun k hk => h.block k hk (fun e => by cases e)⟩
end Go.Proofs.Ytkoefoccbjhoiab

namespace Go.Proofs.Ytkoefoccbjhoiab
open Go.RowKit
set_option linter.unusedSimpArgs false

/-- A case in the box at B (its lists elsewhere), two of its cells written. -/
structure Copied (w : World) (nv : Nat → Value) (c : CaseL) (zr : Array Value) (x : World) (v2 v15 : Value) : Prop where
  row : x.heap[w.heap.size]? = some (.cells (rowF 24 (putV (putV nv 2 v2) 15 v15)) 73 (0, 0))
  res : x.heap[w.heap.size + 1]? = some (.cells zr 73 (0, 0))
  ops : IsO (w.heap.size + 2 ≤ ·) x v2 c.ops
  deps : IsI (w.heap.size + 2 ≤ ·) x v15 c.deps
  below : Below w.heap.size w x
  size : w.heap.size + 2 ≤ x.heap.size

set_option maxRecDepth 100000 in
set_option maxHeartbeats 4000000 in
theorem ref_copyCase (gr : Array Value) (c : CaseL) (w : World) (h : CaseV w gr c) :
    Calls Try.prog 53 #[.agg gr] w fun e w' => ∃ gr', e = .returned (.agg gr') ∧ CaseG w.heap.size w' gr' c ∧ Below w.heap.size w w' := by
  obtain ⟨nv, hnv, hcc⟩ := h
  obtain ⟨zr, hzr⟩ : ∃ zr, zr = rowF 24 zcv := ⟨_, rfl⟩
  have HZL : Hid ((#[.bool false, .bool false, .slice none 0 0, .bool false, .bool false, .bool false, .bool false, .bool false, .bool false, .bool false, .bool false, .bool false, .bool false, .bool false, .bool false, .slice none 0 0, .bool false, .bool false, .bool false, .bool false, .int .i64 0, .int .i64 0, .int .i64 0, .int .i64 0] : Array Value) = zr) := by unfold Hid; rw [hzr]; rfl
  have hzz : zr.size = 24 := by rw [hzr, rowF_size]
  obtain ⟨W, hW⟩ : ∃ W, W = (w.alloc (.cells gr 73)).alloc (.cells zr 73) := ⟨_, rfl⟩
  have hb : Below w.heap.size w W := by rw [hW]; exact ((Below.refl _ _).alloc (Nat.le_refl _) _).alloc (by rw [size_push]; omega) _
  have hzW : W.heap.size = w.heap.size + 2 := by rw [hW, size_push, size_push]
  obtain ⟨r0, r1⟩ := two_rows w (.cells gr 73) (.cells zr 73)
  rw [← hW] at r0 r1
  have hB : InBox w.heap.size W gr c := ⟨r0, CaseV.later ⟨nv, hnv, hcc⟩ hb⟩
  obtain ⟨a2, c2, q2, hs2, hl2⟩ := hB.ops
  obtain ⟨a15, c15, q15, hs15, hl15⟩ := hB.deps
  have HW : Hid (W = (w.alloc (.cells gr 73)).alloc (.cells zr 73)) := hW
  have HR0 : Hid (∀ x, W.grownBy x none → x.heap[w.heap.size]? = some (.cells gr 73 (0, 0))) := fun x hx => by rw [hx.block _ (by omega) (fun e => by cases e)]; exact r0
  have HR1 : Hid (∀ x, W.grownBy x none → x.heap[w.heap.size + 1]? = some (.cells zr 73 (0, 0))) := fun x hx => by rw [hx.block _ (by omega) (fun e => by cases e)]; exact r1
  have Hbw : Hid (Below w.heap.size w W) := hb
  have HS2 : Hid (SlOps W a2 c2 c.ops) := hs2
  have HS15 : Hid (SlInts W a15 c15 c.deps) := hs15
  have HNV : Hid (gr = rowF 24 nv) := hnv
  obtain ⟨io, hio, oz0, oz1, oz2⟩ := info_parts Try.infoOp
  obtain ⟨i0, hi0, iz0, iz1, iz2⟩ := info_parts Try.infoInt
  clear hW r0 r1 hB hb hzr hnv hs2 hs15
  go_enter Try.func53, Try.ntmps53
  go_upto_region 1 with fail
  rw [HZL.out, ← HW.out]
  clear HW HZL
  go_cut [] from 3 (fun wc => ∃ v2 v15, Copied w nv c zr wc v2 v15)
  case first =>
    go_region_law
      ((first
        | (refine step_copy (by rfl) _ _ 35 (by rfl) 108 io _ 3 24 Try.underlying35 hio oz0 oz1 oz2 rfl (by decide) (by rfl) a2 c.ops.length c2 (opsCells c.ops) (by rfl) (opsCells_len c.ops) HS2.out.2.2.2 (ops_cells (w := W.drew) (HS2.out.later (Below.drew (Below.refl _ _)))) (opsCells_one c.ops) HS2.out.2.1 hl2 ?_
           intro b2 d2 x1 own1 g1
           have G1 : Hid (W.grownBy x1 none) := ⟨g1.os, g1.tape, g1.output, g1.size, g1.block⟩
           have O1 : Hid (x1.ownsRow W.heap.size 108 3 (.slice b2 c.ops.length d2) c.ops.length (opsCells c.ops)) := own1
           have k15 : x1.cell? ⟨w.heap.size, 15, none⟩ = some (.slice a15 c.deps.length c15) := (by rw [(below_none G1.out).cell (p := ⟨w.heap.size, 15, none⟩) (show w.heap.size < W.heap.size by omega)]; exact q15)
           clear g1 own1)
        | (refine step_copy (by rfl) _ _ 23 (by rfl) 3 i0 _ 1 8 Try.underlying23 hi0 iz0 iz1 iz2 rfl (by decide) (by rfl) a15 c.deps.length c15 (intCells c.deps) (by rfl) (intCells_len c.deps) HS15.out.2.2.2 (ints_cells (w := x1) (HS15.out.later (below_none G1.out))) (ints_one c.deps) HS15.out.2.1 hl15 ?_
           intro b15 d15 x2 own2 g2
           have G2 : Hid (W.grownBy x2 none) := ⟨g2.os.trans G1.out.os, g2.tape.trans G1.out.tape, g2.output.trans G1.out.output, Nat.le_trans G1.out.size g2.size, fun k hk hr => (g2.block k (Nat.lt_of_lt_of_le hk G1.out.size) hr).trans (G1.out.block k hk hr)⟩
           have O2 : Hid (x2.ownsRow x1.heap.size 3 1 (.slice b15 c.deps.length d15) c.deps.length (intCells c.deps)) := own2
           have O1' : Hid (x2.ownsRow W.heap.size 108 3 (.slice b2 c.ops.length d2) c.ops.length (opsCells c.ops)) := own_same O1.out (fun k hk => g2.block k (World.ownsRow.lt O1.out k hk).2 (fun e => by cases e))
           have SZ : Hid (W.heap.size ≤ x1.heap.size) := G1.out.size
           have rX := HR0.out x2 G2.out
           have j2 : x2.cell? ⟨w.heap.size, 2, none⟩ = some (.slice a2 c.ops.length c2) := (by rw [(below_none G2.out).cell (p := ⟨w.heap.size, 2, none⟩) (show w.heap.size < W.heap.size by omega)]; exact q2)
           have j15 : x2.cell? ⟨w.heap.size, 15, none⟩ = some (.slice a15 c.deps.length c15) := (by rw [(below_none G2.out).cell (p := ⟨w.heap.size, 15, none⟩) (show w.heap.size < W.heap.size by omega)]; exact q15)
           have f2 : x2.frozen? ⟨w.heap.size, 2, none⟩ = false := frozen_of_row _ _ _ _ _ rX
           have f15 : x2.frozen? ⟨w.heap.size, 15, none⟩ = false := frozen_of_row _ _ _ _ _ rX
           have RX : Hid (x2.heap[w.heap.size]? = some (.cells gr 73 (0, 0))) := rX
           clear g2 own2 rX)
        | fail))
    all_goals
      go_wp2
      go_meet
      case rel =>
        have hz2 : w.heap.size + 2 ≤ x2.heap.size := by have := G2.out.size; omega
        have hsm : ∀ k, k ≠ w.heap.size → ((x2.setCell ⟨w.heap.size, 2, none⟩ (.slice b2 c.ops.length d2)).setCell ⟨w.heap.size, 15, none⟩ (.slice b15 c.deps.length d15)).heap[k]? = x2.heap[k]? := fun k hk => by
          rw [Below.heap_setCell _ _ _ _ hk, Below.heap_setCell _ _ _ _ hk]
        refine ⟨.slice b2 c.ops.length d2, .slice b15 c.deps.length d15, ?_, ?_, ?_, ?_, ?_, ?_⟩
        · rw [heap_setCell_same _ _ _ _ _ _ (heap_setCell_same _ _ _ _ _ _ RX.out), HNV.out, rowF_set, rowF_set]
          rfl
        · rw [hsm _ (by omega)]; exact HR1.out x2 G2.out
        · exact ((IsO.of_owns O1'.out hl2).mono (fun b _ hb => by have := hb.1; show w.heap.size + 2 ≤ b; omega)).later (fun k _ hk => hsm k (by have : w.heap.size + 2 ≤ k := hk; omega))
        · exact ((IsI.of_owns O2.out hl15).mono (fun b _ hb => by have := hb.1; have := SZ.out; show w.heap.size + 2 ≤ b; omega)).later (fun k _ hk => hsm k (by have : w.heap.size + 2 ≤ k := hk; omega))
        · exact (Hbw.out.trans ((below_none G2.out).mono (by omega))).setCell (Nat.le_refl _) _ |>.setCell (Nat.le_refl _) _
        · simpa [World.setCell] using hz2
  case rest =>
    obtain ⟨v2, v15, C⟩ := hcut
    obtain ⟨mv, hmv⟩ : ∃ mv, mv = putV (putV nv 2 v2) 15 v15 := ⟨_, rfl⟩
    have hC : CaseC (w.heap.size + 2 ≤ ·) wc mv c := by
      rw [hmv]
      exact ⟨hcc.begun, hcc.fixed, C.ops, fun i hi => by unfold putV; rw [if_neg (by omega), if_neg (by omega)]; exact hcc.told i hi, fun i hi => by unfold putV; rw [if_neg (by omega), if_neg (by omega)]; exact hcc.known i hi, C.deps, fun i hi => by unfold putV; rw [if_neg (by omega), if_neg (by omega)]; exact hcc.has i hi, fun i hi => by unfold putV; rw [if_neg (by omega), if_neg (by omega)]; exact hcc.vals i hi⟩
    obtain ⟨hr, ehr⟩ : ∃ hr, hr = rowF 24 mv := ⟨_, rfl⟩
    have rX : wc.heap[w.heap.size]? = some (.cells hr 73 (0, 0)) := by rw [ehr, hmv]; exact C.row
    have hcv : CaseV wc hr c := ⟨mv, ehr, hC.any⟩
    have tX := hcv.row
    have i9 := hcv.info
    have s9 : zr.size = hr.size := by rw [hzz, hcv.size]
    have o9 := hcv.one
    have rZ := C.res
    have HC9 : Hid (CaseG w.heap.size (wc.setRow (w.heap.size + 1) hr) hr c) := ⟨mv, ehr, (hC.later (w' := wc.setRow (w.heap.size + 1) hr) (fun k _ hk => setRow_other _ _ (by have : w.heap.size + 2 ≤ k := hk; omega))).mono (fun k _ hk => by have : w.heap.size + 2 ≤ k := hk; show w.heap.size ≤ k; omega)⟩
    have HB9 : Hid (Below w.heap.size w (wc.setRow (w.heap.size + 1) hr)) := setRow_below C.below (by omega) _
    clear C hmv hC ehr hcv
    go_wp2_with (first
      | ((with_reducible apply wpl_row rX); (· rfl); (· exact tX); (· rfl); simp only [Act.put, List.setIfInBounds_toArray, List.set_cons_zero, List.set_cons_succ])
      | (refine wpList_store_row rfl 73 _ _ rfl (w.heap.size + 1) hr rfl rfl 73 _ rZ i9 s9 o9 ?_)
      | fail)
    refine bodyPost_ret (v := .agg hr) (results_cell_row Try.results53 _ _ (w.heap.size + 1) 73 hr (0, 0) _ rfl (heap_setRow rZ) Try.underlying73 rfl i9) rfl ⟨hr, rfl, HC9.out, HB9.out⟩

end Go.Proofs.Ytkoefoccbjhoiab

namespace Go.Proofs.Ytkoefoccbjhoiab
open Go.RowKit

def risesB : Int → List Int → Bool
  | _, [] => true
  | l, n :: r => (decide (l < n) && decide (n < 4)) && risesB n r
theorem told_split : ∀ (xs vs : List Int) (l : Int), vs.length = xs.length → toldFrom l xs vs = (risesB l xs && vs.all valB)
  | [], [], l, _ => by simp [toldFrom, risesB]
  | [], _ :: _, _, h => by simp at h
  | _ :: _, [], _, h => by simp at h
  | a :: xs, v :: vs, l, h => by
    have ih := told_split xs vs a (by simpa using h)
    rw [toldFrom, risesB, ih, List.all_cons]
    have e : (!(decide (a ≤ l) || decide (4 ≤ a))) = (decide (l < a) && decide (a < 4)) := by
      rw [Bool.eq_iff_iff]
      simp
    rw [e]
    unfold valB
    generalize decide (l < a) = x
    generalize decide (a < 4) = y
    generalize decide (-1099511627776 ≤ v ∧ v ≤ 1099511627776) = z
    cases x <;> cases y <;> cases z <;> simp

def okAll (f : FrameL) : Bool := goodOpsF f && goodDepsF f && decide (f.kind = 5 ∨ f.ats.length = 0)
theorem isframe_end {f : FrameL} (h1 : ¬ (f.kind < 1 ∨ 5 < f.kind)) (h2 : ¬ (f.node < 0 ∨ 6 ≤ f.node ∨ f.id < 0 ∨ 32 ≤ f.id)) :
    goodL f = if okAll f && risesB (-1) f.ats && f.vals.all valB && decide (f.ats.length = f.vals.length) then 0 else 1 := by
  unfold goodL okAll
  rw [if_neg h1, if_neg h2]
  unfold goodToldF
  by_cases hl : f.vals.length = f.ats.length
  · rw [told_split _ _ _ hl, decide_eq_true hl, decide_eq_true hl.symm]
    congr 1
    rw [Bool.true_and, Bool.and_true]
    generalize goodOpsF f = a
    generalize goodDepsF f = b
    generalize decide (f.kind = 5 ∨ f.ats.length = 0) = c
    generalize risesB (-1) f.ats = d
    generalize f.vals.all valB = e
    cases a <;> cases b <;> cases c <;> cases d <;> cases e <;> rfl
  · have hl' : ¬ f.ats.length = f.vals.length := fun h => hl h.symm
    simp [hl, hl']

theorem rises_step {xs : List Int} {k : Nat} {q l : Int} {T t : Bool} (hk : k < xs.length) (hq : xs.getD k 0 = q) (h : T = (t && risesB l (xs.drop k))) : T = ((t && (decide (l < q) && decide (q < 4))) && risesB q (xs.drop (k + 1))) := by
  rw [h, drop_at hk hq, risesB]
  generalize decide (l < q) = x
  generalize decide (q < 4) = y
  cases t <;> cases x <;> cases y <;> simp
theorem rises_fin {xs : List Int} {k : Nat} {l : Int} {T t : Bool} (hk : ¬ k < xs.length) (h : T = (t && risesB l (xs.drop k))) : T = t := by
  rw [h, List.drop_of_length_le (by omega)]
  simp [risesB]
theorem vals_step {xs : List Int} {k : Nat} {q : Int} {T t : Bool} (hk : k < xs.length) (hq : xs.getD k 0 = q) (h : T = (t && (xs.drop k).all valB)) : T = ((t && valB q) && (xs.drop (k + 1)).all valB) := by
  rw [h, drop_at hk hq, List.all_cons]
  cases t <;> simp
theorem vals_fin {xs : List Int} {k : Nat} {T t : Bool} (hk : ¬ k < xs.length) (h : T = (t && (xs.drop k).all valB)) : T = t := by
  rw [h, List.drop_of_length_le (by omega)]
  simp

set_option maxRecDepth 100000 in
set_option maxHeartbeats 2000000 in
theorem isFrame_any (v : Value) (f : FrameL) (w : World) (hv : FrameV w v f) :
    Calls Try.prog 68 #[v] w fun e w' => e = .returned (.int .i64 (goodL f)) ∧ Below w.heap.size w w' := by
  have hb0 := frame_box w
  obtain ⟨a3, c3, a4, c4, a5, c5, a6, c6, rfl, h3, h4, h5, h6⟩ := hv
  obtain ⟨kind, node, id, ops, deps, ats, vals⟩ := f
  simp only at h3 h4 h5 h6
  by_cases g1 : kind < 1
  · have E : Hid (goodL ⟨kind, node, id, ops, deps, ats, vals⟩ = 3) := by unfold Hid goodL; rw [if_pos (by simp only; omega)]
    go_enter Try.func68, Try.ntmps68
    go_wp2
    go_ret
    exact ⟨ret_int E.out.symm, hb0 _⟩
  by_cases g2 : 5 < kind
  · have E : Hid (goodL ⟨kind, node, id, ops, deps, ats, vals⟩ = 3) := by unfold Hid goodL; rw [if_pos (by simp only; omega)]
    go_enter Try.func68, Try.ntmps68
    go_wp2
    go_ret
    exact ⟨ret_int E.out.symm, hb0 _⟩
  by_cases g3 : node < 0
  · have E : Hid (goodL ⟨kind, node, id, ops, deps, ats, vals⟩ = 2) := by unfold Hid goodL; rw [if_neg (by simp only; omega), if_pos (by simp only; omega)]
    go_enter Try.func68, Try.ntmps68
    go_wp2
    go_ret
    exact ⟨ret_int E.out.symm, hb0 _⟩
  by_cases g4 : 5 < node
  · have E : Hid (goodL ⟨kind, node, id, ops, deps, ats, vals⟩ = 2) := by unfold Hid goodL; rw [if_neg (by simp only; omega), if_pos (by simp only; omega)]
    go_enter Try.func68, Try.ntmps68
    go_wp2
    go_ret
    exact ⟨ret_int E.out.symm, hb0 _⟩
  go_enter Try.func68, Try.ntmps68
  go_wp2_with fail
  refine (isTxn_any id _).mono ?_
  rintro e w1 ⟨rfl, hw⟩
  subst hw
  cases tt : txnB id
  · have hid : ¬ (0 ≤ id ∧ id < 32) := by unfold txnB at tt; simpa using tt
    have E : Hid (goodL ⟨kind, node, id, ops, deps, ats, vals⟩ = 2) := by unfold Hid goodL; rw [if_neg (by simp only; omega), if_pos (by simp only; omega)]
    clear hid
    go_wp2
    go_ret
    exact ⟨ret_int E.out.symm, hb0 _⟩
  have hid : 0 ≤ id ∧ id < 32 := by unfold txnB at tt; simpa using tt
  have EE : Hid (goodL ⟨kind, node, id, ops, deps, ats, vals⟩ = if okAll ⟨kind, node, id, ops, deps, ats, vals⟩ && risesB (-1) ats && vals.all valB && decide (ats.length = vals.length) then 0 else 1) :=
    isframe_end (f := ⟨kind, node, id, ops, deps, ats, vals⟩) (by simp only; omega) (by simp only; omega)
  clear hid
  obtain ⟨W, hW⟩ : ∃ W, W = w.alloc (.cells #[.int .i64 kind, .int .i64 node, .int .i64 id, .slice a3 ops.length c3, .slice a4 deps.length c4, .slice a5 ats.length c5, .slice a6 vals.length c6] 43) := ⟨_, rfl⟩
  have f1 : FAt W w.heap.size kind node id (.slice a3 ops.length c3) (.slice a4 deps.length c4) (.slice a5 ats.length c5) (.slice a6 vals.length c6) := by rw [hW]; exact ⟨_, heap_new _ _⟩
  have hb1 : Below w.heap.size w W := by rw [hW]; exact hb0 _
  have HO : Hid (goodOpsF ⟨kind, node, id, ops, deps, ats, vals⟩ = if (kind == 1 || kind == 3) = true then goodOpsL ops else decide (ops.length = 0)) := by unfold Hid goodOpsF; simp
  have HD : Hid (goodDepsF ⟨kind, node, id, ops, deps, ats, vals⟩ = if (kind == 2 || kind == 3) = true then risingFrom (-1) deps && !hasL deps id else decide (deps.length = 0)) := by unfold Hid goodDepsF; simp
  have HA : Hid (okAll ⟨kind, node, id, ops, deps, ats, vals⟩ = (goodOpsF ⟨kind, node, id, ops, deps, ats, vals⟩ && goodDepsF ⟨kind, node, id, ops, deps, ats, vals⟩ && decide (kind = 5 ∨ ats.length = 0))) := rfl
  generalize hfo : goodOpsF ⟨kind, node, id, ops, deps, ats, vals⟩ = O at *
  generalize hfd : goodDepsF ⟨kind, node, id, ops, deps, ats, vals⟩ = D at *
  generalize hfa : okAll ⟨kind, node, id, ops, deps, ats, vals⟩ = A at *
  clear hfo hfd hfa
  have l3 := h3.2.1
  have l4 := h4.2.1
  have l5 := h5.2.1
  have l6 := h6.2.1
  unfold maxLen at l3 l4 l5 l6
  go_upto_region 6 with fail
  rw [← hW]
  clear hW hb0 tt
  obtain ⟨q0, q1, q2, q3, q4, q5, q6⟩ := f1.cell
  go_cut [38] from 9 (fun s wc => s = .bool (kind == 1 || kind == 3) ∧ wc = W)
  case first =>
    cases t1 : kind == 1
    · cases t2 : kind == 3
      all_goals
        go_wp2
        go_meet
        case rel => exact ⟨by rw [t1, t2]; rfl, rfl⟩
    · go_wp2
      go_meet
      case rel => exact ⟨by rw [t1]; rfl, rfl⟩
  case rest =>
    obtain ⟨hcs, hcw⟩ := hcut
    subst hcs hcw
    go_upto_if 38 with fail
    go_cut [3] from 9 (fun s wc => s = .bool O ∧ Below w.heap.size w wc ∧ FAt wc w.heap.size kind node id (.slice a3 ops.length c3) (.slice a4 deps.length c4) (.slice a5 ats.length c5) (.slice a6 vals.length c6))
    case first =>
      cases t1 : kind == 1 || kind == 3
      · have EO : Hid (O = decide (ops.length = 0)) := by unfold Hid; rw [HO.out, t1]; rfl
        go_wp2
        go_meet
        case rel =>
          refine ⟨?_, hb1, f1⟩
          rw [EO.out]
          congr 1
          rw [Bool.eq_iff_iff]
          simp
      · have EO : Hid (O = goodOpsL ops) := by unfold Hid; rw [HO.out, t1]; rfl
        go_wp2_with fail
        refine (isOps_any a3 c3 ops _ h3.2.1 (h3.later hb1).1 h3.2.2.1).mono ?_
        rintro e w2 ⟨rfl, hc⟩
        have hb2 := hb1.trans (hc.mono hb1.size)
        have f2 := f1.block (hc.block _ f1.lt)
        clear hc
        go_wp2
        go_meet
        case rel => exact ⟨by rw [EO.out], hb2, f2⟩
    case rest =>
      obtain ⟨hcs, hb2, f2⟩ := hcut
      subst hcs
      clear q0 q1 q2 q3 q4 q5 q6 f1 hb1
      obtain ⟨q0, q1, q2, q3, q4, q5, q6⟩ := f2.cell
      obtain ⟨X, hX⟩ : ∃ X, X = wc := ⟨_, rfl⟩
      subst hX
      go_upto_region 9 with fail
      go_cut [53] from 9 (fun s wc => s = .bool (kind == 2 || kind == 3) ∧ wc = X)
      case first =>
        cases t1 : kind == 2
        · cases t2 : kind == 3
          all_goals
            go_wp2
            go_meet
            case rel => exact ⟨by rw [t1, t2]; rfl, rfl⟩
        · go_wp2
          go_meet
          case rel => exact ⟨by rw [t1]; rfl, rfl⟩
      case rest =>
        obtain ⟨hcs, hcw⟩ := hcut
        subst hcs hcw
        have z4 := (h4.later hb2).1
        go_upto_if 53 with fail
        go_cut [3] from 9 (fun s wc' => s = .bool (O && D) ∧ wc' = wc)
        case first =>
          cases t1 : kind == 2 || kind == 3
          · have ED : Hid (D = decide (deps.length = 0)) := by unfold Hid; rw [HD.out, t1]; rfl
            cases O
            · go_wp2
              go_meet
              case rel => exact ⟨rfl, rfl⟩
            · go_wp2
              go_meet
              case rel =>
                refine ⟨?_, rfl⟩
                rw [ED.out]
                congr 1
                rw [Bool.eq_iff_iff]
                simp
          · have ED : Hid (D = (risingFrom (-1) deps && !hasL deps id)) := by unfold Hid; rw [HD.out, t1]; rfl
            cases O
            · go_wp2
              go_meet
              case rel => exact ⟨rfl, rfl⟩
            · go_wp2_with fail
              refine (isRising_any a4 c4 deps _ h4.2.1 z4).mono ?_
              rintro e wx ⟨rfl, hw⟩
              subst hw
              cases t2 : risingFrom (-1) deps
              · go_wp2
                go_meet
                case rel => exact ⟨by rw [ED.out, t2]; rfl, rfl⟩
              · go_wp2_with fail
                refine (ref_has a4 c4 deps id _ h4.2.1 z4).mono ?_
                rintro e wx ⟨rfl, hw⟩
                subst hw
                go_wp2
                go_meet
                case rel => exact ⟨by rw [ED.out, t2]; rfl, rfl⟩
        case rest =>
          obtain ⟨hcs, hcw⟩ := hcut
          subst hcs hcw
          clear z4
          go_upto_if 77 with fail
          have HA2 : Hid (A = ((O && D) && decide (kind = 5 ∨ ats.length = 0))) := HA.out
          generalize (O && D) = B at *
          go_cut [3] from 9 (fun s wc' => s = .bool A ∧ wc' = wc)
          case first =>
            cases t1 : kind != 5
            · have k5 : kind = 5 := by simpa using t1
              have EA : Hid (A = B) := by unfold Hid; rw [HA2.out, decide_eq_true (Or.inl k5), Bool.and_true]
              clear k5
              go_wp2
              go_meet
              case rel => exact ⟨by rw [EA.out], rfl⟩
            · have k5 : ¬ kind = 5 := by simpa using t1
              have EA : Hid (A = (B && decide (ats.length = 0))) := by unfold Hid; rw [HA2.out]; simp [k5]
              clear k5
              cases B
              · go_wp2
                go_meet
                case rel => exact ⟨by rw [EA.out]; rfl, rfl⟩
              · go_wp2
                go_meet
                case rel =>
                  refine ⟨?_, rfl⟩
                  rw [EA.out]
                  congr 1
                  rw [Bool.eq_iff_iff]
                  simp
          case rest =>
            obtain ⟨hcs, hcw⟩ := hcut
            subst hcs hcw
            clear HA HA2 HO HD
            have z5 := (h5.later hb2).1
            have z6 := (h6.later hb2).1
            go_wp2_with fail
            go_loop [3, 4, 88] (fun o l i => ∃ (k : Nat) (q : Int) (t : Bool), k ≤ ats.length ∧ i = .int .i64 k ∧ l = .int .i64 q ∧ o = .bool t ∧ Hid ((A && risesB (-1) ats) = (t && risesB q (ats.drop k)))) (fun _ _ i => ats.length - (intOf i).toNat)
            case atStart => exact ⟨0, -1, A, Nat.zero_le _, rfl, rfl, rfl, rfl⟩
            case round =>
              obtain ⟨k, l, t, hk, rfl, rfl, rfl, HR⟩ := hrel
              by_cases hlt : k < ats.length
              · obtain ⟨q, Hq, b, off, rfl, e0⟩ := IntsAt.get z5 hlt
                have HN : Hid ((A && risesB (-1) ats) = ((t && (decide (l < q) && decide (q < 4))) && risesB q (ats.drop (k + 1)))) := rises_step hlt Hq.out HR.out
                cases t
                · go_wp2
                  go_round
                  case rel => exact ⟨k + 1, q, false, by omega, by go_num, rfl, rfl, by rw [HN.out]; rfl⟩
                  case measure => simp [intOf]; omega
                · by_cases x1 : l < q
                  · by_cases x2 : q < 4
                    · go_wp2
                      go_round
                      case rel => exact ⟨k + 1, q, true, by omega, by go_num, rfl, by simp, by rw [HN.out, decide_eq_true x1, decide_eq_true x2]; rfl⟩
                      case measure => simp [intOf]; omega
                    · go_wp2
                      go_round
                      case rel => exact ⟨k + 1, q, false, by omega, by go_num, rfl, by simp, by rw [HN.out, decide_eq_false x2]; simp [Hid]⟩
                      case measure => simp [intOf]; omega
                  · go_wp2
                    go_round
                    case rel => exact ⟨k + 1, q, false, by omega, by go_num, rfl, by simp, by rw [HN.out, decide_eq_false x1]; rfl⟩
                    case measure => simp [intOf]; omega
              · have EA : Hid ((A && risesB (-1) ats) = t) := rises_fin hlt HR.out
                clear HR
                go_wp2_with fail
                go_loop [3, 107] (fun o i => ∃ (k : Nat) (t' : Bool), k ≤ vals.length ∧ i = .int .i64 k ∧ o = .bool t' ∧ Hid ((t && vals.all valB) = (t' && (vals.drop k).all valB))) (fun _ i => vals.length - (intOf i).toNat)
                case atStart => exact ⟨0, t, Nat.zero_le _, rfl, rfl, rfl⟩
                case round =>
                  obtain ⟨k2, t2, hk2, rfl, rfl, HR⟩ := hrel
                  by_cases hlt2 : k2 < vals.length
                  · obtain ⟨u, Hu, b, off, rfl, e0⟩ := IntsAt.get z6 hlt2
                    have HN : Hid ((t && vals.all valB) = ((t2 && valB u) && (vals.drop (k2 + 1)).all valB)) := vals_step hlt2 Hu.out HR.out
                    cases t2
                    · go_wp2
                      go_round
                      case rel => exact ⟨k2 + 1, false, by omega, by go_num, rfl, by rw [HN.out]; rfl⟩
                      case measure => simp [intOf]; omega
                    · have HV : Hid (valB u = (near u == u)) := by unfold Hid valB; rw [beq_flip, near_eq]
                      go_wp2_with fail
                      refine (bound_any u _).mono ?_
                      rintro e wx ⟨rfl, hw⟩
                      subst hw
                      cases tv : near u == u
                      all_goals
                        go_wp2
                        go_round
                        case rel => exact ⟨k2 + 1, _, by omega, by go_num, rfl, by rw [HN.out, HV.out, tv]; rfl⟩
                        case measure => simp [intOf]; omega
                  · have EB : Hid ((t && vals.all valB) = t2) := vals_fin hlt2 HR.out
                    have EG : Hid (goodL ⟨kind, node, id, ops, deps, ats, vals⟩ = if (t2 && decide (ats.length = vals.length)) = true then 0 else 1) := by
                      unfold Hid
                      rw [EE.out, EA.out, EB.out]
                    clear HR EE EA EB
                    cases t2
                    · have EG2 : Hid (goodL ⟨kind, node, id, ops, deps, ats, vals⟩ = 1) := by unfold Hid; rw [EG.out]; rfl
                      go_wp2
                      go_ret
                      exact ⟨ret_int EG2.out.symm, hb2⟩
                    · cases tl : (ats.length : Int) != (vals.length : Int)
                      · have hl : ats.length = vals.length := by simp at tl; omega
                        have EG2 : Hid (goodL ⟨kind, node, id, ops, deps, ats, vals⟩ = 0) := by unfold Hid; rw [EG.out, decide_eq_true hl]; rfl
                        clear hl
                        go_wp2
                        go_ret
                        exact ⟨ret_int EG2.out.symm, hb2⟩
                      · have hl : ¬ ats.length = vals.length := by simp at tl; omega
                        have EG2 : Hid (goodL ⟨kind, node, id, ops, deps, ats, vals⟩ = 1) := by unfold Hid; rw [EG.out, decide_eq_false hl]; rfl
                        clear hl
                        go_wp2
                        go_ret
                        exact ⟨ret_int EG2.out.symm, hb2⟩

end Go.Proofs.Ytkoefoccbjhoiab

namespace Go.Proofs.Ytkoefoccbjhoiab
open Go.RowKit
set_option linter.unusedSimpArgs false
set_option linter.unusedVariables false

set_option maxRecDepth 100000 in
set_option maxHeartbeats 4000000 in
theorem rtake_r (gr : Array Value) (c : CaseL) (id : Int) (v : Value) (f : FrameL) (w : World) (h : CaseV w gr c) (hf : FrameV w v f) (t0 : refC c id f ≠ 0) :
    Calls Try.prog 55 #[.agg gr, .int .i64 id, v] w fun e w' => ∃ gr' x, e = .returned (.tuple #[.agg gr', x, .int .i64 (takeC c id f).2.2]) ∧ CaseV w' gr' (takeC c id f).1 ∧ FramesV 0 w' x (takeC c id f).2.1 ∧ Below w.heap.size w w' := by
  have HE : Hid (takeC c id f = (c, [], refC c id f)) := take_refused t0
  have Ht0 : Hid (refC c id f ≠ 0) := t0
  clear t0
  have HFB : Hid (FrameB w.heap.size w v f) := hf.b
  have HCV : Hid (CaseV w gr c) := h
  obtain ⟨a3, c3, a4, c4, a5, c5, a6, c6, rfl, _⟩ := hf
  obtain ⟨zr, hzr⟩ : ∃ zr, zr = rowF 24 zcv := ⟨_, rfl⟩
  have HZL : Hid ((#[.bool false, .bool false, .slice none 0 0, .bool false, .bool false, .bool false, .bool false, .bool false, .bool false, .bool false, .bool false, .bool false, .bool false, .bool false, .bool false, .slice none 0 0, .bool false, .bool false, .bool false, .bool false, .int .i64 0, .int .i64 0, .int .i64 0, .int .i64 0] : Array Value) = zr) := by unfold Hid; rw [hzr]; rfl
  have hzz : zr.size = 24 := by rw [hzr, rowF_size]
  obtain ⟨W, hW⟩ : ∃ W, W = ((w.alloc (.cells gr 73)).alloc (.cells #[.int .i64 f.kind, .int .i64 f.node, .int .i64 f.id, .slice a3 f.ops.length c3, .slice a4 f.deps.length c4, .slice a5 f.ats.length c5, .slice a6 f.vals.length c6] 43)).alloc (.cells zr 73) := ⟨_, rfl⟩
  have hb : Below w.heap.size w W := by rw [hW]; exact (((Below.refl _ _).alloc (Nat.le_refl _) _).alloc (by rw [size_push]; omega) _).alloc (by rw [size_push, size_push]; omega) _
  have hzW : W.heap.size = w.heap.size + 3 := by rw [hW, size_push, size_push, size_push]
  obtain ⟨r0, r1, r2⟩ := rows3 w (.cells gr 73) (.cells #[.int .i64 f.kind, .int .i64 f.node, .int .i64 f.id, .slice a3 f.ops.length c3, .slice a4 f.deps.length c4, .slice a5 f.ats.length c5, .slice a6 f.vals.length c6] 43) (.cells zr 73)
  rw [← hW] at r0 r1 r2
  have HB0 : Hid (InBox w.heap.size W gr c) := ⟨r0, h.later hb⟩
  have HW : Hid (W = ((w.alloc (.cells gr 73)).alloc (.cells #[.int .i64 f.kind, .int .i64 f.node, .int .i64 f.id, .slice a3 f.ops.length c3, .slice a4 f.deps.length c4, .slice a5 f.ats.length c5, .slice a6 f.vals.length c6] 43)).alloc (.cells zr 73)) := hW
  have HR1 : Hid (W.heap[w.heap.size + 1]? = some (.cells #[.int .i64 f.kind, .int .i64 f.node, .int .i64 f.id, .slice a3 f.ops.length c3, .slice a4 f.deps.length c4, .slice a5 f.ats.length c5, .slice a6 f.vals.length c6] 43 (0, 0))) := r1
  have HR2 : Hid (W.heap[w.heap.size + 2]? = some (.cells zr 73 (0, 0))) := r2
  have Hbw : Hid (Below w.heap.size w W) := hb
  have tG := h.row
  have i9 := h.info
  have s9 : zr.size = gr.size := by rw [hzz, h.size]
  have o9 := h.one
  clear hW h r1 r2 hb hzr
  go_enter Try.func55, Try.ntmps55
  go_upto_region 1 with fail
  rw [HZL.out, ← HW.out]
  clear HW HZL
  go_wp2_with (first
    | ((with_reducible apply wpl_row r0); (· rfl); (· exact tG); (· rfl); simp only [Act.put, List.setIfInBounds_toArray, List.set_cons_zero, List.set_cons_succ])
    | fail)
  refine (ref_isCase gr c W HB0.out.case).mono ?_
  rintro e w1 ⟨rfl, hb1⟩
  have HX1 : Hid (InBox w.heap.size w1 gr c) := HB0.out.later hb1
  have HBW1 : Hid (Below W.heap.size W w1) := hb1
  have hz1 := hb1.size
  have rF1 : w1.heap[w.heap.size + 1]? = some (.cells #[.int .i64 f.kind, .int .i64 f.node, .int .i64 f.id, .slice a3 f.ops.length c3, .slice a4 f.deps.length c4, .slice a5 f.ats.length c5, .slice a6 f.vals.length c6] 43 (0, 0)) := by rw [hb1.block _ (by omega)]; exact HR1.out
  have kid : w1.cell? ⟨w.heap.size + 1, 2, none⟩ = some (.int .i64 f.id) := by rw [cell_of_row _ _ _ _ _ _ rF1]; rfl
  have qb := HX1.out.begun
  obtain ⟨a15, c15, q15, hs15, _⟩ := HX1.out.deps
  clear hb1 r0
  cases t1 : goodCB c
  · have HC : Hid (refC c id f = 2) := by unfold Hid refC; rw [if_pos (Or.inl (by unfold isCaseOfB; rw [t1]; rfl))]
    have rB9 : w1.heap[w.heap.size]? = some (.cells gr 73 (0, 0)) := (HB0.out.later HBW1.out).row
    have rZ9 : w1.heap[w.heap.size + 2]? = some (.cells zr 73 (0, 0)) := by rw [HBW1.out.block _ (by omega)]; exact HR2.out
    have hbF : Below w.heap.size w (w1.setRow (w.heap.size + 2) gr) := setRow_below (Hbw.out.trans (HBW1.out.mono (by omega))) (by omega) _
    have HCF : Hid (CaseV (w1.setRow (w.heap.size + 2) gr) gr c) := HCV.out.later hbF
    go_wp2_with (first
      | ((with_reducible apply wpl_row rB9); (· rfl); (· exact tG); (· rfl); simp only [Act.put, List.setIfInBounds_toArray, List.set_cons_zero, List.set_cons_succ])
      | (refine wpList_store_row rfl 73 _ _ rfl (w.heap.size + 2) gr rfl rfl 73 _ rZ9 i9 s9 o9 ?_)
      | fail)
    refine bodyPost_ret (v := .tuple #[.agg gr, .slice none 0 0, .int .i64 2]) (results_row2 Try.results55 _ _ (w.heap.size + 2) 73 gr (0, 0) _ rfl (heap_setRow rZ9) Try.underlying73 rfl i9 _ _ rfl rfl) rfl ⟨gr, .slice none 0 0, by rw [HE.out, HC.out], by rw [HE.out]; exact HCF.out, by rw [HE.out]; exact FramesV.nil _ _, hbF⟩
  cases t2 : c.begun
  · have HC : Hid (refC c id f = 2) := by unfold Hid refC; rw [if_pos (Or.inl (by unfold isCaseOfB; rw [t2]; simp))]
    rw [t2] at qb
    have rB9 : w1.heap[w.heap.size]? = some (.cells gr 73 (0, 0)) := (HB0.out.later HBW1.out).row
    have rZ9 : w1.heap[w.heap.size + 2]? = some (.cells zr 73 (0, 0)) := by rw [HBW1.out.block _ (by omega)]; exact HR2.out
    have hbF : Below w.heap.size w (w1.setRow (w.heap.size + 2) gr) := setRow_below (Hbw.out.trans (HBW1.out.mono (by omega))) (by omega) _
    have HCF : Hid (CaseV (w1.setRow (w.heap.size + 2) gr) gr c) := HCV.out.later hbF
    go_wp2_with (first
      | ((with_reducible apply wpl_row rB9); (· rfl); (· exact tG); (· rfl); simp only [Act.put, List.setIfInBounds_toArray, List.set_cons_zero, List.set_cons_succ])
      | (refine wpList_store_row rfl 73 _ _ rfl (w.heap.size + 2) gr rfl rfl 73 _ rZ9 i9 s9 o9 ?_)
      | fail)
    refine bodyPost_ret (v := .tuple #[.agg gr, .slice none 0 0, .int .i64 2]) (results_row2 Try.results55 _ _ (w.heap.size + 2) 73 gr (0, 0) _ rfl (heap_setRow rZ9) Try.underlying73 rfl i9 _ _ rfl rfl) rfl ⟨gr, .slice none 0 0, by rw [HE.out, HC.out], by rw [HE.out]; exact HCF.out, by rw [HE.out]; exact FramesV.nil _ _, hbF⟩
  rw [t2] at qb
  by_cases t3 : f.id = id
  rotate_left
  · have HC : Hid (refC c id f = 2) := by unfold Hid refC; rw [if_pos (Or.inr t3)]
    have d3 : (f.id != id) = true := by simpa using t3
    clear t3
    have rB9 : w1.heap[w.heap.size]? = some (.cells gr 73 (0, 0)) := (HB0.out.later HBW1.out).row
    have rZ9 : w1.heap[w.heap.size + 2]? = some (.cells zr 73 (0, 0)) := by rw [HBW1.out.block _ (by omega)]; exact HR2.out
    have hbF : Below w.heap.size w (w1.setRow (w.heap.size + 2) gr) := setRow_below (Hbw.out.trans (HBW1.out.mono (by omega))) (by omega) _
    have HCF : Hid (CaseV (w1.setRow (w.heap.size + 2) gr) gr c) := HCV.out.later hbF
    go_wp2_with (first
      | ((with_reducible apply wpl_row rB9); (· rfl); (· exact tG); (· rfl); simp only [Act.put, List.setIfInBounds_toArray, List.set_cons_zero, List.set_cons_succ])
      | (refine wpList_store_row rfl 73 _ _ rfl (w.heap.size + 2) gr rfl rfl 73 _ rZ9 i9 s9 o9 ?_)
      | fail)
    refine bodyPost_ret (v := .tuple #[.agg gr, .slice none 0 0, .int .i64 2]) (results_row2 Try.results55 _ _ (w.heap.size + 2) 73 gr (0, 0) _ rfl (heap_setRow rZ9) Try.underlying73 rfl i9 _ _ rfl rfl) rfl ⟨gr, .slice none 0 0, by rw [HE.out, HC.out], by rw [HE.out]; exact HCF.out, by rw [HE.out]; exact FramesV.nil _ _, hbF⟩
  have d3 : (f.id != id) = false := by simpa using t3
  have Ht3 : Hid (f.id = id) := t3
  have Ht12 : Hid (goodCB c = true ∧ c.begun = true) := ⟨t1, t2⟩
  clear t3 t1 t2
  go_wp2_with fail
  refine (ref_has a15 c15 c.deps id w1 hs15.2.1 hs15.1).mono ?_
  rintro e w2 ⟨rfl, hw⟩
  subst hw
  cases t4 : hasL c.deps id
  rotate_left
  · have HC : Hid (refC c id f = 2) := by unfold Hid refC; rw [if_pos (Or.inl (by unfold isCaseOfB; rw [t4]; simp))]
    have rB9 : w2.heap[w.heap.size]? = some (.cells gr 73 (0, 0)) := (HB0.out.later HBW1.out).row
    have rZ9 : w2.heap[w.heap.size + 2]? = some (.cells zr 73 (0, 0)) := by rw [HBW1.out.block _ (by omega)]; exact HR2.out
    have hbF : Below w.heap.size w (w2.setRow (w.heap.size + 2) gr) := setRow_below (Hbw.out.trans (HBW1.out.mono (by omega))) (by omega) _
    have HCF : Hid (CaseV (w2.setRow (w.heap.size + 2) gr) gr c) := HCV.out.later hbF
    go_wp2_with (first
      | ((with_reducible apply wpl_row rB9); (· rfl); (· exact tG); (· rfl); simp only [Act.put, List.setIfInBounds_toArray, List.set_cons_zero, List.set_cons_succ])
      | (refine wpList_store_row rfl 73 _ _ rfl (w.heap.size + 2) gr rfl rfl 73 _ rZ9 i9 s9 o9 ?_)
      | fail)
    refine bodyPost_ret (v := .tuple #[.agg gr, .slice none 0 0, .int .i64 2]) (results_row2 Try.results55 _ _ (w.heap.size + 2) 73 gr (0, 0) _ rfl (heap_setRow rZ9) Try.underlying73 rfl i9 _ _ rfl rfl) rfl ⟨gr, .slice none 0 0, by rw [HE.out, HC.out], by rw [HE.out]; exact HCF.out, by rw [HE.out]; exact FramesV.nil _ _, hbF⟩
  have HRf : Hid (refC c id f = if goodL f ≠ 0 then goodL f else if f.kind = 1 ∨ f.kind = 3 then 3 else 0) := by
    unfold Hid refC
    rw [if_neg]
    rintro (e | e)
    · unfold isCaseOfB at e; rw [Ht12.out.1, Ht12.out.2, t4] at e; cases e
    · exact e Ht3.out
  clear t4
  go_wp2_with (first
    | ((with_reducible apply wpl_row rF1); (· rfl); (· exact row_frame); (· rfl); simp only [Act.put, List.setIfInBounds_toArray, List.set_cons_zero, List.set_cons_succ])
    | fail)
  refine (isFrame_any _ f w2 (HFB.out.later (Hbw.out.trans (HBW1.out.mono (by omega)))).v).mono ?_
  rintro e w3 ⟨rfl, hb3⟩
  have HBW3 : Hid (Below W.heap.size W w3) := HBW1.out.trans (hb3.mono hz1)
  have rF3 : w3.heap[w.heap.size + 1]? = some (.cells #[.int .i64 f.kind, .int .i64 f.node, .int .i64 f.id, .slice a3 f.ops.length c3, .slice a4 f.deps.length c4, .slice a5 f.ats.length c5, .slice a6 f.vals.length c6] 43 (0, 0)) := by rw [hb3.block _ (by omega)]; exact rF1
  have kk3 : w3.cell? ⟨w.heap.size + 1, 0, none⟩ = some (.int .i64 f.kind) := by rw [cell_of_row _ _ _ _ _ _ rF3]; rfl
  clear hb3 rF1 kid q15
  by_cases t5 : goodL f = 0
  rotate_left
  · have HC : Hid (refC c id f = goodL f) := by unfold Hid; rw [HRf.out, if_pos t5]
    have d5 : (goodL f != 0) = true := by simpa using t5
    clear t5
    have rB9 : w3.heap[w.heap.size]? = some (.cells gr 73 (0, 0)) := (HB0.out.later HBW3.out).row
    have rZ9 : w3.heap[w.heap.size + 2]? = some (.cells zr 73 (0, 0)) := by rw [HBW3.out.block _ (by omega)]; exact HR2.out
    have hbF : Below w.heap.size w (w3.setRow (w.heap.size + 2) gr) := setRow_below (Hbw.out.trans (HBW3.out.mono (by omega))) (by omega) _
    have HCF : Hid (CaseV (w3.setRow (w.heap.size + 2) gr) gr c) := HCV.out.later hbF
    go_wp2_with (first
      | ((with_reducible apply wpl_row rB9); (· rfl); (· exact tG); (· rfl); simp only [Act.put, List.setIfInBounds_toArray, List.set_cons_zero, List.set_cons_succ])
      | (refine wpList_store_row rfl 73 _ _ rfl (w.heap.size + 2) gr rfl rfl 73 _ rZ9 i9 s9 o9 ?_)
      | fail)
    refine bodyPost_ret (v := .tuple #[.agg gr, .slice none 0 0, .int .i64 (goodL f)]) (results_row2 Try.results55 _ _ (w.heap.size + 2) 73 gr (0, 0) _ rfl (heap_setRow rZ9) Try.underlying73 rfl i9 _ _ rfl rfl) rfl ⟨gr, .slice none 0 0, by rw [HE.out, HC.out], by rw [HE.out]; exact HCF.out, by rw [HE.out]; exact FramesV.nil _ _, hbF⟩
  have d5 : (goodL f != 0) = false := by simpa using t5
  have HC : Hid (refC c id f = 3) := by
    unfold Hid
    have h9 := Ht0.out
    rw [HRf.out, if_neg (by simpa using t5)] at h9 ⊢
    by_cases k : f.kind = 1 ∨ f.kind = 3
    · rw [if_pos k]
    · rw [if_neg k] at h9; exact absurd rfl h9
  have HK : Hid (f.kind = 1 ∨ f.kind = 3) := by
    by_cases k : f.kind = 1 ∨ f.kind = 3
    · exact k
    · have h9 := Ht0.out
      rw [HRf.out, if_neg (by simpa using t5), if_neg k] at h9
      exact absurd rfl h9
  clear t5
  by_cases k1 : f.kind = 1
  · have d6 : (f.kind == 1) = true := by simpa using k1
    clear k1
    have rB9 : w3.heap[w.heap.size]? = some (.cells gr 73 (0, 0)) := (HB0.out.later HBW3.out).row
    have rZ9 : w3.heap[w.heap.size + 2]? = some (.cells zr 73 (0, 0)) := by rw [HBW3.out.block _ (by omega)]; exact HR2.out
    have hbF : Below w.heap.size w (w3.setRow (w.heap.size + 2) gr) := setRow_below (Hbw.out.trans (HBW3.out.mono (by omega))) (by omega) _
    have HCF : Hid (CaseV (w3.setRow (w.heap.size + 2) gr) gr c) := HCV.out.later hbF
    go_wp2_with (first
      | ((with_reducible apply wpl_row rB9); (· rfl); (· exact tG); (· rfl); simp only [Act.put, List.setIfInBounds_toArray, List.set_cons_zero, List.set_cons_succ])
      | (refine wpList_store_row rfl 73 _ _ rfl (w.heap.size + 2) gr rfl rfl 73 _ rZ9 i9 s9 o9 ?_)
      | fail)
    refine bodyPost_ret (v := .tuple #[.agg gr, .slice none 0 0, .int .i64 3]) (results_row2 Try.results55 _ _ (w.heap.size + 2) 73 gr (0, 0) _ rfl (heap_setRow rZ9) Try.underlying73 rfl i9 _ _ rfl rfl) rfl ⟨gr, .slice none 0 0, by rw [HE.out, HC.out], by rw [HE.out]; exact HCF.out, by rw [HE.out]; exact FramesV.nil _ _, hbF⟩
  · have d6 : (f.kind == 1) = false := by simpa using k1
    have d7 : (f.kind == 3) = true := by have := HK.out; simp; omega
    clear k1
    have rB9 : w3.heap[w.heap.size]? = some (.cells gr 73 (0, 0)) := (HB0.out.later HBW3.out).row
    have rZ9 : w3.heap[w.heap.size + 2]? = some (.cells zr 73 (0, 0)) := by rw [HBW3.out.block _ (by omega)]; exact HR2.out
    have hbF : Below w.heap.size w (w3.setRow (w.heap.size + 2) gr) := setRow_below (Hbw.out.trans (HBW3.out.mono (by omega))) (by omega) _
    have HCF : Hid (CaseV (w3.setRow (w.heap.size + 2) gr) gr c) := HCV.out.later hbF
    go_wp2_with (first
      | ((with_reducible apply wpl_row rB9); (· rfl); (· exact tG); (· rfl); simp only [Act.put, List.setIfInBounds_toArray, List.set_cons_zero, List.set_cons_succ])
      | (refine wpList_store_row rfl 73 _ _ rfl (w.heap.size + 2) gr rfl rfl 73 _ rZ9 i9 s9 o9 ?_)
      | fail)
    refine bodyPost_ret (v := .tuple #[.agg gr, .slice none 0 0, .int .i64 3]) (results_row2 Try.results55 _ _ (w.heap.size + 2) 73 gr (0, 0) _ rfl (heap_setRow rZ9) Try.underlying73 rfl i9 _ _ rfl rfl) rfl ⟨gr, .slice none 0 0, by rw [HE.out, HC.out], by rw [HE.out]; exact HCF.out, by rw [HE.out]; exact FramesV.nil _ _, hbF⟩

end Go.Proofs.Ytkoefoccbjhoiab
