/-
  A member that is down takes nothing.
  A member that is up: what its node refuses is refused.
  A member for which a tear is set.
  A member whose log takes no more.
  A member takes what it is told, and writes it.
  The contract of a member's take.
  The contract of a cluster's comeToNode.
  The contracts of slices.Grow (of nothing) and slices.Concat (of two) over texts.
  What a cluster does with a frame under way, in plain words; the contract of its handleFrame where there is none.
  A frame under way is lost.
  A frame under way comes to its node.
  A frame under way comes to who has its transaction.
  A frame under way comes to its node, and stays under way.
  A frame under way comes to who has its transaction, and stays under way.
  The contract of a cluster's changeNode.
  Each act, against what the document says of it.
  The contract of a cluster's Do.
  A cluster answers at all: the contract of the statements' own alive.
  How a frame that came in is read: its numbers, and where its lists lie.
  A list of acts that came in; an act that came in; what comes of acts, one by one.
  The contracts of the document's own isTxn, has and SameNumbers.
  The contract of the document's own IsRising.
  Plain mathematics of our own: the reader at a place of a text, and what a text's length tells of a frame.
  The contracts of the document's own SameOps and SameFrame, of fromSix and of the closure of DecodeFrame.
  The contracts of the document's own SameEntry and SameNode.
  The contracts of the document's own SameNumbers and SameOps, held against nothing.
  The contract of the document's own IsOps.
-/
import Derived.Test.YtkoefoccbjhoiacGreatNil11
import Derived.Lib.AppendZeros
import Derived.Test.YtkoefoccbjhoiacGreatNil9
import Derived.Test.YtkoefoccbjhoiacGreatNil2
import Derived.Lib.SmallJoins
import Derived.ChangeMaps5
import Derived.Test.YtkoefoccbjhoiacGreatNil1
namespace Go.Proofs.YtkoefoccbjhoiacGreat
open Go.RowKit
set_option linter.unusedVariables false
set_option linter.unusedSimpArgs false

end Go.Proofs.YtkoefoccbjhoiacGreat

namespace Go.Proofs.YtkoefoccbjhoiacGreat
open Go.RowKit
set_option linter.unusedVariables false
set_option linter.unusedSimpArgs false

end Go.Proofs.YtkoefoccbjhoiacGreat

namespace Go.Proofs.YtkoefoccbjhoiacGreat
open Go.RowKit
set_option linter.unusedVariables false
set_option linter.unusedSimpArgs false

end Go.Proofs.YtkoefoccbjhoiacGreat

namespace Go.Proofs.YtkoefoccbjhoiacGreat
open Go.RowKit
set_option linter.unusedVariables false
set_option linter.unusedSimpArgs false

end Go.Proofs.YtkoefoccbjhoiacGreat

namespace Go.Proofs.YtkoefoccbjhoiacGreat
open Go.RowKit
set_option linter.unusedVariables false
set_option linter.unusedSimpArgs false

end Go.Proofs.YtkoefoccbjhoiacGreat

namespace Go.Proofs.YtkoefoccbjhoiacGreat
open Go.RowKit

end Go.Proofs.YtkoefoccbjhoiacGreat

namespace Go.Proofs.YtkoefoccbjhoiacGreat
open Go.RowKit
set_option linter.unusedVariables false
set_option linter.unusedSimpArgs false

end Go.Proofs.YtkoefoccbjhoiacGreat

namespace Go.Proofs.YtkoefoccbjhoiacGreat
open Go.RowKit
set_option linter.unusedSimpArgs false
set_option linter.unusedVariables false

end Go.Proofs.YtkoefoccbjhoiacGreat

namespace Go.Proofs.YtkoefoccbjhoiacGreat
open Go.RowKit
set_option linter.unusedVariables false
set_option linter.unusedSimpArgs false

end Go.Proofs.YtkoefoccbjhoiacGreat

namespace Go.Proofs.YtkoefoccbjhoiacGreat
open Go.RowKit
set_option linter.unusedVariables false
set_option linter.unusedSimpArgs false

end Go.Proofs.YtkoefoccbjhoiacGreat

namespace Go.Proofs.YtkoefoccbjhoiacGreat
open Go.RowKit
set_option linter.unusedVariables false
set_option linter.unusedSimpArgs false

end Go.Proofs.YtkoefoccbjhoiacGreat

namespace Go.Proofs.YtkoefoccbjhoiacGreat
open Go.RowKit
set_option linter.unusedVariables false
set_option linter.unusedSimpArgs false

end Go.Proofs.YtkoefoccbjhoiacGreat

namespace Go.Proofs.YtkoefoccbjhoiacGreat
open Go.RowKit
set_option linter.unusedVariables false
set_option linter.unusedSimpArgs false

end Go.Proofs.YtkoefoccbjhoiacGreat

namespace Go.Proofs.YtkoefoccbjhoiacGreat
open Go.RowKit
set_option linter.unusedVariables false
set_option linter.unusedSimpArgs false

end Go.Proofs.YtkoefoccbjhoiacGreat

namespace Go.Proofs.YtkoefoccbjhoiacGreat
open Go.RowKit
set_option linter.unusedVariables false
set_option linter.unusedSimpArgs false

theorem CluC.setTear {ok : Nat → Prop} {w : World} {cv : Nat → Value} {acts : Nat} {c : CluL} (h : CluC ok w cv acts c) {n : Nat} (hn : n < 6) (m : Int) : CluC ok w (putC (putC cv (2 + n * 205 + 203) (.bool true)) (2 + n * 205 + 204) (.int .i64 m)) acts (c.setTear n m) := by
  have ho : ∀ i, i ≠ 2 + n * 205 + 203 → i ≠ 2 + n * 205 + 204 → putC (putC cv (2 + n * 205 + 203) (.bool true)) (2 + n * 205 + 204) (.int .i64 m) i = cv i := fun i h1 h2 => by unfold putC; rw [if_neg h2, if_neg h1]
  have hm := h.mem n hn
  have := h.setMem (cv' := putC (putC cv (2 + n * 205 + 203) (.bool true)) (2 + n * 205 + 204) (.int .i64 m)) hn (fun i _ hi => ho i (by omega) (by omega)) (up := c.up n) (st := c.st n) (log := c.log n) (tear := some m)
    ⟨hm.st.same (fun j hj => ho _ (by omega) (by omega)), (ho _ (by omega) (by omega)).trans hm.log, (ho _ (by omega) (by omega)).trans hm.down, by show putC _ _ _ (2 + n * 205 + 203) = _; unfold putC; rw [if_neg (by omega), if_pos rfl]; rfl, by show putC _ _ _ (2 + n * 205 + 204) = _; unfold putC; rw [if_pos rfl]; rfl⟩
  rw [updQ_self, updQ_self, updQ_self] at this
  exact this
end Go.Proofs.YtkoefoccbjhoiacGreat

namespace Go.Proofs.YtkoefoccbjhoiacGreat
open Go.RowKit
set_option linter.unusedVariables false
set_option linter.unusedSimpArgs false

end Go.Proofs.YtkoefoccbjhoiacGreat

namespace Go.Proofs.YtkoefoccbjhoiacGreat
open Go.RowKit
set_option linter.unusedVariables false
set_option linter.unusedSimpArgs false

theorem row_act (x y z : Int) (ad : Option Addr) (n cap : Nat) : RowT Tryz.prog 24 (#[.int .i64 x, .int .i64 y, .int .i64 z, .slice ad n cap] : Array Value).size := ⟨_, Tryz.underlying24, rfl, by kernel_rfl⟩
end Go.Proofs.YtkoefoccbjhoiacGreat

namespace Go.Proofs.YtkoefoccbjhoiacGreat
open Go.RowKit
set_option linter.unusedVariables false
set_option linter.unusedSimpArgs false

end Go.Proofs.YtkoefoccbjhoiacGreat

namespace Go.Proofs.YtkoefoccbjhoiacGreat
open Go.ChangeShapes Go.WideShapes Go.ChangeAt Go.RowKit Go.Deep

theorem Tryz.cellsOps : Tryz.prog.cellsOf 22 = 1 := by kernel_rfl
section
variable {H : Type} {enc : TypeId × Value → H} {w : World} {base : Nat} {spare : Nat → Bool} {held : Bool}

theorem open_sl_ops {n : Nat} {c : Value} {y : DataW H × List MemPlace} (h : DataW.trod enc Tryz.prog w base spare held n 22 [c] = some y) : ∃ a cap zs, c = .slice a (zs : List OpL).length cap ∧ SlOps w a cap zs := by
  obtain ⟨a, l, cap, hc⟩ := Joins.slice_form Tryz.underlying22 h
  simp at hc
  subst hc
  obtain ⟨hl, zs, rfl, hz, _, hn, hcap⟩ := open_opsAt Tryz.underlying22 Tryz.underlying69 Tryz.underlying3 Tryz.cellsOp Tryz.cellsInt rfl rfl rfl rfl rfl rfl h
  exact ⟨a, cap, zs, rfl, hz, hl, hcap, hn⟩

end

end Go.Proofs.YtkoefoccbjhoiacGreat

namespace Go.Proofs.YtkoefoccbjhoiacGreat
open Go.ChangeShapes Go.WideShapes Go.ChangeAt Go.RowKit Go.Deep

theorem list4 {α : Type} {l : List α} (h : l.length = 4) : ∃ a b c d, l = [a, b, c, d] := by
  match l, h with
  | [a, b, c, d], _ => exact ⟨a, b, c, d, rfl⟩
theorem Tryz.cellsAct : Tryz.prog.cellsOf 24 = 4 := by kernel_rfl
section
variable {H : Type} {enc : TypeId × Value → H} {w : World} {base : Nat} {spare : Nat → Bool} {held : Bool}
set_option maxRecDepth 100000 in
theorem open_act_cells {n : Nat} {cs : List Value} (hl : cs.length = 4) {y : DataW H × List MemPlace} (hf : DataW.trod enc Tryz.prog w base spare held n 24 cs = some y) : ∃ a, ActV w (.agg cs.toArray) a := by
  obtain ⟨c0, c1, c2, c3, rfl⟩ := list4 hl
  obtain ⟨xs, n, _, _, _, hxl, hff⟩ := DataW.trod_struct Tryz.underlying24 hf
  have g0 := hff 0 _ rfl
  have g1 := hff 1 _ rfl
  have g2 := hff 2 _ rfl
  have g3 := hff 3 _ rfl
  simp [Tryz.cellsInt, Tryz.cellsOps] at g0 g1 g2 g3
  obtain ⟨x0, x1, x2, x3, rfl⟩ := list4 hxl
  obtain ⟨n0, r0, _, _⟩ := DataW.trod_int Tryz.underlying3 g0
  obtain ⟨n1, r1, _, _⟩ := DataW.trod_int Tryz.underlying3 g1
  obtain ⟨n2, r2, _, _⟩ := DataW.trod_int Tryz.underlying3 g2
  simp at r0 r1 r2
  subst r0 r1 r2
  obtain ⟨a3, d3, z3, rfl, h3⟩ := open_sl_ops g3
  exact ⟨⟨n0, n1, n2, z3⟩, a3, d3, rfl, h3⟩
set_option maxRecDepth 100000 in
theorem open_act {r : Reach} {b0 : Nat} {v : Value} {d : DataW H} {p : List MemPlace} (hv : Value.okWide Tryz.prog w r b0 24 v) (h : DataW.Trod enc Tryz.prog w base spare held 24 v d p) : ∃ a, ActV w v a := by
  obtain ⟨cs, rfl, hsz⟩ := okWide_struct Tryz.underlying24 hv
  rw [Tryz.cellsAct] at hsz
  obtain ⟨fuel, hf⟩ := h
  obtain ⟨a, ha⟩ := open_act_cells (cs := cs.toList) (by simpa using hsz) (by simpa [Value.cells] using hf)
  exact ⟨a, by simpa using ha⟩
end

end Go.Proofs.YtkoefoccbjhoiacGreat

namespace Go.Proofs.YtkoefoccbjhoiacGreat
open Go.RowKit

set_option maxRecDepth 100000 in
set_option maxHeartbeats 400000 in
theorem sameNumbers_any (a : Option Addr) (cap : Nat) (zs : List Int) (a' : Option Addr) (cap' : Nat) (w : World) (hl : zs.length ≤ maxLen) (hz : IntsAt w.heap.size w a zs) (hy : IntsAt w.heap.size w a' zs) :
    Calls Tryz.prog 45 #[.slice a zs.length cap, .slice a' zs.length cap'] w fun e w' => e = .returned (.bool true) ∧ Below w.heap.size w w' := by
  unfold maxLen at hl
  have hne : ((zs.length : Int) != (zs.length : Int)) = false := by simp
  rcases hz with rfl | ⟨b, off, rfl, hb, hc⟩
  · go_enter Tryz.func45, Tryz.ntmps45
    go_wp2
    refine wp_loop_rounds 1 ?_; rw [rounds_succ]
    go_wp2
    go_ret
    exact ⟨rfl, Below.refl _ _⟩
  rcases hy with rfl | ⟨b', off', rfl, hb', hc'⟩
  · go_enter Tryz.func45, Tryz.ntmps45
    go_wp2
    refine wp_loop_rounds 1 ?_; rw [rounds_succ]
    go_wp2
    go_ret
    exact ⟨rfl, Below.refl _ _⟩
  go_enter Tryz.func45, Tryz.ntmps45
  go_wp2
  go_loopw [13] (fun i wr => ∃ k : Nat, k ≤ zs.length ∧ i = .int .i64 k ∧ Below w.heap.size w wr) (fun i _ => zs.length - (intOf i).toNat)
  case atStart => exact ⟨0, Nat.zero_le _, rfl, Below.refl _ _⟩
  case round =>
    obtain ⟨k, hk, rfl, hB⟩ := hrel
    by_cases hlt : k < zs.length
    · obtain ⟨q, Hq, e0⟩ := IntsAt.at hc hb hB hlt
      have f0 : wr.cell? ⟨b', off' + k, none⟩ = some (.int .i64 q) := by rw [hB.cell (p := ⟨b', off' + k, none⟩) hb', ← Hq.out]; exact hc' k hlt
      have hi : (k : Int) < (zs.length : Int) := by omega
      clear hc hc'
      go_wp2
      go_quiet (fail)
      go_wp2
      go_roundw
      case rel => exact ⟨k + 1, by omega, by go_num, below_drewN hB _⟩
      case measure => simp [intOf]; omega
    · go_wp2
      go_ret
      exact ⟨rfl, hB⟩

end Go.Proofs.YtkoefoccbjhoiacGreat

namespace Go.Proofs.YtkoefoccbjhoiacGreat
open Go.RowKit

end Go.Proofs.YtkoefoccbjhoiacGreat

namespace Go.Proofs.YtkoefoccbjhoiacGreat
open Go.RowKit

def pos (l : List UInt8) (p : Nat) : Rd := ⟨l.drop p, false⟩
end Go.Proofs.YtkoefoccbjhoiacGreat

namespace Go.Proofs.YtkoefoccbjhoiacGreat
open Go.RowKit

set_option maxRecDepth 100000 in
set_option maxHeartbeats 400000 in
theorem ref_sameOps_any (a : Option Addr) (cap : Nat) (zs : List OpL) (a' : Option Addr) (cap' : Nat) (w : World) (hl : zs.length ≤ maxLen) (hz : OpsAt w a zs) (hy : OpsAt w a' zs) :
    Calls Tryz.prog 52 #[.slice a zs.length cap, .slice a' zs.length cap'] w fun e w' => e = .returned (.bool true) ∧ Below w.heap.size w w' := by
  unfold maxLen at hl
  have hne : ((zs.length : Int) != (zs.length : Int)) = false := by simp
  rcases hz with rfl | ⟨b, off, rfl, hb, hc⟩
  · go_enter Tryz.func52, Tryz.ntmps52
    go_wp2
    refine wp_loop_rounds 1 ?_; rw [rounds_succ]
    go_wp2
    go_ret
    exact ⟨rfl, Below.refl _ _⟩
  rcases hy with rfl | ⟨b', off', rfl, hb', hc'⟩
  · go_enter Tryz.func52, Tryz.ntmps52
    go_wp2
    refine wp_loop_rounds 1 ?_; rw [rounds_succ]
    go_wp2
    go_ret
    exact ⟨rfl, Below.refl _ _⟩
  go_enter Tryz.func52, Tryz.ntmps52
  go_wp2
  go_loopw [13] (fun i wr => ∃ k : Nat, k ≤ zs.length ∧ i = .int .i64 k ∧ Below w.heap.size w wr) (fun i _ => zs.length - (intOf i).toNat)
  case atStart => exact ⟨0, Nat.zero_le _, rfl, Below.refl _ _⟩
  case round =>
    obtain ⟨k, hk, rfl, hB⟩ := hrel
    by_cases hlt : k < zs.length
    · obtain ⟨q0, q1, q2, Hq, e0, e1, e2⟩ := OpsAt.at hc hb hB hlt
      obtain ⟨p0, p1, p2, Hp, f0, f1, f2⟩ := OpsAt.at hc' hb' hB hlt
      have hh : (q0, q1, q2) = (p0, p1, p2) := Hq.out.symm.trans Hp.out
      simp at hh
      obtain ⟨rfl, rfl, rfl⟩ := hh
      have hi : (k : Int) < (zs.length : Int) := by omega
      clear hc hc'
      go_wp2
      go_quiet (fail)
      go_wp2
      go_roundw
      case rel => exact ⟨k + 1, by omega, by go_num, below_drewN hB _⟩
      case measure => simp [intOf]; omega
    · go_wp2
      go_ret
      exact ⟨rfl, hB⟩

end Go.Proofs.YtkoefoccbjhoiacGreat

namespace Go.Proofs.YtkoefoccbjhoiacGreat
open Go.RowKit

set_option maxRecDepth 100000 in
set_option maxHeartbeats 1000000 in
theorem ref_sameEntry (v v' : Value) (e : EntryL) (w : World) (h : EntV w v e) (h' : EntV w v' e) :
    Calls Tryz.prog 51 #[v, v'] w fun r w' => r = .returned (.bool true) ∧ Below w.heap.size w w' := by
  obtain ⟨a1, c1, a2, c2, a3, c3, a4, c4, a5, c5, rfl, x1, x2, x3, x4, x5, _⟩ := h
  obtain ⟨a1', c1', a2', c2', a3', c3', a4', c4', a5', c5', rfl, y1, y2, y3, y4, y5, _⟩ := h'
  obtain ⟨W, hW⟩ : ∃ W, W = (w.alloc (.cells #[.int .i64 e.state, .slice a1 e.ops.length c1, .slice a2 e.first.length c2, .slice a3 e.deps.length c3, .slice a4 e.ats.length c4, .slice a5 e.vals.length c5] 28)).alloc (.cells #[.int .i64 e.state, .slice a1' e.ops.length c1', .slice a2' e.first.length c2', .slice a3' e.deps.length c3', .slice a4' e.ats.length c4', .slice a5' e.vals.length c5'] 28) := ⟨_, rfl⟩
  obtain ⟨r0, r1⟩ := two_rows w (.cells #[.int .i64 e.state, .slice a1 e.ops.length c1, .slice a2 e.first.length c2, .slice a3 e.deps.length c3, .slice a4 e.ats.length c4, .slice a5 e.vals.length c5] 28) (.cells #[.int .i64 e.state, .slice a1' e.ops.length c1', .slice a2' e.first.length c2', .slice a3' e.deps.length c3', .slice a4' e.ats.length c4', .slice a5' e.vals.length c5'] 28)
  rw [← hW] at r0 r1
  have hb : Below w.heap.size w W := by rw [hW]; exact ((Below.refl _ _).alloc (Nat.le_refl _) _).alloc (by rw [size_push]; omega) _
  have hzW : W.heap.size = w.heap.size + 2 := by rw [hW, size_push, size_push]
  have es : (e.state == e.state) = true := by simp
  have HW : Hid (W = (w.alloc (.cells #[.int .i64 e.state, .slice a1 e.ops.length c1, .slice a2 e.first.length c2, .slice a3 e.deps.length c3, .slice a4 e.ats.length c4, .slice a5 e.vals.length c5] 28)).alloc (.cells #[.int .i64 e.state, .slice a1' e.ops.length c1', .slice a2' e.first.length c2', .slice a3' e.deps.length c3', .slice a4' e.ats.length c4', .slice a5' e.vals.length c5'] 28)) := hW
  have KC : Hid (∀ wx, Below W.heap.size W wx → (wx.heap[w.heap.size]? = some (.cells #[.int .i64 e.state, .slice a1 e.ops.length c1, .slice a2 e.first.length c2, .slice a3 e.deps.length c3, .slice a4 e.ats.length c4, .slice a5 e.vals.length c5] 28 (0, 0)) ∧ wx.heap[w.heap.size + 1]? = some (.cells #[.int .i64 e.state, .slice a1' e.ops.length c1', .slice a2' e.first.length c2', .slice a3' e.deps.length c3', .slice a4' e.ats.length c4', .slice a5' e.vals.length c5'] 28 (0, 0)))) := fun wx hx => ⟨by rw [hx.block _ (by omega)]; exact r0, by rw [hx.block _ (by omega)]; exact r1⟩
  clear hW r0 r1
  go_enter Tryz.func51, Tryz.ntmps51
  go_upto_region 1 with fail
  rw [← HW.out]
  clear HW
  obtain ⟨r0, r1⟩ := KC.out W (Below.refl _ _)
  have p0 : W.cell? ⟨w.heap.size, 0, none⟩ = some (.int .i64 e.state) := by rw [cell_of_row _ _ _ _ _ _ r0]; rfl
  have p1 : W.cell? ⟨w.heap.size + 1, 0, none⟩ = some (.int .i64 e.state) := by rw [cell_of_row _ _ _ _ _ _ r1]; rfl
  have q1 : W.cell? ⟨w.heap.size, 1, none⟩ = some (.slice a1 e.ops.length c1) := by rw [cell_of_row _ _ _ _ _ _ r0]; rfl
  have z1 : W.cell? ⟨w.heap.size + 1, 1, none⟩ = some (.slice a1' e.ops.length c1') := by rw [cell_of_row _ _ _ _ _ _ r1]; rfl
  clear r0 r1
  go_wp2_with fail
  refine (ref_sameOps_any a1 c1 e.ops a1' c1' W x1.2.1 (x1.later hb).1 (y1.later hb).1).mono ?_
  rintro r w1 ⟨rfl, hx1⟩
  have hb1 : Below W.heap.size W w1 := hx1
  have hw1 : Below w.heap.size w w1 := hb.trans (hb1.mono (by omega))
  obtain ⟨r0, r1⟩ := KC.out w1 hb1
  clear hx1 q1 z1
  have q2 : w1.cell? ⟨w.heap.size, 2, none⟩ = some (.slice a2 e.first.length c2) := by rw [cell_of_row _ _ _ _ _ _ r0]; rfl
  have z2 : w1.cell? ⟨w.heap.size + 1, 2, none⟩ = some (.slice a2' e.first.length c2') := by rw [cell_of_row _ _ _ _ _ _ r1]; rfl
  clear r0 r1
  go_wp2_with fail
  refine (sameNumbers_any a2 c2 e.first a2' c2' w1 x2.2.1 (x2.later hw1).1 (y2.later hw1).1).mono ?_
  rintro r w2 ⟨rfl, hx2⟩
  have hb2 : Below W.heap.size W w2 := hb1.trans (hx2.mono hb1.size)
  have hw2 : Below w.heap.size w w2 := hb.trans (hb2.mono (by omega))
  obtain ⟨r0, r1⟩ := KC.out w2 hb2
  clear hx2 q2 z2
  have q3 : w2.cell? ⟨w.heap.size, 3, none⟩ = some (.slice a3 e.deps.length c3) := by rw [cell_of_row _ _ _ _ _ _ r0]; rfl
  have z3 : w2.cell? ⟨w.heap.size + 1, 3, none⟩ = some (.slice a3' e.deps.length c3') := by rw [cell_of_row _ _ _ _ _ _ r1]; rfl
  clear r0 r1
  go_wp2_with fail
  refine (sameNumbers_any a3 c3 e.deps a3' c3' w2 x3.2.1 (x3.later hw2).1 (y3.later hw2).1).mono ?_
  rintro r w3 ⟨rfl, hx3⟩
  have hb3 : Below W.heap.size W w3 := hb2.trans (hx3.mono hb2.size)
  have hw3 : Below w.heap.size w w3 := hb.trans (hb3.mono (by omega))
  obtain ⟨r0, r1⟩ := KC.out w3 hb3
  clear hx3 q3 z3
  have q4 : w3.cell? ⟨w.heap.size, 4, none⟩ = some (.slice a4 e.ats.length c4) := by rw [cell_of_row _ _ _ _ _ _ r0]; rfl
  have z4 : w3.cell? ⟨w.heap.size + 1, 4, none⟩ = some (.slice a4' e.ats.length c4') := by rw [cell_of_row _ _ _ _ _ _ r1]; rfl
  clear r0 r1
  go_wp2_with fail
  refine (sameNumbers_any a4 c4 e.ats a4' c4' w3 x4.2.1 (x4.later hw3).1 (y4.later hw3).1).mono ?_
  rintro r w4 ⟨rfl, hx4⟩
  have hb4 : Below W.heap.size W w4 := hb3.trans (hx4.mono hb3.size)
  have hw4 : Below w.heap.size w w4 := hb.trans (hb4.mono (by omega))
  obtain ⟨r0, r1⟩ := KC.out w4 hb4
  clear hx4 q4 z4
  have q5 : w4.cell? ⟨w.heap.size, 5, none⟩ = some (.slice a5 e.vals.length c5) := by rw [cell_of_row _ _ _ _ _ _ r0]; rfl
  have z5 : w4.cell? ⟨w.heap.size + 1, 5, none⟩ = some (.slice a5' e.vals.length c5') := by rw [cell_of_row _ _ _ _ _ _ r1]; rfl
  clear r0 r1
  go_wp2_with fail
  refine (sameNumbers_any a5 c5 e.vals a5' c5' w4 x5.2.1 (x5.later hw4).1 (y5.later hw4).1).mono ?_
  rintro r w5 ⟨rfl, hx5⟩
  have hb5 : Below W.heap.size W w5 := hb4.trans (hx5.mono hb4.size)
  have hw5 : Below w.heap.size w w5 := hb.trans (hb5.mono (by omega))
  obtain ⟨r0, r1⟩ := KC.out w5 hb5
  clear hx5 q5 z5
  clear r0 r1
  go_wp2
  go_ret
  exact ⟨rfl, hw5⟩

set_option maxRecDepth 100000 in
set_option maxHeartbeats 1000000 in
theorem ref_sameNode (nv nv' : Nat → Value) (s : NodeL) (w : World) (h : NodeC (· < w.heap.size) w nv s) (h' : NodeC (· < w.heap.size) w nv' s) :
    Calls Tryz.prog 17 #[.agg (rowF 201 nv), .agg (rowF 201 nv')] w fun r w' => r = .returned (.bool true) ∧ Below w.heap.size w w' := by
  obtain ⟨ga, hga⟩ : ∃ ga, ga = rowF 201 nv := ⟨_, rfl⟩
  obtain ⟨gb, hgb⟩ : ∃ gb, gb = rowF 201 nv' := ⟨_, rfl⟩
  rw [← hga, ← hgb]
  obtain ⟨W, hW⟩ : ∃ W, W = (w.alloc (.cells ga 32)).alloc (.cells gb 32) := ⟨_, rfl⟩
  obtain ⟨r0, r1⟩ := two_rows w (.cells ga 32) (.cells gb 32)
  rw [← hW] at r0 r1
  have hb : Below w.heap.size w W := by rw [hW]; exact ((Below.refl _ _).alloc (Nat.le_refl _) _).alloc (by rw [size_push]; omega) _
  have hzW : W.heap.size = w.heap.size + 2 := by rw [hW, size_push, size_push]
  have HBa : Hid (BlkAt 201 W w.heap.size nv) := ⟨_, by rw [← hga]; exact r0⟩
  have HBb : Hid (BlkAt 201 W (w.heap.size + 1) nv') := ⟨_, by rw [← hgb]; exact r1⟩
  have HN : Hid (NodeC (· < w.heap.size) w nv s) := h
  have HN' : Hid (NodeC (· < w.heap.size) w nv' s) := h'
  have HW : Hid (W = (w.alloc (.cells ga 32)).alloc (.cells gb 32)) := hW
  clear hW r0 r1 h h' hga hgb
  go_enter Tryz.func17, Tryz.ntmps17
  go_upto_region 1 with fail
  rw [← HW.out]
  clear HW
  go_wp2_with fail
  go_loopw [6] (fun i wr => ∃ k : Nat, k ≤ 32 ∧ i = .int .i64 k ∧ Below W.heap.size W wr) (fun i _ => 32 - (intOf i).toNat)
  case atStart => exact ⟨0, Nat.zero_le _, rfl, Below.refl _ _⟩
  case round =>
    obtain ⟨k, hk, rfl, hB⟩ := hrel
    have hbw : Below w.heap.size w wr := hb.trans (hB.mono (by omega))
    have hsz := hB.size
    have HBar : Hid (BlkAt 201 wr w.heap.size nv) := HBa.out.later hB (by omega)
    have HBbr : Hid (BlkAt 201 wr (w.heap.size + 1) nv') := HBb.out.later hB (by omega)
    by_cases hlt : k < 32
    · have n1 : (0 : Int) ≤ (k : Int) ∧ (k : Int) < 32 := by omega
      obtain ⟨ca, hca⟩ : ∃ ca, ca = (sixV nv (k * 6)).toList := ⟨_, rfl⟩
      obtain ⟨cb, hcb⟩ : ∃ cb, cb = (sixV nv' (k * 6)).toList := ⟨_, rfl⟩
      have ra : wr.rangeAt w.heap.size (k * 6) ca := by
        rw [hca]
        exact BlkAt.range HBar.out (o := k * 6) (n := 6) (by omega)
      have rb : wr.rangeAt (w.heap.size + 1) (k * 6) cb := by
        rw [hcb]
        exact BlkAt.range HBbr.out (o := k * 6) (n := 6) (by omega)
      have hsa : (Tryz.prog.info? 28).map (·.size) = some ca.length := by rw [hca]; exact Tryz.infoEntry
      have hsb : (Tryz.prog.info? 28).map (·.size) = some cb.length := by rw [hcb]; exact Tryz.infoEntry
      have HVa : Hid (EntV w (.agg ca.toArray) (s.ent k)) := by rw [hca]; exact (HN.out.es.ent k hlt).v
      have HVb : Hid (EntV w (.agg cb.toArray) (s.ent k)) := by rw [hcb]; exact (HN'.out.es.ent k hlt).v
      clear hca hcb
      go_wp2_with fail
      have HRa : Hid (∀ wx, Below wr.heap.size wr wx → wx.rangeAt w.heap.size (k * 6) ca) := fun wx hx => range_later ra hx (by omega)
      have HRb : Hid (∀ wx, Below wr.heap.size wr wx → wx.rangeAt (w.heap.size + 1) (k * 6) cb) := fun wx hx => range_later rb hx (by omega)
      clear ra rb
      refine wp_region_held_drew (S := fun w' => Below wr.heap.size wr w') (by kernel_rfl) ((Below.refl _ _).drew) ?_
      intro hH
      refine wpAnyH_takeD (i := 0) (d := some 9) (v := .int .i64 k) rfl rfl (by kernel_rfl) (by kernel_rfl) (by kernel_rfl) (fun _ _ _ h => h) (Or.inl ⟨by rfl, fun _ _ => by go_simp⟩) hH ?_
      simp only [Act.put, List.setIfInBounds_toArray, List.set_cons_zero, List.set_cons_succ]
      refine wpAnyH_takeD (i := 1) (d := some 10) (v := .pointer (some ⟨w.heap.size, 0, none⟩)) rfl rfl (by kernel_rfl) (by kernel_rfl) (by kernel_rfl) (fun _ _ _ h => h) (Or.inl ⟨by rfl, fun _ _ => by go_simp⟩) hH ?_
      simp only [Act.put, List.setIfInBounds_toArray, List.set_cons_zero, List.set_cons_succ]
      refine wpAnyH_takeD (i := 2) (d := some 11) (v := .pointer (some ⟨w.heap.size, k * 6, none⟩)) rfl rfl (by kernel_rfl) (by kernel_rfl) (by kernel_rfl) (fun _ _ _ h => h) (Or.inl ⟨by rfl, fun _ _ => by go_simp⟩) hH ?_
      simp only [Act.put, List.setIfInBounds_toArray, List.set_cons_zero, List.set_cons_succ]
      refine wpAnyH_takeD (i := 3) (d := some 12) (v := .agg ca.toArray) rfl rfl (by kernel_rfl) (by kernel_rfl) (by kernel_rfl) (fun _ _ _ h => h) (yieldsIf_load_mid (by rfl) _ _ rfl _ _ rfl ca _ (HRa.out) Tryz.underlying28 rfl hsa) hH ?_
      simp only [Act.put, List.setIfInBounds_toArray, List.set_cons_zero, List.set_cons_succ]
      refine wpAnyH_takeD (i := 4) (d := some 13) (v := .int .i64 k) rfl rfl (by kernel_rfl) (by kernel_rfl) (by kernel_rfl) (fun _ _ _ h => h) (Or.inl ⟨by rfl, fun _ _ => by go_simp⟩) hH ?_
      simp only [Act.put, List.setIfInBounds_toArray, List.set_cons_zero, List.set_cons_succ]
      refine wpAnyH_takeD (i := 5) (d := some 14) (v := .pointer (some ⟨w.heap.size + 1, 0, none⟩)) rfl rfl (by kernel_rfl) (by kernel_rfl) (by kernel_rfl) (fun _ _ _ h => h) (Or.inl ⟨by rfl, fun _ _ => by go_simp⟩) hH ?_
      simp only [Act.put, List.setIfInBounds_toArray, List.set_cons_zero, List.set_cons_succ]
      refine wpAnyH_takeD (i := 6) (d := some 15) (v := .pointer (some ⟨w.heap.size + 1, k * 6, none⟩)) rfl rfl (by kernel_rfl) (by kernel_rfl) (by kernel_rfl) (fun _ _ _ h => h) (Or.inl ⟨by rfl, fun _ _ => by go_simp⟩) hH ?_
      simp only [Act.put, List.setIfInBounds_toArray, List.set_cons_zero, List.set_cons_succ]
      refine wpAnyH_takeD (i := 7) (d := some 16) (v := .agg cb.toArray) rfl rfl (by kernel_rfl) (by kernel_rfl) (by kernel_rfl) (fun _ _ _ h => h) (yieldsIf_load_mid (by rfl) _ _ rfl _ _ rfl cb _ (HRb.out) Tryz.underlying28 rfl hsb) hH ?_
      simp only [Act.put, List.setIfInBounds_toArray, List.set_cons_zero, List.set_cons_succ]
      refine wpAnyH_ready (rs := [8]) (by kernel_rfl) (by simp) ?_
      refine AllReadyH.cons rfl (fun K hK => ?_) AllReadyH.nil
      go_simp
      refine (ref_sameEntry _ _ (s.ent k) _ (HVa.out.later (hbw.drew)) (HVb.out.later (hbw.drew))).mono ?_
      rintro r x2 ⟨rfl, hb2⟩
      go_wp2_with fail
      refine hK.out _ _ (hH.trans hb2) (fun hH2 => ?_)
      clear hK K hH
      have hH := hH2
      clear hH2 hb2
      refine wpAnyH_takeD (i := 9) (d := some 18) (v := .bool false) rfl rfl (by kernel_rfl) (by kernel_rfl) (by kernel_rfl) (fun _ _ _ h => h) (Or.inl ⟨by rfl, fun _ _ => by go_simp⟩) hH ?_
      simp only [Act.put, List.setIfInBounds_toArray, List.set_cons_zero, List.set_cons_succ]
      refine wpAnyH_done (by kernel_rfl) ?_ _
      have hB2 : Below W.heap.size W x2 := hB.trans (hH.mono (by omega))
      clear hH
      go_wp2
      go_roundw
      case rel => exact ⟨k + 1, by omega, by go_num, hB2⟩
      case measure => simp [intOf]; omega
    · obtain ⟨ao, co, eo, ho⟩ := HN.out.order.sl
      obtain ⟨ap, cp, ep, hp⟩ := HN'.out.order.sl
      have q0 : wr.cell? ⟨w.heap.size, 192, none⟩ = some (.slice ao s.order.length co) := by rw [HBar.out.cell (by omega), eo]
      have q1 : wr.cell? ⟨w.heap.size + 1, 192, none⟩ = some (.slice ap s.order.length cp) := by rw [HBbr.out.cell (by omega), ep]
      clear eo ep
      go_wp2_with fail
      refine (sameNumbers_any ao co s.order ap cp wr ho.2.1 (ho.later hbw).1 (hp.later hbw).1).mono ?_
      rintro r x1 ⟨rfl, hb1⟩
      have hbx : Below w.heap.size w x1 := hbw.trans (hb1.mono (by omega))
      obtain ⟨vr, hvr⟩ : ∃ vr, vr = (rowF 8 fun i => .int .i64 (s.vals i)).toList := ⟨_, rfl⟩
      have ra : x1.rangeAt w.heap.size 193 vr := by
        rw [hvr]
        refine range_later (w := wr) ?_ hb1 (by omega)
        have := BlkAt.range HBar.out (o := 193) (n := 8) (by omega)
        have e : (List.range 8).map (fun i => nv (193 + i)) = (rowF 8 fun i => .int .i64 (s.vals i)).toList := by
          unfold rowF
          exact List.map_congr_left fun i hi => HN.out.es.vals i (List.mem_range.1 hi)
        rw [← e]; exact this
      have rb : x1.rangeAt (w.heap.size + 1) 193 vr := by
        rw [hvr]
        refine range_later (w := wr) ?_ hb1 (by omega)
        have := BlkAt.range HBbr.out (o := 193) (n := 8) (by omega)
        have e : (List.range 8).map (fun i => nv' (193 + i)) = (rowF 8 fun i => .int .i64 (s.vals i)).toList := by
          unfold rowF
          exact List.map_congr_left fun i hi => HN'.out.es.vals i (List.mem_range.1 hi)
        rw [← e]; exact this
      have hsv : (Tryz.prog.info? 30).map (·.size) = some vr.length := by rw [hvr, rowF_toList]; exact Tryz.infoVals
      have hg := Tryz.valsGuard
      have he := fun w => run_equalIn_row 9998 Tryz.underlying30 Tryz.underlying3 Tryz.infoInt1 s.vals w
      have hva : vr.toArray = rowF 8 fun i => .int .i64 (s.vals i) := by rw [hvr]
      rw [← hva] at he
      clear hvr hva hb1 q0 q1
      go_wp2_with (first
        | (refine wpList_wanted (by rfl) fun K hK => ?_; refine wp_load_mid 30 _ rfl w.heap.size 193 rfl vr _ ra Tryz.underlying30 rfl hsv ?_; refine hK _ _ ?_)
        | (refine wpList_wanted (by rfl) fun K hK => ?_; refine wp_load_mid 30 _ rfl (w.heap.size + 1) 193 rfl vr _ rb Tryz.underlying30 rfl hsv ?_; refine hK _ _ ?_))
      go_ret
      exact ⟨rfl, hbx⟩

end Go.Proofs.YtkoefoccbjhoiacGreat

namespace Go.Proofs.YtkoefoccbjhoiacGreat
open Go.RowKit

end Go.Proofs.YtkoefoccbjhoiacGreat

namespace Go.Proofs.YtkoefoccbjhoiacGreat
open Go.RowKit

end Go.Proofs.YtkoefoccbjhoiacGreat
