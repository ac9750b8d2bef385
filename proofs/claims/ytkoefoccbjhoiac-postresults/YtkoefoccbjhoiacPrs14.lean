/-
  How a frame that came in is read: its numbers, and where its lists lie.
  The room that a list down in a datum takes.
  How a graph that came in is read: which are known, and where its lists lie.
  How a case and a transaction that came in are read, with the room that their lists take.
  A list of frames that came in.
-/
import Derived.Test.YtkoefoccbjhoiacPrs3
import Derived.Lib.SmallJoins
import Derived.ChangeMaps5
import Derived.SizedLaws
import Derived.Test.YtkoefoccbjhoiacPrs2
import Derived.Test.YtkoefoccbjhoiacPrs4
import Derived.Test.YtkoefoccbjhoiacPrs13
set_option linter.unusedVariables false
set_option linter.unusedSimpArgs false
namespace Go.Proofs.Ytkoefoccbjhoiac
open Go.ChangeShapes Go.WideShapes Go.ChangeAt Go.RowKit Go.Deep

theorem array7 {α : Type} {cs : Array α} (h : cs.size = 7) : ∃ c0 c1 c2 c3 c4 c5 c6, cs = #[c0, c1, c2, c3, c4, c5, c6] := by
  obtain ⟨l⟩ := cs
  match l, h with
  | [c0, c1, c2, c3, c4, c5, c6], _ => exact ⟨c0, c1, c2, c3, c4, c5, c6, rfl⟩

theorem list7 {α : Type} {l : List α} (h : l.length = 7) : ∃ c0 c1 c2 c3 c4 c5 c6, l = [c0, c1, c2, c3, c4, c5, c6] := by
  match l, h with
  | [c0, c1, c2, c3, c4, c5, c6], _ => exact ⟨c0, c1, c2, c3, c4, c5, c6, rfl⟩
theorem Try.cellsFrame : Try.prog.cellsOf 38 = 7 := by kernel_rfl
theorem Try.cellsOps : Try.prog.cellsOf 22 = 1 := by kernel_rfl
theorem Try.cellsInts : Try.prog.cellsOf 27 = 1 := by kernel_rfl

theorem str_self (s : ByteArray) : s = str s.data.toList := by
  apply ByteArray.ext
  simp [str]

section
variable {H : Type} {enc : TypeId × Value → H} {w : World} {base : Nat} {spare : Nat → Bool} {held : Bool}

theorem open_sl_ints {n : Nat} {c : Value} {y : DataW H × List MemPlace} (h : DataW.trod enc Try.prog w base spare held n 27 [c] = some y) : ∃ a cap zs, c = .slice a (zs : List Int).length cap ∧ SlInts w a cap zs := by
  obtain ⟨a, l, cap, hc⟩ := Joins.slice_form Try.underlying27 h
  simp at hc
  subst hc
  obtain ⟨hl, zs, rfl, hz, _, hn, hcap⟩ := open_intsAt Try.underlying27 Try.underlying3 Try.cellsInt h
  exact ⟨a, cap, zs, rfl, hz, hl, hcap, hn⟩
theorem open_sl_ops {n : Nat} {c : Value} {y : DataW H × List MemPlace} (h : DataW.trod enc Try.prog w base spare held n 22 [c] = some y) : ∃ a cap zs, c = .slice a (zs : List OpL).length cap ∧ SlOps w a cap zs := by
  obtain ⟨a, l, cap, hc⟩ := Joins.slice_form Try.underlying22 h
  simp at hc
  subst hc
  obtain ⟨hl, zs, rfl, hz, _, hn, hcap⟩ := open_opsAt Try.underlying22 Try.underlying47 Try.underlying3 Try.cellsOp Try.cellsInt rfl rfl rfl rfl rfl rfl h
  exact ⟨a, cap, zs, rfl, hz, hl, hcap, hn⟩

set_option maxRecDepth 100000 in
theorem open_frame {r : Reach} {b0 : Nat} {v : Value} {d : DataW H} {p : List MemPlace} (hv : Value.okWide Try.prog w r b0 38 v) (h : DataW.Trod enc Try.prog w base spare held 38 v d p) : ∃ f, FrameV w v f := by
  obtain ⟨cs, rfl, hsz⟩ := okWide_struct Try.underlying38 hv
  obtain ⟨c0, c1, c2, c3, c4, c5, c6, rfl⟩ := array7 (hsz.trans Try.cellsFrame)
  obtain ⟨fuel, hf⟩ := h
  obtain ⟨xs, n, _, _, _, hxl, hff⟩ := DataW.trod_struct Try.underlying38 hf
  have g0 := hff 0 _ rfl
  have g1 := hff 1 _ rfl
  have g2 := hff 2 _ rfl
  have g3 := hff 3 _ rfl
  have g4 := hff 4 _ rfl
  have g5 := hff 5 _ rfl
  have g6 := hff 6 _ rfl
  simp [Value.cells, Try.cellsInt, Try.cellsOps, Try.cellsInts] at g0 g1 g2 g3 g4 g5 g6
  obtain ⟨x0, x1, x2, x3, x4, x5, x6, rfl⟩ := list7 hxl
  obtain ⟨n0, r0, _, _⟩ := DataW.trod_int Try.underlying3 g0
  obtain ⟨n1, r1, _, _⟩ := DataW.trod_int Try.underlying3 g1
  obtain ⟨n2, r2, _, _⟩ := DataW.trod_int Try.underlying3 g2
  simp at r0 r1 r2
  subst r0 r1 r2
  obtain ⟨a3, d3, z3, rfl, h3⟩ := open_sl_ops g3
  obtain ⟨a4, d4, z4, rfl, h4⟩ := open_sl_ints g4
  obtain ⟨a5, d5, z5, rfl, h5⟩ := open_sl_ints g5
  obtain ⟨a6, d6, z6, rfl, h6⟩ := open_sl_ints g6
  exact ⟨⟨n0, n1, n2, z3, z4, z5, z6⟩, a3, d3, a4, d4, a5, d5, a6, d6, rfl, h3, h4, h5, h6⟩
end

end Go.Proofs.Ytkoefoccbjhoiac

namespace Go.Proofs.Ytkoefoccbjhoiac
open Go.ChangeShapes Go.WideShapes Go.ChangeAt Go.RowKit Go.Deep

/-- The lists take no more bytes than memory has. -/
def Room (f : FrameL) : Prop := f.ops.length * 24 ≤ 140737488355328 ∧ f.deps.length * 8 ≤ 140737488355328 ∧ f.ats.length * 8 ≤ 140737488355328 ∧ f.vals.length * 8 ≤ 140737488355328

section
variable {H : Type} {enc : TypeId × Value → H} {w : World} {base : Nat} {spare : Nat → Bool} {held : Bool}

theorem room_ints {n : Nat} {a : Option Addr} {len cap : Nat} {y : DataW H × List MemPlace} (h : DataW.trod enc Try.prog w base spare held n 27 [.slice a len cap] = some y) (hw : ∀ m ∈ y.1.weights Try.prog 27, m ≤ reachBytes) : len * 8 ≤ 140737488355328 := by
  obtain ⟨d, p⟩ := y
  rcases slice_datum Try.underlying27 h with hq | ⟨el, sp, rfl, hel⟩
  · omega
  · have := hw ((el.length + sp.length) * Try.prog.bytesOf 3) (by simp [DataW.weights, Try.underlying27])
    rw [Try.bytesInt] at this
    unfold reachBytes at this
    omega
theorem room_ops {n : Nat} {a : Option Addr} {len cap : Nat} {y : DataW H × List MemPlace} (h : DataW.trod enc Try.prog w base spare held n 22 [.slice a len cap] = some y) (hw : ∀ m ∈ y.1.weights Try.prog 22, m ≤ reachBytes) : len * 24 ≤ 140737488355328 := by
  obtain ⟨d, p⟩ := y
  rcases slice_datum Try.underlying22 h with hq | ⟨el, sp, rfl, hel⟩
  · omega
  · have := hw ((el.length + sp.length) * Try.prog.bytesOf 47) (by simp [DataW.weights, Try.underlying22])
    rw [Try.bytesOp] at this
    unfold reachBytes at this
    omega
end

end Go.Proofs.Ytkoefoccbjhoiac

namespace Go.Proofs.Ytkoefoccbjhoiac
theorem Try.cellsSet : Try.prog.cellsOf 67 = 32 := by kernel_rfl
theorem Try.cellsBool : Try.prog.cellsOf 4 = 1 := by kernel_rfl
theorem Try.cellsSlice : Try.prog.cellsOf 27 = 1 := by kernel_rfl

theorem part_one {cs : List Value} {o n i : Nat} (h : o + i < cs.length) (hi : i < n) : ((((cs.drop o).take n).drop i).take 1) = [cs.getD (o + i) (.bool false)] := by
  apply List.ext_getElem?
  intro k
  cases k with
  | zero => simp [hi, List.getD, h]
  | succ k => simp; omega

section
variable {H : Type} {enc : TypeId × Value → H} {w : World} {base : Nat} {spare : Nat → Bool} {held : Bool}

end

end Go.Proofs.Ytkoefoccbjhoiac

namespace Go.Proofs.Ytkoefoccbjhoiac
open Go.ChangeShapes Go.WideShapes Go.ChangeAt Go.RowKit Go.Deep

theorem Try.cellsCase : Try.prog.cellsOf 31 = 24 := by kernel_rfl
theorem Try.cellsTxn : Try.prog.cellsOf 24 = 2 := by kernel_rfl
theorem Try.cellsSix : Try.prog.cellsOf 26 = 6 := by kernel_rfl
theorem Try.cellsFour : Try.prog.cellsOf 28 = 4 := by kernel_rfl
theorem Try.cellsFourI : Try.prog.cellsOf 29 = 4 := by kernel_rfl
theorem list8 {α : Type} {l : List α} (h : l.length = 8) : ∃ a b c d e f g h, l = [a, b, c, d, e, f, g, h] := by
  match l, h with
  | [a, b, c, d, e, f, g, h], _ => exact ⟨a, b, c, d, e, f, g, h, rfl⟩
theorem list2 {α : Type} {l : List α} (h : l.length = 2) : ∃ a b, l = [a, b] := by
  match l, h with
  | [a, b], _ => exact ⟨a, b, rfl⟩

section
variable {H : Type} {enc : TypeId × Value → H} {w : World} {base : Nat} {spare : Nat → Bool} {held : Bool}

theorem one_of {cs : List Value} {o : Nat} (h : o < cs.length) : (cs.drop o).take 1 = [cs.getD o (.bool false)] := by
  have := part_one (cs := cs) (o := o) (n := 1) (i := 0) (by omega) (by omega)
  simp only [List.drop_zero, List.take_take, Nat.min_self, Nat.add_zero] at this
  exact this

set_option maxRecDepth 100000 in
theorem open_case {r : Reach} {b0 : Nat} {v : Value} {d : DataW H} {p : List MemPlace} (hv : Value.okWide Try.prog w r b0 31 v) (h : DataW.Trod enc Try.prog w base spare held 31 v d p) (hw : ∀ m ∈ d.weights Try.prog 31, m ≤ reachBytes) :
    ∃ nv c, v = .agg (rowF 24 nv) ∧ CaseC (· < w.heap.size) w nv c := by
  obtain ⟨cs, rfl, hsz⟩ := okWide_struct Try.underlying31 hv
  rw [Try.cellsCase] at hsz
  obtain ⟨fuel, hf⟩ := h
  obtain ⟨xs, n, _, hd, _, hxl, hff⟩ := DataW.trod_struct Try.underlying31 hf
  have g0 : DataW.trod enc Try.prog w base spare held n 4 ((cs.toList.drop 0).take (Try.prog.cellsOf 4)) = xs[0]? := hff 0 _ rfl
  have g1 : DataW.trod enc Try.prog w base spare held n 4 ((cs.toList.drop 1).take (Try.prog.cellsOf 4)) = xs[1]? := hff 1 _ rfl
  have g2 : DataW.trod enc Try.prog w base spare held n 22 ((cs.toList.drop 2).take (Try.prog.cellsOf 22)) = xs[2]? := hff 2 _ rfl
  have g3 : DataW.trod enc Try.prog w base spare held n 26 ((cs.toList.drop 3).take (Try.prog.cellsOf 26)) = xs[3]? := hff 3 _ rfl
  have g4 : DataW.trod enc Try.prog w base spare held n 26 ((cs.toList.drop 9).take (Try.prog.cellsOf 26)) = xs[4]? := hff 4 _ rfl
  have g5 : DataW.trod enc Try.prog w base spare held n 27 ((cs.toList.drop 15).take (Try.prog.cellsOf 27)) = xs[5]? := hff 5 _ rfl
  have g6 : DataW.trod enc Try.prog w base spare held n 28 ((cs.toList.drop 16).take (Try.prog.cellsOf 28)) = xs[6]? := hff 6 _ rfl
  have g7 : DataW.trod enc Try.prog w base spare held n 29 ((cs.toList.drop 20).take (Try.prog.cellsOf 29)) = xs[7]? := hff 7 _ rfl
  have hl : cs.toList.length = 24 := by simpa using hsz
  rw [Try.cellsBool, one_of (by omega)] at g0 g1
  rw [Try.cellsOps, one_of (by omega)] at g2
  rw [Try.cellsSix] at g3 g4
  rw [Try.cellsSlice, one_of (by omega)] at g5
  rw [Try.cellsFour] at g6
  rw [Try.cellsFourI] at g7
  obtain ⟨x0, x1, x2, x3, x4, x5, x6, x7, rfl⟩ := list8 hxl
  simp only [List.getElem?_cons_zero, List.getElem?_cons_succ] at g0 g1 g2 g3 g4 g5 g6 g7
  simp only [Prod.mk.injEq] at hd
  obtain ⟨rfl, _⟩ := hd
  simp [DataW.weights, Try.underlying31] at hw
  have W := fun (j : Nat) t y h1 h2 m hm => hw m (DataW.weights_mem_each (j := j) (t := t) (d := y) h1 h2 m hm)
  obtain ⟨b0, e0, _⟩ := DataW.trod_bool Try.underlying4 g0
  obtain ⟨b1, e1, _⟩ := DataW.trod_bool Try.underlying4 g1
  simp only [List.cons.injEq, and_true] at e0 e1
  obtain ⟨a2, d2, z2, e2, h2⟩ := open_sl_ops g2
  obtain ⟨a5, d5, z5, e5, h5⟩ := open_sl_ints g5
  have r2 := g2
  rw [e2] at r2
  have l2 := room_ops r2 (W 2 _ _ rfl rfl)
  have r5 := g5
  rw [e5] at r5
  have l5 := room_ints r5 (W 5 _ _ rfl rfl)
  obtain ⟨y3, _, _, _, _, hy3, t3⟩ := DataW.trod_array Try.underlying26 g3
  obtain ⟨y4, _, _, _, _, hy4, t4⟩ := DataW.trod_array Try.underlying26 g4
  obtain ⟨y6, _, _, _, _, hy6, t6⟩ := DataW.trod_array Try.underlying28 g6
  obtain ⟨y7, _, _, _, _, hy7, t7⟩ := DataW.trod_array Try.underlying29 g7
  have H3 : ∀ i, i < 6 → ∃ b, cs.toList.getD (3 + i) (.bool false) = .bool b := by
    intro i hi
    have := t3 i hi
    rw [Try.cellsBool, Nat.mul_one, part_one (by omega) hi, List.getElem?_eq_getElem (by omega)] at this
    obtain ⟨b, hb, _⟩ := DataW.trod_bool Try.underlying4 this
    exact ⟨b, by simpa using hb⟩
  have H4 : ∀ i, i < 6 → ∃ b, cs.toList.getD (9 + i) (.bool false) = .bool b := by
    intro i hi
    have := t4 i hi
    rw [Try.cellsBool, Nat.mul_one, part_one (by omega) hi, List.getElem?_eq_getElem (by omega)] at this
    obtain ⟨b, hb, _⟩ := DataW.trod_bool Try.underlying4 this
    exact ⟨b, by simpa using hb⟩
  have H6 : ∀ i, i < 4 → ∃ b, cs.toList.getD (16 + i) (.bool false) = .bool b := by
    intro i hi
    have := t6 i hi
    rw [Try.cellsBool, Nat.mul_one, part_one (by omega) hi, List.getElem?_eq_getElem (by omega)] at this
    obtain ⟨b, hb, _⟩ := DataW.trod_bool Try.underlying4 this
    exact ⟨b, by simpa using hb⟩
  have H7 : ∀ i, i < 4 → ∃ q : Int, cs.toList.getD (20 + i) (.bool false) = .int .i64 q := by
    intro i hi
    have := t7 i hi
    rw [Try.cellsInt, Nat.mul_one, part_one (by omega) hi, List.getElem?_eq_getElem (by omega)] at this
    obtain ⟨q, hq, _⟩ := DataW.trod_int Try.underlying3 this
    exact ⟨q, by simpa using hq⟩
  obtain ⟨T, hT⟩ := choose_lt H3
  obtain ⟨K, hK⟩ := choose_lt H4
  obtain ⟨A, hA⟩ := choose_lt H6
  obtain ⟨V, hV⟩ := choose_lt H7
  refine ⟨fun i => cs.toList.getD i (.bool false), ⟨b0, b1, z2, T, K, z5, A, V⟩, ?_, ⟨e0, e1, ?_, hT, hK, ?_, hA, hV⟩⟩
  · congr 1
    apply Array.ext_getElem?
    intro i
    by_cases hi : i < 24
    · rw [rowF_get _ hi]
      simp [List.getD, hsz, hi]
    · rw [Array.getElem?_eq_none (by omega), Array.getElem?_eq_none (by rw [rowF_size]; omega)]
  · show IsO _ w (cs.toList.getD 2 (.bool false)) z2
    rw [e2]
    exact IsO.of_sl h2 l2
  · show IsI _ w (cs.toList.getD 15 (.bool false)) z5
    rw [e5]
    exact IsI.of_sl h5 l5

set_option maxRecDepth 100000 in
theorem open_txn {r : Reach} {b0 : Nat} {v : Value} {d : DataW H} {p : List MemPlace} (hv : Value.okWide Try.prog w r b0 24 v) (h : DataW.Trod enc Try.prog w base spare held 24 v d p) :
    ∃ (n : Int) (a : Option Addr) (cap : Nat) (zs : List OpL), v = .agg #[.int .i64 n, .slice a zs.length cap] ∧ SlOps w a cap zs := by
  obtain ⟨cs, rfl, hsz⟩ := okWide_struct Try.underlying24 hv
  rw [Try.cellsTxn] at hsz
  obtain ⟨l⟩ := cs
  obtain ⟨c0, c1, rfl⟩ := list2 (by simpa using hsz)
  obtain ⟨fuel, hf⟩ := h
  obtain ⟨xs, n, _, hd, _, hxl, hff⟩ := DataW.trod_struct Try.underlying24 hf
  have g0 := hff 0 _ rfl
  have g1 := hff 1 _ rfl
  simp [Value.cells, Try.cellsInt, Try.cellsOps] at g0 g1
  obtain ⟨x0, x1, rfl⟩ := list2 hxl
  obtain ⟨n0, r0, _, _⟩ := DataW.trod_int Try.underlying3 g0
  simp at r0
  subst r0
  obtain ⟨a1, d1, z1, rfl, h1⟩ := open_sl_ops g1
  exact ⟨n0, a1, d1, z1, rfl, h1⟩
end

end Go.Proofs.Ytkoefoccbjhoiac

namespace Go.Proofs.Ytkoefoccbjhoiac
open Go.ChangeShapes Go.WideShapes Go.ChangeAt Go.RowKit Go.Deep

section
variable {H : Type} {enc : TypeId × Value → H} {w : World} {base : Nat} {spare : Nat → Bool} {held : Bool}

set_option maxRecDepth 100000 in
theorem open_frame_cells {n : Nat} {cs : List Value} (hl : cs.length = 7) {y : DataW H × List MemPlace} (hf : DataW.trod enc Try.prog w base spare held n 38 cs = some y) : ∃ f, FrameV w (.agg cs.toArray) f := by
  obtain ⟨c0, c1, c2, c3, c4, c5, c6, rfl⟩ := list7 hl
  obtain ⟨xs, n, _, _, _, hxl, hff⟩ := DataW.trod_struct Try.underlying38 hf
  have g0 := hff 0 _ rfl
  have g1 := hff 1 _ rfl
  have g2 := hff 2 _ rfl
  have g3 := hff 3 _ rfl
  have g4 := hff 4 _ rfl
  have g5 := hff 5 _ rfl
  have g6 := hff 6 _ rfl
  simp [Try.cellsInt, Try.cellsOps, Try.cellsInts] at g0 g1 g2 g3 g4 g5 g6
  obtain ⟨x0, x1, x2, x3, x4, x5, x6, rfl⟩ := list7 hxl
  obtain ⟨n0, r0, _, _⟩ := DataW.trod_int Try.underlying3 g0
  obtain ⟨n1, r1, _, _⟩ := DataW.trod_int Try.underlying3 g1
  obtain ⟨n2, r2, _, _⟩ := DataW.trod_int Try.underlying3 g2
  simp at r0 r1 r2
  subst r0 r1 r2
  obtain ⟨a3, d3, z3, rfl, h3⟩ := open_sl_ops g3
  obtain ⟨a4, d4, z4, rfl, h4⟩ := open_sl_ints g4
  obtain ⟨a5, d5, z5, rfl, h5⟩ := open_sl_ints g5
  obtain ⟨a6, d6, z6, rfl, h6⟩ := open_sl_ints g6
  exact ⟨⟨n0, n1, n2, z3, z4, z5, z6⟩, a3, d3, a4, d4, a5, d5, a6, d6, rfl, h3, h4, h5, h6⟩

theorem open_frsIn {fuel : Nat} {a : Option Addr} {len cap : Nat} {x : DataW H × List MemPlace} (h : DataW.trod enc Try.prog w base spare held fuel 25 [.slice a len cap] = some x) :
    len ≤ maxLen ∧ ∃ fs : List FrameL, fs.length = len ∧ FrsIn w.heap.size w a fs := by
  rcases open_slice Try.underlying25 h with ⟨hcs, _⟩ | ⟨x, l, c, m, n, D, Pl, hcs, hb, hl, hm, hmm, _, hx⟩
  · simp at hcs
    obtain ⟨rfl, rfl, rfl⟩ := hcs
    exact ⟨Nat.zero_le _, [], rfl, Or.inl rfl⟩
  · simp at hcs
    obtain ⟨rfl, rfl, rfl⟩ := hcs
    have hlm : len ≤ m := by rw [hmm]; split <;> omega
    have each : ∀ i, i < len → ∃ f : FrameL, ∃ cs : List Value, cs.length = 7 ∧ (∀ j, j < 7 → w.cell? (x.add (i * 7 + j)) = some (cs.getD j (.bool false))) ∧ FrameV w (.agg cs.toArray) f := by
      intro i hi
      obtain ⟨cs', h1, h2⟩ := hx i (by omega)
      rw [Try.cellsFrame] at h1
      obtain ⟨_, hlen, hcell⟩ := World.cells?_some h1
      obtain ⟨f, hf⟩ := open_frame_cells hlen h2
      refine ⟨f, cs', hlen, fun j hj => ?_, hf⟩
      have e := hcell j (by omega)
      rw [add_add] at e
      rw [e]
      simp [List.getD, hlen, hj]
    haveI : Inhabited FrameL := ⟨zeroF⟩
    obtain ⟨Q, hQ⟩ := choose_lt each
    refine ⟨by omega, (List.range len).map Q, by simp, ?_⟩
    by_cases h0 : len = 0
    · left
      simp [h0]
    · right
      obtain ⟨b, off, spot⟩ := x
      obtain ⟨cs0, _, hc0, _⟩ := hQ 0 (by omega)
      have hc0 := hc0 0 (by decide)
      have hs : spot = none := by simpa [Addr.add] using World.cell?_spot hc0
      subst hs
      refine ⟨b, off, rfl, by simpa [Addr.add] using lt_of_cell hc0, fun i hi => ?_⟩
      have hi' : i < len := by simpa using hi
      obtain ⟨cs, h7, hcell, hfv⟩ := hQ i hi'
      have hg : ((List.range len).map Q).getD i zeroF = Q i := by simp [List.getD, hi']
      rw [hg]
      refine ⟨cs, h7, fun j u hu => ?_, hfv⟩
      have hj : j < 7 := by have := (List.getElem?_eq_some_iff.1 hu).1; omega
      have := hcell j hj
      rw [add_none] at this
      rw [Nat.add_assoc, this]
      simp [List.getD, hu]
end

end Go.Proofs.Ytkoefoccbjhoiac
