/-
  How a slice of texts that came in is read, and copied.
  The contract of the statements' own takes (januspostlaw): node answers at all.
  A list of frames that a call made, read one by one.
  A list of frames in memory.
  The contract of the document's own SameFrames, at lists that are alike.
  The walk of the statement NodeTakes.
-/
import Derived.Test.YtgdkjjmnoikhdabPart15
import Derived.Test.YtgdkjjmnoikhdabPart26
import Derived.Deep.Strs
import Derived.SizedLaws
import Derived.Test.YtgdkjjmnoikhdabPart14
import Derived.Test.YtgdkjjmnoikhdabPart18
import Derived.Test.YtgdkjjmnoikhdabPart25
import Derived.Test.YtgdkjjmnoikhdabPart17
import Derived.Deep.CutRange
namespace Go.Proofs.Ytgdkjjmnoikhdab
open Go.ChangeShapes Go.WideShapes Go.RowKit
set_option maxRecDepth 100000

theorem Try.cellsStr : Try.prog.cellsOf 9 = 1 := by kernel_rfl
theorem Try.underStr : Try.prog.underlying 9 = some .string := by kernel_rfl
theorem Try.bytesStr : Try.prog.bytesOf 9 = 16 := by kernel_rfl
theorem Try.infoStr : (Try.prog.info? 9).map (fun i => (i.zero, i.size, i.bytes)) = some (some (.string ⟨#[]⟩), 1, 16) := by kernel_rfl

section
variable {H : Type} {enc : TypeId × Value → H} {P : Program} {w : World} {base : Nat} {spare : Nat → Bool} {held : Bool}
theorem open_strsIn {t e : TypeId} {fuel : Nat} {a : Option Addr} {len cap : Nat} {x : DataW H × List MemPlace} (ht : P.underlying t = some (.slice e)) (he : P.underlying e = some .string) (hc : P.cellsOf e = 1)
    (h : DataW.trod enc P w base spare held fuel t [.slice a len cap] = some x) :
    len ≤ maxLen ∧ ∃ zs : List (List UInt8), zs.length = len ∧ TxIn w.heap.size w a zs ∧ (∀ q ∈ zs, q.length ≤ maxLen) ∧ (a = none → zs.length = 0 ∧ cap = 0) := by
  rcases Go.Deep.open_strs ht he hc h with ⟨hcs, _⟩ | ⟨x, l, c, m, Sx, hcs, _, hl, hm, hmm, _, hcell⟩
  · simp at hcs
    obtain ⟨rfl, rfl, rfl⟩ := hcs
    exact ⟨Nat.zero_le _, [], rfl, Or.inl rfl, by simp, fun _ => ⟨rfl, rfl⟩⟩
  · simp at hcs
    obtain ⟨rfl, rfl, rfl⟩ := hcs
    have hlen : len ≤ m := by rw [hmm]; split <;> omega
    refine ⟨by omega, (List.range len).map fun i => (Sx i).data.toList, by simp, ?_, ?_, fun h => by cases h⟩
    · by_cases h0 : len = 0
      · left
        simp [h0]
      · right
        obtain ⟨b, off, spot⟩ := x
        have hc0 := (hcell 0 (by omega)).1
        have hs : spot = none := by simpa [Addr.add] using World.cell?_spot hc0
        subst hs
        refine ⟨b, off, rfl, by simpa [Addr.add] using lt_of_cell hc0, fun i hi => ?_⟩
        have hi' : i < len := by simpa using hi
        have := (hcell i (by omega)).1
        rw [add_none] at this
        rw [this]
        simp [List.getD, hi', ← str_self]
    · intro q hq
      obtain ⟨i, hi, rfl⟩ := List.mem_map.1 hq
      have hi' : i < len := by simpa using hi
      have := (hcell i (by omega)).2
      exact this
end
def txCells (zs : List (List UInt8)) : List Value := zs.map fun z => Value.string (str z)
theorem txCells_len (zs : List (List UInt8)) : (txCells zs).length = zs.length * 1 := by simp [txCells]
theorem tx_one (zs : List (List UInt8)) : ∀ u ∈ txCells zs, u.oneCell' = true := by
  intro u hu
  obtain ⟨n, _, rfl⟩ := List.mem_map.1 hu
  rfl
theorem tx_cells {B : Nat} {w : World} {a : Option Addr} {zs : List (List UInt8)} (h : TxIn B w a zs) : ∀ p, a = some p → ∀ j u, (txCells zs)[j]? = some u → w.cell? (p.add j) = some u := by
  intro p hp j u hu
  rcases h with rfl | ⟨b, off, hb, _, hc⟩
  · simp [txCells] at hu
  · rw [hp] at hb
    simp at hb
    subst hb
    have hj : j < zs.length := by
      have := (List.getElem?_eq_some_iff.1 hu).1
      simpa [txCells] using this
    rw [add_none, hc j hj]
    simp [txCells, hj] at hu
    simp [List.getD, hj, hu]
theorem TxIn.of_owns {w : World} {base : Nat} {e : TypeId} {a : Option Addr} {cap : Nat} {zs : List (List UInt8)} (h : w.ownsRow base e 1 (.slice a zs.length cap) zs.length (txCells zs)) : TxIn w.heap.size w a zs := by
  rcases h.2 with ⟨hv, hn⟩ | ⟨g, c, cur, hv, hg, hh, hc, hm, hcur, hx⟩
  · exact Or.inl (List.eq_nil_of_length_eq_zero hn)
  · simp only [Value.slice.injEq, true_and] at hv
    obtain ⟨rfl, rfl⟩ := hv
    have hlt : g < w.heap.size := (Array.getElem?_eq_some_iff.1 hh).1
    refine Or.inr ⟨g, 0, rfl, hlt, fun i hi => ?_⟩
    rw [cell_of_row w g (0 + i) cur e _ hh]
    have h1 : (cur.toList.take (zs.length * 1))[i]? = (txCells zs)[i]? := by rw [hx]
    rw [List.getElem?_take_of_lt (by omega)] at h1
    simp only [Array.getElem?_toList] at h1
    rw [Nat.zero_add, h1]
    simp [txCells, List.getD, hi]

end Go.Proofs.Ytgdkjjmnoikhdab

namespace Go.Proofs.Ytgdkjjmnoikhdab
open Go.RowKit

set_option maxRecDepth 100000 in
set_option maxHeartbeats 1000000 in
theorem law_takes (w : World) : Calls Try.prog 27 #[] w fun r w' => r = .returned (.bool true) ∧ Below w.heap.size w w' := by
  obtain ⟨zr, hzr⟩ : ∃ zr, zr = rowF 201 zv := ⟨_, rfl⟩
  have hz0 := Try.zeroNode
  rw [← hzr] at hz0
  obtain ⟨W, hW⟩ : ∃ W, W = w.alloc (.cells #[.int .i64 2, .int .i64 1, .int .i64 9] 88) := ⟨_, rfl⟩
  have hb : Below w.heap.size w W := by rw [hW]; exact (Below.refl _ _).alloc (Nat.le_refl _) _
  have r0 : W.heap[w.heap.size]? = some (.cells #[.int .i64 2, .int .i64 1, .int .i64 9] 88 (0, 0)) := by rw [hW]; exact heap_new _ _
  have hzW : W.heap.size = w.heap.size + 1 := by rw [hW]; exact size_push _ _
  have HF : Hid (FrameV W (.agg #[.int .i64 3, .int .i64 3, .int .i64 4, .slice (some ⟨w.heap.size, 0, none⟩) 1 1, .slice none 0 0, .slice none 0 0, .slice none 0 0]) takesF) := by
    refine ⟨some ⟨w.heap.size, 0, none⟩, 1, none, 0, none, 0, none, 0, rfl, ⟨Or.inr ⟨w.heap.size, 0, rfl, by omega, fun i hi => ?_⟩, by decide, Nat.le_refl _, fun h => by cases h⟩, (slI_nil (fun _ => True) _).1, (slI_nil (fun _ => True) _).1, (slI_nil (fun _ => True) _).1⟩
    have : i = 0 := by
      have : i < 1 := hi
      omega
    subst this
    exact ⟨by rw [cell_of_row _ _ _ _ _ _ r0]; rfl, by rw [cell_of_row _ _ _ _ _ _ r0]; rfl, by rw [cell_of_row _ _ _ _ _ _ r0]; rfl⟩
  have HT := takes_call W #[.int .i64 3, .int .i64 3, .int .i64 4, .slice (some ⟨w.heap.size, 0, none⟩) 1 1, .slice none 0 0, .slice none 0 0, .slice none 0 0] HF.out
  rw [← hzr] at HT
  obtain ⟨T, t0, t1, t2, t3, HT⟩ := HT
  have T0 : Hid (T.2.2 = 0) := t0
  have T1 : Hid (T.2.1.length = 2) := t1
  have T2 : Hid (T.1.vals 1 = 9) := t2
  have T3 : Hid (T.1.order.length = 1) := t3
  have HZR : Hid (zr = rowF 201 zv) := hzr
  have HW : Hid (W = w.alloc (.cells #[.int .i64 2, .int .i64 1, .int .i64 9] 88)) := hW
  have HTA : Hid (Calls Try.prog 20 #[.agg zr, .int .i64 3, .agg #[.int .i64 3, .int .i64 3, .int .i64 4, .slice (some ⟨w.heap.size, 0, none⟩) 1 1, .slice none 0 0, .slice none 0 0, .slice none 0 0]] W fun r w' => ∃ nv' x, r = .returned (.tuple #[.agg (rowF 201 nv'), x, .int .i64 T.2.2]) ∧ NodeC (· < w'.heap.size) w' nv' T.1 ∧ FramesV W.heap.size w' x T.2.1 ∧ Below W.heap.size W w') := HT
  clear t0 t1 t2 t3
  clear hzr hW r0 HT HF
  go_enter Try.func27, Try.ntmps27
  go_wp2_with fail
  rw [← HW.out, Try.zcNode, ← HZR.out]
  refine HTA.out.mono ?_
  rintro r w1 ⟨nv1, x, rfl, hnc, hfs, hb1⟩
  rw [T0.out]
  obtain ⟨fr, hfr⟩ : ∃ fr, fr = rowF 201 nv1 := ⟨_, rfl⟩
  rw [← hfr]
  have hsf : (Try.prog.info? 41).map (·.size) = some fr.size := by rw [hfr, rowF_size]; exact Try.infoNode
  have hzz : zr.size = fr.size := by rw [hfr, HZR.out, rowF_size, rowF_size]
  have hone : fr.all (·.oneCell') = true := by rw [hfr]; exact rowF_all hnc.one
  have hres : (w1.alloc (.cells zr 41)).heap[w1.heap.size]? = some (.cells zr 41 (0, 0)) := heap_new _ _
  obtain ⟨css, _, hown, _⟩ := hfs
  obtain ⟨ax, cx, rfl, _⟩ := own_form hown
  rw [T1.out]
  have hlen2 : ((2 : Nat) : Int) = 2 := rfl
  obtain ⟨X, hX⟩ : ∃ X, X = (w1.alloc (.cells zr 41)).setRow w1.heap.size fr := ⟨_, rfl⟩
  have hbX : Below w1.heap.size w1 X := by rw [hX]; exact setRow_below ((Below.refl _ _).alloc (Nat.le_refl _) _) (Nat.le_refl _) _
  have rX : BlkAt 201 X w1.heap.size nv1 := ⟨41, by rw [← hfr, hX]; exact heap_setRow hres⟩
  have q1 : X.cell? ⟨w1.heap.size, 194, none⟩ = some (.int .i64 9) := by
    rw [rX.cell (by omega), hnc.es.vals 1 (by omega), T2.out]
  obtain ⟨ao, co, eo, _⟩ := hnc.order.sl
  have q2 : X.cell? ⟨w1.heap.size, 192, none⟩ = some (.slice ao 1 co) := by
    rw [rX.cell (by omega), eo, T3.out]
  have HX : Hid (X = (w1.alloc (.cells zr 41)).setRow w1.heap.size fr) := hX
  have hbE : Below w.heap.size w X := hb.trans ((hb1.mono (by omega)).trans (hbX.mono (by have := hb1.size; omega)))
  clear hfr hX hnc hown eo rX hbX hb1
  go_upto_region 2 with (first
    | (refine wpList_alloc_as rfl 41 rfl zr hz0 ?_)
    | (refine wpList_store_row rfl 41 _ _ rfl w1.heap.size fr rfl rfl 41 _ hres hsf hzz hone ?_))
  rw [← HX.out]
  clear HX hres
  go_wp2
  go_ret
  exact ⟨rfl, hbE⟩

end Go.Proofs.Ytgdkjjmnoikhdab

namespace Go.Proofs.Ytgdkjjmnoikhdab
open Go.RowKit

end Go.Proofs.Ytgdkjjmnoikhdab

namespace Go.Proofs.Ytgdkjjmnoikhdab
open Go.RowKit

end Go.Proofs.Ytgdkjjmnoikhdab

namespace Go.Proofs.Ytgdkjjmnoikhdab
open Go.RowKit

end Go.Proofs.Ytgdkjjmnoikhdab

namespace Go.Proofs.Ytgdkjjmnoikhdab
open Go.RowKit

theorem step_alloc_as {P : Program} {ops : Array Oper} {o : Oper} {a : Act} {w : World} {K : Act → World → Prop} {Q : Exit → Act → World → Prop} {E : Prop} (hgd : o.guard = none) (d : Option Tmp) (hd : o.dst = d) (ty : TypeId) (ho : o.op = .alloc ty) (cs : Array Value) (hz : (P.info? ty).map (·.zero) = some (some (.agg cs)))
    (h : K (a.put d (.pointer (some ⟨w.heap.size, 0, none⟩))) (w.alloc (.cells cs ty))) : if Region.wanted o (yielded ops a.tmps) = true then Oper.wp P o a w K Q else E := by
  have hw : Region.wanted o (yielded ops a.tmps) = true := by simp [Region.wanted, hgd]
  rw [if_pos hw]
  cases hq : P.info? ty with
  | none => simp [hq] at hz
  | some i =>
    have hzz : i.zero = some (.agg cs) := by simpa [hq] using hz
    unfold Oper.wp execOp
    simp [ho, hd, Instr.alloc, zeroValue, typeInfo, hq, hzz, newVar, newRow, Value.cells, go_sem]
    exact h
theorem arr_back (a : Array Value) : a.toList.toArray = a := by simp

end Go.Proofs.Ytgdkjjmnoikhdab
