/-
  The contract of the document's own ReplayLog.
  How a frame that came in is read: its numbers, and where its lists lie.
  How a slice of texts that came in is read, and copied.
  The contract of the statements' own takes (januspostlaw): node answers at all.
  A list of frames that a call made, read one by one.
  A list of frames in memory.
  The contract of the document's own SameFrames, at lists that are alike.
  The walk of the statement NodeTakes.
-/
import Derived.Test.YtgdkjjmnoikhdabRep20
import Derived.Test.YtgdkjjmnoikhdabRep35
import Derived.Test.YtgdkjjmnoikhdabRep9
import Derived.Lib.SmallJoins
import Derived.ChangeMaps5
import Derived.Deep.Strs
import Derived.SizedLaws
import Derived.Test.YtgdkjjmnoikhdabRep19
import Derived.Test.YtgdkjjmnoikhdabRep24
import Derived.Test.YtgdkjjmnoikhdabRep25
import Derived.Test.YtgdkjjmnoikhdabRep22
import Derived.Deep.CutRange
namespace Go.Proofs.Ytgdkjjmnoikhdab
open Go.RowKit

set_option maxRecDepth 100000 in
set_option maxHeartbeats 2000000 in
theorem replayLog_any (who : Int) (a : Option Addr) (cap : Nat) (zs : List (List UInt8)) (w : World) (hl : zs.length ≤ maxLen) (hz : TxIn w.heap.size w a zs) (hzs : ∀ q ∈ zs, q.length ≤ maxLen) :
    Calls Try.prog 29 #[.int .i64 who, .slice a zs.length cap] w fun r w' => ∃ nv', r = .returned (.tuple #[.agg (rowF 201 nv'), .int .i64 (replayN who zs).2]) ∧ NodeC (· < w'.heap.size) w' nv' (replayN who zs).1 ∧ Below w.heap.size w w' := by
  unfold maxLen at hl
  obtain ⟨zr, hzr⟩ : ∃ zr, zr = rowF 201 zv := ⟨_, rfl⟩
  have hz0 := Try.zeroNode
  rw [← hzr] at hz0
  have hzc := Try.zcNode
  rw [← hzr] at hzc
  have hsz : (Try.prog.info? 41).map (·.size) = some zr.size := by rw [hzr, rowF_size]; exact Try.infoNode
  have honz : zr.all (·.oneCell') = true := by rw [hzr]; exact rowF_all (zero_node (fun _ => True) w).one
  have HZR : Hid (zr = rowF 201 zv) := hzr
  obtain ⟨R, hR⟩ : ∃ R, R = replayN who zs := ⟨_, rfl⟩
  have HR : Hid (R = replayN who zs) := hR
  rw [← hR]
  have HZ : Hid (TxIn w.heap.size w a zs) := hz
  have HQ : Hid (∀ q ∈ zs, q.length ≤ maxLen) := hzs
  clear hzr hR hz hzs
  cases tn : nodeB who
  · have E : Hid (R = (zeroN, 2)) := by unfold Hid; rw [HR.out]; unfold replayN; rw [if_pos tn]
    have r0 : (w.alloc (.cells zr 41)).heap[w.heap.size]? = some (.cells zr 41 (0, 0)) := heap_new _ _
    have hb : Below w.heap.size w ((w.alloc (.cells zr 41)).setRow w.heap.size zr) := setRow_below ((Below.refl _ _).alloc (Nat.le_refl _) _) (Nat.le_refl _) _
    by_cases tw : who < 0
    · have dw : decide (who < 0) = true := decide_eq_true tw
      clear tw tn
      go_enter Try.func29, Try.ntmps29
      go_wp2_with (first
        | (refine wpList_alloc_as rfl 41 rfl zr hz0 ?_)
        | (refine wpList_store_row rfl 41 _ _ rfl w.heap.size zr rfl rfl 41 _ r0 hsz rfl honz ?_))
      refine bodyPost_ret (v := .tuple #[.agg zr, .int .i64 2]) (results_row1 Try.results29 _ _ w.heap.size 41 zr (0, 0) _ rfl (heap_setRow r0) Try.underlying41 rfl hsz _ rfl) rfl ⟨zv, by rw [HZR.out, E.out], by rw [E.out]; exact zero_node _ _, hb⟩
    · have dw : decide (who < 0) = false := decide_eq_false tw
      have dv : decide (5 < who) = true := by
        unfold nodeB at tn
        have := of_decide_eq_false tn
        exact decide_eq_true (by omega)
      clear tw tn
      go_enter Try.func29, Try.ntmps29
      go_wp2_with (first
        | (refine wpList_alloc_as rfl 41 rfl zr hz0 ?_)
        | (refine wpList_store_row rfl 41 _ _ rfl w.heap.size zr rfl rfl 41 _ r0 hsz rfl honz ?_))
      refine bodyPost_ret (v := .tuple #[.agg zr, .int .i64 2]) (results_row1 Try.results29 _ _ w.heap.size 41 zr (0, 0) _ rfl (heap_setRow r0) Try.underlying41 rfl hsz _ rfl) rfl ⟨zv, by rw [HZR.out, E.out], by rw [E.out]; exact zero_node _ _, hb⟩
  · have E : Hid (R = replayFrom who zeroN zs) := by unfold Hid; rw [HR.out]; unfold replayN; rw [if_neg (by rw [tn]; decide)]
    have hnb : 0 ≤ who ∧ who < 6 := by unfold nodeB at tn; exact of_decide_eq_true tn
    have dw : decide (who < 0) = false := decide_eq_false (by omega)
    have dv : decide (5 < who) = false := decide_eq_false (by omega)
    clear hnb tn
    obtain ⟨W, hW⟩ : ∃ W, W = (w.alloc (.cells zr 41)).alloc (.cells zr 41) := ⟨_, rfl⟩
    obtain ⟨r0, r1⟩ := two_rows w (.cells zr 41) (.cells zr 41)
    rw [← hW] at r0 r1
    have hbW : Below w.heap.size w W := by rw [hW]; exact ((Below.refl _ _).alloc (Nat.le_refl _) _).alloc (by rw [size_push]; omega) _
    have HW : Hid (W = (w.alloc (.cells zr 41)).alloc (.cells zr 41)) := hW
    have hzW : W.heap.size = w.heap.size + 2 := by rw [hW, size_push, size_push]
    have HN0 : Hid (NodeC (fun b => w.heap.size + 2 ≤ b) W zv zeroN) := zero_node _ _
    clear hW
    go_enter Try.func29, Try.ntmps29
    go_upto_region 4 with (first
      | (refine wpList_alloc_as rfl 41 rfl zr hz0 ?_))
    rw [← HW.out]
    clear HW
    go_wp2_with fail
    go_loopw [20] (fun i wr => ∃ (k : Nat) (mv : Nat → Value) (s : NodeL), k ≤ zs.length ∧ i = .int .i64 k ∧ wr.heap[w.heap.size]? = some (.cells zr 41 (0, 0)) ∧ Hid (wr.heap[w.heap.size + 1]? = some (.cells (rowF 201 mv) 41 (0, 0))) ∧
        Hid (NodeC (fun b => w.heap.size + 2 ≤ b) wr mv s) ∧ Below w.heap.size w wr ∧ Hid (R = replayFrom who s (zs.drop k))) (fun i _ => zs.length - (intOf i).toNat)
    case atStart => exact ⟨0, zv, zeroN, Nat.zero_le _, rfl, r0, by rw [← HZR.out]; exact r1, HN0, hbW, E⟩
    case round =>
      obtain ⟨k, mv, s, hk, rfl, q0, q1, HN, hB, HE⟩ := hrel
      clear r0 r1 HN0
      have hlt1 : w.heap.size + 1 < wr.heap.size := (Array.getElem?_eq_some_iff.1 q1.out).1
      obtain ⟨mr, hmr⟩ : ∃ mr, mr = rowF 201 mv := ⟨_, rfl⟩
      have q1r : wr.heap[w.heap.size + 1]? = some (.cells mr 41 (0, 0)) := by rw [hmr]; exact q1.out
      have hsm : (Try.prog.info? 41).map (·.size) = some mr.size := by rw [hmr, rowF_size]; exact Try.infoNode
      have HMR : Hid (mr = rowF 201 mv) := hmr
      clear hmr q1
      by_cases hlt : k < zs.length
      · rcases HZ.out with e | ⟨b, off, rfl, hbb, hc⟩
        · rw [e] at hlt; simp at hlt
        obtain ⟨t, Ht⟩ : ∃ t, Hid (zs.getD k [] = t) := ⟨_, rfl⟩
        have e0 : wr.cell? ⟨b, off + k, none⟩ = some (.string (str t)) := by rw [hB.cell (p := ⟨b, off + k, none⟩) hbb, hc k hlt, Ht.out]
        have HDr : Hid (zs.drop k = t :: zs.drop (k + 1)) := drop_tx hlt Ht.out
        clear hc
        go_wp2_with fail
        have HTL : Hid (t.length ≤ maxLen) := HQ.out t (by rw [← Ht.out]; simp only [List.getD, List.getElem?_eq_getElem hlt, Option.getD_some]; exact List.getElem_mem hlt)
        refine (refDecode_any t wr HTL.out).mono ?_
        rintro r x1 ⟨v, rfl, hfv, hfar, hb1⟩
        have HFar : Hid (FarV wr.heap.size v) := hfar
        clear hfar
        obtain ⟨f, hf⟩ : ∃ f, f = decL t := ⟨_, rfl⟩
        rw [← hf] at hfv
        have HF : Hid (f = decL t) := hf
        have HFV : Hid (∀ wx, Below x1.heap.size x1 wx → FrameV wx v f) := fun wx hx => hfv.later hx
        obtain ⟨a3, c3, a4, c4, a5, c5, a6, c6, rfl, _⟩ := hfv
        have hz1 := hb1.size
        clear hf
        by_cases td : decE t = 0
        · have dd : (decE t == 0) = true := by simpa using td
          have HTD : Hid (decE t = 0) := td
          clear td
          obtain ⟨X, hX⟩ : ∃ X, X = x1.alloc (.cells #[.int .i64 f.kind, .int .i64 f.node, .int .i64 f.id, .slice a3 f.ops.length c3, .slice a4 f.deps.length c4, .slice a5 f.ats.length c5, .slice a6 f.vals.length c6] 43) := ⟨_, rfl⟩
          have HX : Hid (X = x1.alloc (.cells #[.int .i64 f.kind, .int .i64 f.node, .int .i64 f.id, .slice a3 f.ops.length c3, .slice a4 f.deps.length c4, .slice a5 f.ats.length c5, .slice a6 f.vals.length c6] 43)) := hX
          have hbX : Below wr.heap.size wr X := by rw [hX]; exact hb1.alloc (by omega) _
          have hX1 : Below x1.heap.size x1 X := by rw [hX]; exact (Below.refl _ _).alloc (Nat.le_refl _) _
          have hzX := hbX.size
          clear hX
          have p0 : X.heap[w.heap.size]? = some (.cells zr 41 (0, 0)) := by rw [hbX.block _ (by omega)]; exact q0
          have p1 : X.heap[w.heap.size + 1]? = some (.cells mr 41 (0, 0)) := by rw [hbX.block _ (by omega)]; exact q1r
          go_wp2_with (first
            | (refine wpList_load_row rfl 41 _ rfl (w.heap.size + 1) rfl 41 mr (0, 0) _ (by rw [← HX.out]; exact p1) Try.underlying41 rfl hsm ?_))
          rw [← HX.out, HMR.out]
          have hto := takeFrame_any (w.heap.size + 2) mv s who _ f X (by omega) ((HN.out.later (SameOn.of_size hbX)).mono (fun b hb hk => ⟨hk, hb⟩)) (HFV.out X hX1) (fun cs e i x n c hx => by have := HFar.out cs e i x n c hx; omega)
          refine hto.mono ?_
          clear hto
          rintro r y ⟨nv', x, rfl, hn, _, hby⟩
          obtain ⟨s1, hs1⟩ : ∃ s1, s1 = (takeN s who f).1 := ⟨_, rfl⟩
          obtain ⟨e1, he1⟩ : ∃ e1, e1 = (takeN s who f).2.2 := ⟨_, rfl⟩
          rw [← hs1] at hn
          rw [← he1]
          have HS1 : Hid (s1 = (takeN s who f).1) := hs1
          have HE1 : Hid (e1 = (takeN s who f).2.2) := he1
          obtain ⟨er, her⟩ : ∃ er, er = rowF 201 nv' := ⟨_, rfl⟩
          rw [← her]
          have hse : (Try.prog.info? 41).map (·.size) = some er.size := by rw [her, rowF_size]; exact Try.infoNode
          have honee : er.all (·.oneCell') = true := by rw [her]; exact rowF_all hn.one
          have hze : mr.size = er.size := by rw [HMR.out, her, rowF_size, rowF_size]
          have y0 : y.heap[w.heap.size]? = some (.cells zr 41 (0, 0)) := by rw [hby.block _ (by omega)]; exact p0
          have y1 : y.heap[w.heap.size + 1]? = some (.cells mr 41 (0, 0)) := by rw [hby.block _ (by omega)]; exact p1
          obtain ⟨Y, hY⟩ : ∃ Y, Y = y.setRow (w.heap.size + 1) er := ⟨_, rfl⟩
          have HY : Hid (Y = y.setRow (w.heap.size + 1) er) := hY
          have HNY : Hid (NodeC (fun b => w.heap.size + 2 ≤ b) Y nv' s1) := by
            rw [hY]
            exact hn.later (fun b _ hb => setRow_other _ _ (by omega))
          have z0 : Y.heap[w.heap.size]? = some (.cells zr 41 (0, 0)) := by rw [hY, setRow_other _ _ (by omega)]; exact y0
          have z1 : Y.heap[w.heap.size + 1]? = some (.cells er 41 (0, 0)) := by rw [hY]; exact heap_setRow y1
          have hYw : Below w.heap.size w Y := by rw [hY]; exact setRow_below (hB.trans ((hbX.trans (hby.mono hbX.size)).mono (by omega))) (by omega) _
          have HER : Hid (er = rowF 201 nv') := her
          clear hs1 he1 her hY hn HX hX1 hb1 hbX hby hB q0 q1r p0 p1 y0 HFV
          by_cases te : e1 = 0
          · have de : (e1 != 0) = false := by simpa using te
            have HTE : Hid (e1 = 0) := te
            clear te
            go_wp2_with (first
              | (refine wpList_store_row rfl 41 _ _ rfl (w.heap.size + 1) er rfl rfl 41 _ y1 hse hze honee ?_))
            rw [← HY.out]
            go_wp2_with fail
            refine ⟨⟨k + 1, nv', s1, hlt, by rw [Int.natCast_add]; rfl, z0, by rw [← HER.out]; exact z1, HNY, hYw, ?_⟩, by simp [intOf]; omega⟩
            unfold Hid
            rw [HE.out, HDr.out]
            conv => lhs; unfold replayFrom
            rw [if_neg (by rw [HTD.out]; decide), ← HF.out, ← HE1.out, if_neg (by rw [HTE.out]; decide), ← HS1.out]
          · have de : (e1 != 0) = true := by simpa using te
            have HTE : Hid (e1 ≠ 0) := te
            have hyf : Below w.heap.size w (Y.setRow w.heap.size zr) := setRow_below hYw (Nat.le_refl _) _
            clear te
            go_upto_region 10 with (first
              | (refine wpList_store_row rfl 41 _ _ rfl (w.heap.size + 1) er rfl rfl 41 _ y1 hse hze honee ?_))
            rw [← HY.out]
            go_wp2_with (first
              | (refine wpList_store_row rfl 41 _ _ rfl w.heap.size zr rfl rfl 41 _ z0 hsz rfl honz ?_))
            refine bodyPost_ret (v := .tuple #[.agg zr, .int .i64 e1]) (results_row1 Try.results29 _ _ w.heap.size 41 zr (0, 0) _ rfl (heap_setRow z0) Try.underlying41 rfl hsz _ rfl) rfl ?_
            have HRR : R = (zeroN, e1) := by
              rw [HE.out, HDr.out]
              unfold replayFrom
              rw [if_neg (by rw [HTD.out]; decide), ← HF.out, ← HE1.out, if_pos HTE.out]
            exact ⟨zv, by rw [HZR.out, HRR], by rw [HRR]; exact zero_node _ _, hyf⟩
        · have dd : (decE t == 0) = false := by simpa using td
          have HTD : Hid (decE t ≠ 0) := td
          have de : (decE t != 0) = true := by simpa using td
          clear td
          have hbX : Below wr.heap.size wr (x1.alloc (.cells #[.int .i64 f.kind, .int .i64 f.node, .int .i64 f.id, .slice a3 f.ops.length c3, .slice a4 f.deps.length c4, .slice a5 f.ats.length c5, .slice a6 f.vals.length c6] 43)) := hb1.alloc (by omega) _
          have p0 : (x1.alloc (.cells #[.int .i64 f.kind, .int .i64 f.node, .int .i64 f.id, .slice a3 f.ops.length c3, .slice a4 f.deps.length c4, .slice a5 f.ats.length c5, .slice a6 f.vals.length c6] 43)).heap[w.heap.size]? = some (.cells zr 41 (0, 0)) := by rw [hbX.block _ (by omega)]; exact q0
          have hyf : Below w.heap.size w ((x1.alloc (.cells #[.int .i64 f.kind, .int .i64 f.node, .int .i64 f.id, .slice a3 f.ops.length c3, .slice a4 f.deps.length c4, .slice a5 f.ats.length c5, .slice a6 f.vals.length c6] 43)).setRow w.heap.size zr) := setRow_below (hB.trans (hbX.mono (by omega))) (Nat.le_refl _) _
          go_wp2_with (first
            | (refine wpList_store_row rfl 41 _ _ rfl w.heap.size zr rfl rfl 41 _ p0 hsz rfl honz ?_))
          refine bodyPost_ret (v := .tuple #[.agg zr, .int .i64 (decE t)]) (results_row1 Try.results29 _ _ w.heap.size 41 zr (0, 0) _ rfl (heap_setRow p0) Try.underlying41 rfl hsz _ rfl) rfl ?_
          have HRR : R = (zeroN, decE t) := by
            rw [HE.out, HDr.out]
            unfold replayFrom
            rw [if_pos HTD.out]
          exact ⟨zv, by rw [HZR.out, HRR], by rw [HRR]; exact zero_node _ _, hyf⟩
      · have dl : ((k : Int) < zs.length) = False := by simp; omega
        have honm : mr.all (·.oneCell') = true := by rw [HMR.out]; exact rowF_all HN.out.one
        have hzm : zr.size = mr.size := by rw [HMR.out, HZR.out, rowF_size, rowF_size]
        have hyf : Below w.heap.size w (wr.setRow w.heap.size mr) := setRow_below hB (Nat.le_refl _) _
        have HNF : Hid (NodeC (· < (wr.setRow w.heap.size mr).heap.size) (wr.setRow w.heap.size mr) mv s) := (HN.out.later (fun b _ hb => setRow_other _ _ (by omega))).any
        go_wp2_with (first
          | (refine wpList_load_row rfl 41 _ rfl (w.heap.size + 1) rfl 41 mr (0, 0) _ q1r Try.underlying41 rfl hsm ?_)
          | (refine wpList_store_row rfl 41 _ _ rfl w.heap.size mr rfl rfl 41 _ q0 hsm hzm honm ?_))
        refine bodyPost_ret (v := .tuple #[.agg mr, .int .i64 0]) (results_row1 Try.results29 _ _ w.heap.size 41 mr (0, 0) _ rfl (heap_setRow q0) Try.underlying41 rfl hsm _ rfl) rfl ?_
        have HRR : R = (s, 0) := by
          rw [HE.out, List.drop_eq_nil_of_le (by omega)]
          rfl
        exact ⟨mv, by rw [HMR.out, HRR], by rw [HRR]; exact HNF.out, hyf⟩

end Go.Proofs.Ytgdkjjmnoikhdab

namespace Go.Proofs.Ytgdkjjmnoikhdab
open Go.ChangeShapes Go.WideShapes Go.ChangeAt Go.RowKit Go.Deep

theorem Try.cellsOps : Try.prog.cellsOf 35 = 1 := by kernel_rfl
theorem Try.cellsInts : Try.prog.cellsOf 23 = 1 := by kernel_rfl

theorem str_self (s : ByteArray) : s = str s.data.toList := by
  apply ByteArray.ext
  simp [str]

section
variable {H : Type} {enc : TypeId × Value → H} {w : World} {base : Nat} {spare : Nat → Bool} {held : Bool}

theorem open_sl_ints {n : Nat} {c : Value} {y : DataW H × List MemPlace} (h : DataW.trod enc Try.prog w base spare held n 23 [c] = some y) : ∃ a cap zs, c = .slice a (zs : List Int).length cap ∧ SlInts w a cap zs := by
  obtain ⟨a, l, cap, hc⟩ := Joins.slice_form Try.underlying23 h
  simp at hc
  subst hc
  obtain ⟨hl, zs, rfl, hz, _, hn, hcap⟩ := open_intsAt Try.underlying23 Try.underlying3 Try.cellsInt h
  exact ⟨a, cap, zs, rfl, hz, hl, hcap, hn⟩
theorem open_sl_ops {n : Nat} {c : Value} {y : DataW H × List MemPlace} (h : DataW.trod enc Try.prog w base spare held n 35 [c] = some y) : ∃ a cap zs, c = .slice a (zs : List OpL).length cap ∧ SlOps w a cap zs := by
  obtain ⟨a, l, cap, hc⟩ := Joins.slice_form Try.underlying35 h
  simp at hc
  subst hc
  obtain ⟨hl, zs, rfl, hz, _, hn, hcap⟩ := open_opsAt Try.underlying35 Try.underlying88 Try.underlying3 Try.cellsOp Try.cellsInt rfl rfl rfl rfl rfl rfl h
  exact ⟨a, cap, zs, rfl, hz, hl, hcap, hn⟩

end

end Go.Proofs.Ytgdkjjmnoikhdab

namespace Go.Proofs.Ytgdkjjmnoikhdab
open Go.ChangeShapes Go.WideShapes Go.RowKit
set_option maxRecDepth 100000

theorem Try.cellsStr : Try.prog.cellsOf 9 = 1 := by kernel_rfl
theorem Try.underStr : Try.prog.underlying 9 = some .string := by kernel_rfl
theorem Try.bytesStr : Try.prog.bytesOf 9 = 16 := by kernel_rfl
theorem Try.infoStr : (Try.prog.info? 9).map (fun i => (i.zero, i.size, i.bytes)) = some (some (.string ⟨#[]⟩), 1, 16) := by kernel_rfl

section
variable {H : Type} {enc : TypeId × Value → H} {P : Program} {w : World} {base : Nat} {spare : Nat → Bool} {held : Bool}
theorem open_strsIn {t e : TypeId} {fuel : Nat} {a : Option Addr} {len cap : Nat} {x : DataW H × List MemPlace} (ht : P.underlying t = some (.slice e)) (he : P.underlying e = some .string) (hc : P.cellsOf e = 1)
    (h : DataW.trod enc P w base spare held fuel t [.slice a len cap] = some x) :
    len ≤ maxLen ∧ ∃ zs : List (List UInt8), zs.length = len ∧ TxIn w.heap.size w a zs ∧ (∀ q ∈ zs, q.length ≤ maxLen) ∧ (a = none → zs.length = 0 ∧ cap = 0) := by
  rcases Go.Deep.open_strs ht he hc h with ⟨hcs, _⟩ | ⟨x, l, c, m, Sx, hcs, _, hl, hm, hmm, _, hcell⟩
  · simp at hcs
    obtain ⟨rfl, rfl, rfl⟩ := hcs
    exact ⟨Nat.zero_le _, [], rfl, Or.inl rfl, by simp, fun _ => ⟨rfl, rfl⟩⟩
  · simp at hcs
    obtain ⟨rfl, rfl, rfl⟩ := hcs
    have hlen : len ≤ m := by rw [hmm]; split <;> omega
    refine ⟨by omega, (List.range len).map fun i => (Sx i).data.toList, by simp, ?_, ?_, fun h => by cases h⟩
    · by_cases h0 : len = 0
      · left
        simp [h0]
      · right
        obtain ⟨b, off, spot⟩ := x
        have hc0 := (hcell 0 (by omega)).1
        have hs : spot = none := by simpa [Addr.add] using World.cell?_spot hc0
        subst hs
        refine ⟨b, off, rfl, by simpa [Addr.add] using lt_of_cell hc0, fun i hi => ?_⟩
        have hi' : i < len := by simpa using hi
        have := (hcell i (by omega)).1
        rw [add_none] at this
        rw [this]
        simp [List.getD, hi', ← str_self]
    · intro q hq
      obtain ⟨i, hi, rfl⟩ := List.mem_map.1 hq
      have hi' : i < len := by simpa using hi
      have := (hcell i (by omega)).2
      exact this
end
def txCells (zs : List (List UInt8)) : List Value := zs.map fun z => Value.string (str z)
theorem txCells_len (zs : List (List UInt8)) : (txCells zs).length = zs.length * 1 := by simp [txCells]
theorem tx_one (zs : List (List UInt8)) : ∀ u ∈ txCells zs, u.oneCell' = true := by
  intro u hu
  obtain ⟨n, _, rfl⟩ := List.mem_map.1 hu
  rfl
theorem tx_cells {B : Nat} {w : World} {a : Option Addr} {zs : List (List UInt8)} (h : TxIn B w a zs) : ∀ p, a = some p → ∀ j u, (txCells zs)[j]? = some u → w.cell? (p.add j) = some u := by
  intro p hp j u hu
  rcases h with rfl | ⟨b, off, hb, _, hc⟩
  · simp [txCells] at hu
  · rw [hp] at hb
    simp at hb
    subst hb
    have hj : j < zs.length := by
      have := (List.getElem?_eq_some_iff.1 hu).1
      simpa [txCells] using this
    rw [add_none, hc j hj]
    simp [txCells, hj] at hu
    simp [List.getD, hj, hu]
theorem TxIn.of_owns {w : World} {base : Nat} {e : TypeId} {a : Option Addr} {cap : Nat} {zs : List (List UInt8)} (h : w.ownsRow base e 1 (.slice a zs.length cap) zs.length (txCells zs)) : TxIn w.heap.size w a zs := by
  rcases h.2 with ⟨hv, hn⟩ | ⟨g, c, cur, hv, hg, hh, hc, hm, hcur, hx⟩
  · exact Or.inl (List.eq_nil_of_length_eq_zero hn)
  · simp only [Value.slice.injEq, true_and] at hv
    obtain ⟨rfl, rfl⟩ := hv
    have hlt : g < w.heap.size := (Array.getElem?_eq_some_iff.1 hh).1
    refine Or.inr ⟨g, 0, rfl, hlt, fun i hi => ?_⟩
    rw [cell_of_row w g (0 + i) cur e _ hh]
    have h1 : (cur.toList.take (zs.length * 1))[i]? = (txCells zs)[i]? := by rw [hx]
    rw [List.getElem?_take_of_lt (by omega)] at h1
    simp only [Array.getElem?_toList] at h1
    rw [Nat.zero_add, h1]
    simp [txCells, List.getD, hi]

end Go.Proofs.Ytgdkjjmnoikhdab

namespace Go.Proofs.Ytgdkjjmnoikhdab
open Go.RowKit

set_option maxRecDepth 100000 in
set_option maxHeartbeats 1000000 in
theorem law_takes (w : World) : Calls Try.prog 27 #[] w fun r w' => r = .returned (.bool true) ∧ Below w.heap.size w w' := by
  obtain ⟨zr, hzr⟩ : ∃ zr, zr = rowF 201 zv := ⟨_, rfl⟩
  have hz0 := Try.zeroNode
  rw [← hzr] at hz0
  obtain ⟨W, hW⟩ : ∃ W, W = w.alloc (.cells #[.int .i64 2, .int .i64 1, .int .i64 9] 88) := ⟨_, rfl⟩
  have hb : Below w.heap.size w W := by rw [hW]; exact (Below.refl _ _).alloc (Nat.le_refl _) _
  have r0 : W.heap[w.heap.size]? = some (.cells #[.int .i64 2, .int .i64 1, .int .i64 9] 88 (0, 0)) := by rw [hW]; exact heap_new _ _
  have hzW : W.heap.size = w.heap.size + 1 := by rw [hW]; exact size_push _ _
  have HF : Hid (FrameV W (.agg #[.int .i64 3, .int .i64 3, .int .i64 4, .slice (some ⟨w.heap.size, 0, none⟩) 1 1, .slice none 0 0, .slice none 0 0, .slice none 0 0]) takesF) := by
    refine ⟨some ⟨w.heap.size, 0, none⟩, 1, none, 0, none, 0, none, 0, rfl, ⟨Or.inr ⟨w.heap.size, 0, rfl, by omega, fun i hi => ?_⟩, by decide, Nat.le_refl _, fun h => by cases h⟩, (slI_nil (fun _ => True) _).1, (slI_nil (fun _ => True) _).1, (slI_nil (fun _ => True) _).1⟩
    have : i = 0 := by
      have : i < 1 := hi
      omega
    subst this
    exact ⟨by rw [cell_of_row _ _ _ _ _ _ r0]; rfl, by rw [cell_of_row _ _ _ _ _ _ r0]; rfl, by rw [cell_of_row _ _ _ _ _ _ r0]; rfl⟩
  have HT := takes_call W #[.int .i64 3, .int .i64 3, .int .i64 4, .slice (some ⟨w.heap.size, 0, none⟩) 1 1, .slice none 0 0, .slice none 0 0, .slice none 0 0] HF.out
  rw [← hzr] at HT
  obtain ⟨T, t0, t1, t2, t3, HT⟩ := HT
  have T0 : Hid (T.2.2 = 0) := t0
  have T1 : Hid (T.2.1.length = 2) := t1
  have T2 : Hid (T.1.vals 1 = 9) := t2
  have T3 : Hid (T.1.order.length = 1) := t3
  have HZR : Hid (zr = rowF 201 zv) := hzr
  have HW : Hid (W = w.alloc (.cells #[.int .i64 2, .int .i64 1, .int .i64 9] 88)) := hW
  have HTA : Hid (Calls Try.prog 20 #[.agg zr, .int .i64 3, .agg #[.int .i64 3, .int .i64 3, .int .i64 4, .slice (some ⟨w.heap.size, 0, none⟩) 1 1, .slice none 0 0, .slice none 0 0, .slice none 0 0]] W fun r w' => ∃ nv' x, r = .returned (.tuple #[.agg (rowF 201 nv'), x, .int .i64 T.2.2]) ∧ NodeC (· < w'.heap.size) w' nv' T.1 ∧ FramesV W.heap.size w' x T.2.1 ∧ Below W.heap.size W w') := HT
  clear t0 t1 t2 t3
  clear hzr hW r0 HT HF
  go_enter Try.func27, Try.ntmps27
  go_wp2_with fail
  rw [← HW.out, Try.zcNode, ← HZR.out]
  refine HTA.out.mono ?_
  rintro r w1 ⟨nv1, x, rfl, hnc, hfs, hb1⟩
  rw [T0.out]
  obtain ⟨fr, hfr⟩ : ∃ fr, fr = rowF 201 nv1 := ⟨_, rfl⟩
  rw [← hfr]
  have hsf : (Try.prog.info? 41).map (·.size) = some fr.size := by rw [hfr, rowF_size]; exact Try.infoNode
  have hzz : zr.size = fr.size := by rw [hfr, HZR.out, rowF_size, rowF_size]
  have hone : fr.all (·.oneCell') = true := by rw [hfr]; exact rowF_all hnc.one
  have hres : (w1.alloc (.cells zr 41)).heap[w1.heap.size]? = some (.cells zr 41 (0, 0)) := heap_new _ _
  obtain ⟨css, _, hown, _⟩ := hfs
  obtain ⟨ax, cx, rfl, _⟩ := own_form hown
  rw [T1.out]
  have hlen2 : ((2 : Nat) : Int) = 2 := rfl
  obtain ⟨X, hX⟩ : ∃ X, X = (w1.alloc (.cells zr 41)).setRow w1.heap.size fr := ⟨_, rfl⟩
  have hbX : Below w1.heap.size w1 X := by rw [hX]; exact setRow_below ((Below.refl _ _).alloc (Nat.le_refl _) _) (Nat.le_refl _) _
  have rX : BlkAt 201 X w1.heap.size nv1 := ⟨41, by rw [← hfr, hX]; exact heap_setRow hres⟩
  have q1 : X.cell? ⟨w1.heap.size, 194, none⟩ = some (.int .i64 9) := by
    rw [rX.cell (by omega), hnc.es.vals 1 (by omega), T2.out]
  obtain ⟨ao, co, eo, _⟩ := hnc.order.sl
  have q2 : X.cell? ⟨w1.heap.size, 192, none⟩ = some (.slice ao 1 co) := by
    rw [rX.cell (by omega), eo, T3.out]
  have HX : Hid (X = (w1.alloc (.cells zr 41)).setRow w1.heap.size fr) := hX
  have hbE : Below w.heap.size w X := hb.trans ((hb1.mono (by omega)).trans (hbX.mono (by have := hb1.size; omega)))
  clear hfr hX hnc hown eo rX hbX hb1
  go_upto_region 2 with (first
    | (refine wpList_alloc_as rfl 41 rfl zr hz0 ?_)
    | (refine wpList_store_row rfl 41 _ _ rfl w1.heap.size fr rfl rfl 41 _ hres hsf hzz hone ?_))
  rw [← HX.out]
  clear HX hres
  go_wp2
  go_ret
  exact ⟨rfl, hbE⟩

end Go.Proofs.Ytgdkjjmnoikhdab

namespace Go.Proofs.Ytgdkjjmnoikhdab
open Go.RowKit

end Go.Proofs.Ytgdkjjmnoikhdab

namespace Go.Proofs.Ytgdkjjmnoikhdab
open Go.RowKit

end Go.Proofs.Ytgdkjjmnoikhdab

namespace Go.Proofs.Ytgdkjjmnoikhdab
open Go.RowKit

end Go.Proofs.Ytgdkjjmnoikhdab

namespace Go.Proofs.Ytgdkjjmnoikhdab
open Go.RowKit

theorem step_alloc_as {P : Program} {ops : Array Oper} {o : Oper} {a : Act} {w : World} {K : Act → World → Prop} {Q : Exit → Act → World → Prop} {E : Prop} (hgd : o.guard = none) (d : Option Tmp) (hd : o.dst = d) (ty : TypeId) (ho : o.op = .alloc ty) (cs : Array Value) (hz : (P.info? ty).map (·.zero) = some (some (.agg cs)))
    (h : K (a.put d (.pointer (some ⟨w.heap.size, 0, none⟩))) (w.alloc (.cells cs ty))) : if Region.wanted o (yielded ops a.tmps) = true then Oper.wp P o a w K Q else E := by
  have hw : Region.wanted o (yielded ops a.tmps) = true := by simp [Region.wanted, hgd]
  rw [if_pos hw]
  cases hq : P.info? ty with
  | none => simp [hq] at hz
  | some i =>
    have hzz : i.zero = some (.agg cs) := by simpa [hq] using hz
    unfold Oper.wp execOp
    simp [ho, hd, Instr.alloc, zeroValue, typeInfo, hq, hzz, newVar, newRow, Value.cells, go_sem]
    exact h
theorem arr_back (a : Array Value) : a.toList.toArray = a := by simp

end Go.Proofs.Ytgdkjjmnoikhdab
