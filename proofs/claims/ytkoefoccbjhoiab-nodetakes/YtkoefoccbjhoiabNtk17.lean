/-
  The contract of the document's own 'before'.
  The contracts of the document's own graphOf and GraphOf.
  The contract of the document's own IsFrame.
  The contracts of the document's own reaches, ReachOf and ReadyIn.
  The contract of the document's own ReadyIn.
-/
import Derived.Test.YtkoefoccbjhoiabNtk8
import Derived.Test.YtkoefoccbjhoiabNtk16
import Derived.Test.YtkoefoccbjhoiabNtk9
import Derived.Test.YtkoefoccbjhoiabNtk7
import Derived.Test.YtkoefoccbjhoiabNtk11
import Derived.Test.YtkoefoccbjhoiabNtk15
import Derived.Deep.Cut
import Derived.Deep.WholeRow
namespace Go.Proofs.Ytkoefoccbjhoiab
open Go.RowKit

set_option maxRecDepth 100000 in
set_option maxHeartbeats 1000000 in
theorem ref_before_any (nv : Nat → Value) (s : NodeL) (id : Nat) (a3 : Option Addr) (c3 : Nat) (ops : List OpL) (sh : Int) (w : World) (h : NodeC (· < w.heap.size) w nv s) (h3 : SlOps w a3 c3 ops) :
    Calls Try.prog 71 #[.agg (rowF 201 nv), .int .i64 id, .slice a3 ops.length c3, .int .i64 sh] w fun r w' => ∃ x, r = .returned x ∧ w'.ownsRow w.heap.size 3 1 x (s.ahead id ops sh).length (intCells (s.ahead id ops sh)) ∧ Below w.heap.size w w' := by
  obtain ⟨i0, hi, hz0, hz1, hz2⟩ := info_parts Try.infoInt
  obtain ⟨p, hp⟩ : ∃ p : Nat → Bool, p = fun n => n != id && decide (0 < (s.ent n).state) && conflictL (s.ent n).ops ops sh := ⟨_, rfl⟩
  have HA : Hid (s.ahead id ops sh = unionTo p 32) := by rw [hp]; rfl
  have HP : Hid (p = fun n => n != id && decide (0 < (s.ent n).state) && conflictL (s.ent n).ops ops sh) := hp
  rw [HA.out]
  clear hp
  obtain ⟨gr, hgr⟩ : ∃ gr, gr = rowF 201 nv := ⟨_, rfl⟩
  rw [← hgr]
  obtain ⟨W, hW⟩ : ∃ W, W = w.alloc (.cells gr 41) := ⟨_, rfl⟩
  have hbW : Below w.heap.size w W := by rw [hW]; exact (Below.refl _ _).alloc (Nat.le_refl _) _
  have hzW : W.heap.size = w.heap.size + 1 := by rw [hW]; exact size_push _ _
  have HBlk : Hid (BlkAt 201 W w.heap.size nv) := ⟨41, by rw [hW, ← hgr]; exact heap_new _ _⟩
  have HW : Hid (W = w.alloc (.cells gr 41)) := hW
  have HN : Hid (NodeC (· < w.heap.size) w nv s) := h
  have H3 : Hid (SlOps w a3 c3 ops) := h3
  clear hW hgr h h3
  go_enter Try.func71, Try.ntmps71
  go_upto_region 2 with fail
  rw [← HW.out]
  clear HW
  go_wp2_with fail
  go_loopw [9, 11] (fun u i wr => ∃ k : Nat, k ≤ 32 ∧ i = .int .i64 k ∧ wr.ownsRow (w.heap.size + 1) 3 1 u (unionTo p k).length (intCells (unionTo p k)) ∧ Below (w.heap.size + 1) W wr) (fun _ i _ => 32 - (intOf i).toNat)
  case atStart => exact ⟨0, Nat.zero_le _, rfl, World.ownsRow_nil _ _ _ _, Below.refl _ _⟩
  case round =>
    obtain ⟨k, hk, rfl, hown, hB⟩ := hrel
    have hzr := hB.size
    have HBr : Hid (BlkAt 201 wr w.heap.size nv) := HBlk.out.later hB (by omega)
    by_cases hlt : k < 32
    · have n1 : (0 : Int) ≤ (k : Int) ∧ (k : Int) < 32 := by omega
      have hl := unionTo_len p k
      have c0 := HBr.out.cell (i := k * 6) (by omega)
      have c1 := HBr.out.cell (i := k * 6 + 1) (by omega)
      have es : nv (k * 6) = .int .i64 (s.ent k).state := (HN.out.es.ent k hlt).state
      rw [es] at c0
      obtain ⟨a1, d1, e1, hs1⟩ := (HN.out.es.ent k hlt).ops.sl
      rw [e1] at c1
      have hbw : Below w.heap.size w wr := hbW.trans (hB.mono (by omega))
      have HO1 : Hid (SlOps wr a1 d1 (s.ent k).ops) := hs1.later hbw
      have HO3 : Hid (SlOps wr a3 c3 ops) := H3.out.later hbw
      have HPK : Hid (p k = (k != id && decide (0 < (s.ent k).state) && conflictL (s.ent k).ops ops sh)) := by unfold Hid; rw [HP.out]
      clear es e1 hs1 hbw
      by_cases te : k = id
      · have de : ((k : Int) != (id : Int)) = false := by simp [te]
        have PF : Hid (p k = false) := by unfold Hid; rw [HPK.out, te]; simp
        clear te
        go_wp2
        go_roundw
        case rel => exact ⟨k + 1, by omega, by go_num, by rw [unionTo_miss PF.out]; exact hown, hB⟩
        case measure => simp [intOf]; omega
      · have de : ((k : Int) != (id : Int)) = true := by simp; omega
        have te' : (k != id) = true := by simpa using te
        clear te
        by_cases ts : 0 < (s.ent k).state
        · have ds : decide (0 < (s.ent k).state) = true := by simpa using ts
          have PE : Hid (p k = conflictL (s.ent k).ops ops sh) := by unfold Hid; rw [HPK.out, te', ds]; simp
          clear ts te' HPK
          go_wp2_with fail
          refine (inWay_any a1 d1 (s.ent k).ops a3 c3 ops sh _ HO1.out.2.1 HO1.out.1 HO3.out.2.1 HO3.out.1).mono ?_
          rintro e w3 ⟨rfl, hb3⟩
          rw [way_conflict]
          generalize hcf : conflictL (s.ent k).ops ops sh = cf at PE ⊢
          have hz3 := hb3.size
          have hb4 : Below (w.heap.size + 1) W w3 := hB.trans (hb3.mono (by omega))
          have own3 : w3.ownsRow (w.heap.size + 1) 3 1 u9 (unionTo p k).length (intCells (unionTo p k)) := own_same hown (fun j hj => hb3.block j (World.ownsRow.lt hown j hj).2)
          clear hcf hown hb3 hB c0 c1 HBr HO1 HO3
          cases cf
          · have PF : Hid (p k = false) := PE
            go_wp2
            go_roundw
            case rel => exact ⟨k + 1, by omega, by go_num, by rw [unionTo_miss PF.out]; exact own3, hb4⟩
            case measure => simp [intOf]; omega
          · have HM : Hid (unionTo p (k + 1) = unionTo p k ++ [(k : Int)]) := unionTo_hit PE.out
            go_wp2_with (first
              | (at_builtin; refine wpList_append_own _ rfl _ _ 23 rfl (w.heap.size + 1) 3 i0 (.int .i64 0) 1 8 Try.underlying23 hi hz0 hz1 hz2 rfl (by decide) _ _ _ rfl (own3.alloc _) ⟨w3.heap.size, 0, none⟩ 1 1 [.int .i64 k] rfl rfl ?c1 ?c2 ?c3 ?c4 ?c5 ?_)
              | go_in)
            case c1 => exact World.news_of_block (cs := #[.int .i64 k]) (t := 3) (fr := (0, 0)) (heap_new w3 _)
            case c2 => exact one_int _
            case c3 => unfold maxLen; omega
            case c4 => omega
            case c5 => rw [size_push]; omega
            · intro v' w5 hown' hgrow _
              have hB' : Below (w.heap.size + 1) W w5 := (hb4.alloc (by omega) _).grown hgrow (by rw [size_push]; omega) (owns_block own3)
              clear hgrow own3
              go_wp2
              go_roundw
              case rel => exact ⟨k + 1, by omega, by go_num, by rw [HM.out, intCells_snoc, List.length_append]; exact hown', hB'⟩
              case measure => simp [intOf]; omega
        · have ds : decide (0 < (s.ent k).state) = false := by simpa using ts
          have PF : Hid (p k = false) := by unfold Hid; rw [HPK.out, ds]; simp
          clear ts te' HPK
          go_wp2
          go_roundw
          case rel => exact ⟨k + 1, by omega, by go_num, by rw [unionTo_miss PF.out]; exact hown, hB⟩
          case measure => simp [intOf]; omega
    · obtain rfl : k = 32 := by omega
      go_wp2
      go_ret
      exact ⟨_, rfl, own_mono hown (by omega), hbW.trans (hB.mono (by omega))⟩

end Go.Proofs.Ytkoefoccbjhoiab

namespace Go.Proofs.Ytkoefoccbjhoiab
open Go.RowKit

/-- In the midst of it: the first k are done. -/
structure RgInv (w0 W : World) (nv : Nat → Value) (s : NodeL) (gv : Nat → Value) (k : Nat) (w : World) : Prop where
  blk : BlkAt 64 w (w0.heap.size + 2) gv
  known : ∀ i, i < k → gv i = .bool (decide (2 ≤ (s.ent i).state))
  deps : ∀ i, i < k → gv (32 + i) = nv (i * 6 + 3)
  grown : W.grownBy w (some (w0.heap.size + 2))

set_option maxRecDepth 100000 in
set_option maxHeartbeats 1000000 in
theorem ref_graphOf_any {ok : Nat → Prop} (nv : Nat → Value) (s : NodeL) (w : World) (h : NodeE ok w nv s) :
    Calls Try.prog 72 #[.agg (rowF 201 nv)] w fun r w' => ∃ gv, r = .returned (.agg (rowF 64 gv)) ∧ GraphIn ok w' gv s.graph ∧ Below w.heap.size w w' := by
  obtain ⟨gr, hgr⟩ : ∃ gr, gr = rowF 201 nv := ⟨_, rfl⟩
  obtain ⟨zr, hzr⟩ : ∃ zr, zr = rowF 64 zg := ⟨_, rfl⟩
  have hz0 := Try.zeroGraph
  rw [← hgr]
  rw [← hzr] at hz0
  have HG : Hid (gr = rowF 201 nv) := hgr
  have HZ : Hid (zr = rowF 64 zg) := hzr
  have HN : Hid (NodeE ok w nv s) := h
  clear hgr hzr h
  obtain ⟨W, hW⟩ : ∃ W, W = ((w.alloc (.cells gr 41)).alloc (.cells zr 26)).alloc (.cells zr 26) := ⟨_, rfl⟩
  obtain ⟨r0, r1, r2⟩ := rows3 w (.cells gr 41) (.cells zr 26) (.cells zr 26)
  rw [← hW] at r0 r1 r2
  have hb : Below w.heap.size w W := by rw [hW]; exact (((Below.refl _ _).alloc (Nat.le_refl _) _).alloc (by rw [size_push]; omega) _).alloc (by rw [size_push, size_push]; omega) _
  have hzW : W.heap.size = w.heap.size + 3 := by rw [hW, size_push, size_push, size_push]
  have H0 : Hid (RgInv w W nv s zg 0 W) := ⟨⟨26, by rw [← HZ.out]; exact r2⟩, fun i hi => by omega, fun i hi => by omega, World.grownBy.refl _ _⟩
  have HBlk : Hid (BlkAt 201 W w.heap.size nv) := ⟨41, by rw [← HG.out]; exact r0⟩
  have HR1 : Hid (W.heap[w.heap.size + 1]? = some (.cells zr 26 (0, 0))) := r1
  have HBW : Hid (Below w.heap.size w W) := hb
  have HW : Hid (W = ((w.alloc (.cells gr 41)).alloc (.cells zr 26)).alloc (.cells zr 26)) := hW
  clear hW r0 r1 r2 hb
  go_enter Try.func72, Try.ntmps72
  go_upto_region 2 with (first
    | (refine wpList_alloc_as rfl 26 rfl zr hz0 ?_)
    | fail)
  rw [← HW.out]
  clear HW hz0
  go_wp2_with fail
  go_loopw [5] (fun i wr => ∃ (k : Nat) (gv : Nat → Value), k ≤ 32 ∧ i = .int .i64 k ∧ Hid (RgInv w W nv s gv k wr)) (fun i _ => 32 - (intOf i).toNat)
  case atStart => exact ⟨0, zg, Nat.zero_le _, rfl, H0⟩
  case round =>
    obtain ⟨k, gv, hk, rfl, H⟩ := hrel
    clear H0
    have hgz := H.out.grown.size
    have HBr : Hid (BlkAt 201 wr w.heap.size nv) := by
      obtain ⟨t, ht⟩ := HBlk.out
      exact ⟨t, by rw [H.out.grown.block _ (by omega) (by simp)]; exact ht⟩
    by_cases hlt : k < 32
    · have n1 : (0 : Int) ≤ (k : Int) ∧ (k : Int) < 32 := by omega
      have c0 := HBr.out.cell (i := k * 6) (by omega)
      have c3 := HBr.out.cell (i := k * 6 + 3) (by omega)
      have es : nv (k * 6) = .int .i64 (s.ent k).state := (HN.out.ent k hlt).state
      rw [es] at c0
      obtain ⟨a3, d3, e3, _⟩ := (HN.out.ent k hlt).deps.sl
      rw [e3] at c3
      have E3 : Hid (nv (k * 6 + 3) = .slice a3 (s.ent k).deps.length d3) := e3
      have f0 := H.out.blk.cell (i := k) (by omega)
      have f1 := H.out.blk.frozen k
      clear es e3
      go_upto_region 6 with fail
      obtain ⟨X, hX⟩ : ∃ X, X = wr.setCell ⟨w.heap.size + 1 + 1, k, none⟩ (.bool (decide (1 < (s.ent k).state))) := ⟨_, rfl⟩
      rw [← hX]
      have hd : decide (1 < (s.ent k).state) = decide (2 ≤ (s.ent k).state) := by congr 1
      have BX : BlkAt 64 X (w.heap.size + 2) (fun i => if i = k then .bool (decide (2 ≤ (s.ent k).state)) else gv i) := by rw [hX, hd]; exact H.out.blk.put k _
      have GX : W.grownBy X (some (w.heap.size + 2)) := by rw [hX]; exact grown_put_same H.out.grown _ _
      have x3 : X.cell? ⟨w.heap.size, k * 6 + 3, none⟩ = some (.slice a3 (s.ent k).deps.length d3) := by
        obtain ⟨t, ht⟩ := HBlk.out
        have hx : BlkAt 201 X w.heap.size nv := ⟨t, by rw [GX.block _ (by omega) (by simp)]; exact ht⟩
        rw [hx.cell (by omega), E3.out]
      have f2 := BX.cell (i := 32 + k) (by omega)
      have f3 := BX.frozen (32 + k)
      rw [if_neg (by omega)] at f2
      have HN1 : Hid (RgInv w W nv s (fun i => if i = 32 + k then .slice a3 (s.ent k).deps.length d3 else if i = k then .bool (decide (2 ≤ (s.ent k).state)) else gv i) (k + 1) (X.setCell ⟨w.heap.size + 2, 32 + k, none⟩ (.slice a3 (s.ent k).deps.length d3))) := by
        refine ⟨BX.put (32 + k) _, fun i hi => ?_, fun i hi => ?_, grown_put_same GX _ _⟩
        · show (if i = 32 + k then _ else if i = k then _ else gv i) = _
          rw [if_neg (by omega)]
          by_cases e : i = k
          · subst e; rw [if_pos rfl]
          · rw [if_neg e]; exact H.out.known i (by omega)
        · show (if 32 + i = 32 + k then _ else if 32 + i = k then _ else gv (32 + i)) = _
          by_cases e : i = k
          · subst e; rw [if_pos rfl, E3.out]
          · rw [if_neg (by omega), if_neg (by omega)]; exact H.out.deps i (by omega)
      clear hX hd BX GX c0 c3 f0 f1 H HBr
      go_wp2_with fail
      go_roundw
      case rel => exact ⟨k + 1, _, by omega, by go_num, HN1⟩
      case measure => simp [intOf]; omega
    · obtain rfl : k = 32 := by omega
      obtain ⟨t, hblk⟩ := H.out.blk
      have hres : wr.heap[w.heap.size + 1]? = some (.cells zr 26 (0, 0)) := by rw [H.out.grown.block _ (by omega) (by simp)]; exact HR1.out
      obtain ⟨fr, hfr⟩ : ∃ fr, fr = rowF 64 gv := ⟨_, rfl⟩
      have hsize : (Try.prog.info? 26).map (·.size) = some fr.size := by rw [hfr, rowF_size]; exact Try.infoGraph
      have hzs : zr.size = fr.size := by rw [hfr, HZ.out, rowF_size, rowF_size]
      have hbr : Below w.heap.size w wr := HBW.out.grown H.out.grown (by omega) (by intro k hk; cases hk; omega)
      have hbf : Below w.heap.size w (wr.setRow (w.heap.size + 1) fr) := setRow_below hbr (by omega) _
      have GI : GraphIn ok (wr.setRow (w.heap.size + 1) fr) gv s.graph := ⟨fun i hi => H.out.known i hi, fun i hi => by rw [H.out.deps i hi]; exact (HN.out.ent i hi).deps.later (SameOn.of_size hbf)⟩
      have hone : fr.all (·.oneCell') = true := by rw [hfr]; exact rowF_all GI.one
      rw [← hfr] at hblk
      have HFR : Hid (fr = rowF 64 gv) := hfr
      have HF : Hid (GraphIn ok (wr.setRow (w.heap.size + 1) fr) gv s.graph ∧ Below w.heap.size w (wr.setRow (w.heap.size + 1) fr)) := ⟨GI, hbf⟩
      clear hfr GI H hbr hbf
      go_wp2_with (first
        | (refine wpList_load_row rfl 26 _ rfl (w.heap.size + 2) rfl t fr (0, 0) _ hblk Try.underlying26 rfl hsize ?_)
        | (refine wpList_store_row rfl 26 _ _ rfl (w.heap.size + 1) fr rfl rfl 26 _ hres hsize hzs hone ?_))
      refine bodyPost_ret (v := .agg fr) (results_cell_row Try.results72 _ _ (w.heap.size + 1) 26 _ (0, 0) _ rfl (heap_setRow hres) Try.underlying26 rfl hsize) rfl ⟨gv, by rw [HFR.out], HF.out⟩

end Go.Proofs.Ytkoefoccbjhoiab

namespace Go.Proofs.Ytkoefoccbjhoiab
open Go.RowKit

def risesB : Int → List Int → Bool
  | _, [] => true
  | l, n :: r => (decide (l < n) && decide (n < 4)) && risesB n r
theorem told_split : ∀ (xs vs : List Int) (l : Int), vs.length = xs.length → toldFrom l xs vs = (risesB l xs && vs.all valB)
  | [], [], l, _ => by simp [toldFrom, risesB]
  | [], _ :: _, _, h => by simp at h
  | _ :: _, [], _, h => by simp at h
  | a :: xs, v :: vs, l, h => by
    have ih := told_split xs vs a (by simpa using h)
    rw [toldFrom, risesB, ih, List.all_cons]
    have e : (!(decide (a ≤ l) || decide (4 ≤ a))) = (decide (l < a) && decide (a < 4)) := by
      rw [Bool.eq_iff_iff]
      simp
    rw [e]
    unfold valB
    generalize decide (l < a) = x
    generalize decide (a < 4) = y
    generalize decide (-1099511627776 ≤ v ∧ v ≤ 1099511627776) = z
    cases x <;> cases y <;> cases z <;> simp

def okAll (f : FrameL) : Bool := goodOpsF f && goodDepsF f && decide (f.kind = 5 ∨ f.ats.length = 0)
theorem isframe_end {f : FrameL} (h1 : ¬ (f.kind < 1 ∨ 5 < f.kind)) (h2 : ¬ (f.node < 0 ∨ 6 ≤ f.node ∨ f.id < 0 ∨ 32 ≤ f.id)) :
    goodL f = if okAll f && risesB (-1) f.ats && f.vals.all valB && decide (f.ats.length = f.vals.length) then 0 else 1 := by
  unfold goodL okAll
  rw [if_neg h1, if_neg h2]
  unfold goodToldF
  by_cases hl : f.vals.length = f.ats.length
  · rw [told_split _ _ _ hl, decide_eq_true hl, decide_eq_true hl.symm]
    congr 1
    rw [Bool.true_and, Bool.and_true]
    generalize goodOpsF f = a
    generalize goodDepsF f = b
    generalize decide (f.kind = 5 ∨ f.ats.length = 0) = c
    generalize risesB (-1) f.ats = d
    generalize f.vals.all valB = e
    cases a <;> cases b <;> cases c <;> cases d <;> cases e <;> rfl
  · have hl' : ¬ f.ats.length = f.vals.length := fun h => hl h.symm
    simp [hl, hl']

theorem rises_step {xs : List Int} {k : Nat} {q l : Int} {T t : Bool} (hk : k < xs.length) (hq : xs.getD k 0 = q) (h : T = (t && risesB l (xs.drop k))) : T = ((t && (decide (l < q) && decide (q < 4))) && risesB q (xs.drop (k + 1))) := by
  rw [h, drop_at hk hq, risesB]
  generalize decide (l < q) = x
  generalize decide (q < 4) = y
  cases t <;> cases x <;> cases y <;> simp
theorem rises_fin {xs : List Int} {k : Nat} {l : Int} {T t : Bool} (hk : ¬ k < xs.length) (h : T = (t && risesB l (xs.drop k))) : T = t := by
  rw [h, List.drop_of_length_le (by omega)]
  simp [risesB]
theorem vals_step {xs : List Int} {k : Nat} {q : Int} {T t : Bool} (hk : k < xs.length) (hq : xs.getD k 0 = q) (h : T = (t && (xs.drop k).all valB)) : T = ((t && valB q) && (xs.drop (k + 1)).all valB) := by
  rw [h, drop_at hk hq, List.all_cons]
  cases t <;> simp
theorem vals_fin {xs : List Int} {k : Nat} {T t : Bool} (hk : ¬ k < xs.length) (h : T = (t && (xs.drop k).all valB)) : T = t := by
  rw [h, List.drop_of_length_le (by omega)]
  simp

set_option maxRecDepth 100000 in
set_option maxHeartbeats 2000000 in
theorem isFrame_any (v : Value) (f : FrameL) (w : World) (hv : FrameV w v f) :
    Calls Try.prog 68 #[v] w fun e w' => e = .returned (.int .i64 (goodL f)) ∧ Below w.heap.size w w' := by
  have hb0 := frame_box w
  obtain ⟨a3, c3, a4, c4, a5, c5, a6, c6, rfl, h3, h4, h5, h6⟩ := hv
  obtain ⟨kind, node, id, ops, deps, ats, vals⟩ := f
  simp only at h3 h4 h5 h6
  by_cases g1 : kind < 1
  · have E : Hid (goodL ⟨kind, node, id, ops, deps, ats, vals⟩ = 3) := by unfold Hid goodL; rw [if_pos (by simp only; omega)]
    go_enter Try.func68, Try.ntmps68
    go_wp2
    go_ret
    exact ⟨ret_int E.out.symm, hb0 _⟩
  by_cases g2 : 5 < kind
  · have E : Hid (goodL ⟨kind, node, id, ops, deps, ats, vals⟩ = 3) := by unfold Hid goodL; rw [if_pos (by simp only; omega)]
    go_enter Try.func68, Try.ntmps68
    go_wp2
    go_ret
    exact ⟨ret_int E.out.symm, hb0 _⟩
  by_cases g3 : node < 0
  · have E : Hid (goodL ⟨kind, node, id, ops, deps, ats, vals⟩ = 2) := by unfold Hid goodL; rw [if_neg (by simp only; omega), if_pos (by simp only; omega)]
    go_enter Try.func68, Try.ntmps68
    go_wp2
    go_ret
    exact ⟨ret_int E.out.symm, hb0 _⟩
  by_cases g4 : 5 < node
  · have E : Hid (goodL ⟨kind, node, id, ops, deps, ats, vals⟩ = 2) := by unfold Hid goodL; rw [if_neg (by simp only; omega), if_pos (by simp only; omega)]
    go_enter Try.func68, Try.ntmps68
    go_wp2
    go_ret
    exact ⟨ret_int E.out.symm, hb0 _⟩
  go_enter Try.func68, Try.ntmps68
  go_wp2_with fail
  refine (isTxn_any id _).mono ?_
  rintro e w1 ⟨rfl, hw⟩
  subst hw
  cases tt : txnB id
  · have hid : ¬ (0 ≤ id ∧ id < 32) := by unfold txnB at tt; simpa using tt
    have E : Hid (goodL ⟨kind, node, id, ops, deps, ats, vals⟩ = 2) := by unfold Hid goodL; rw [if_neg (by simp only; omega), if_pos (by simp only; omega)]
    clear hid
    go_wp2
    go_ret
    exact ⟨ret_int E.out.symm, hb0 _⟩
  have hid : 0 ≤ id ∧ id < 32 := by unfold txnB at tt; simpa using tt
  have EE : Hid (goodL ⟨kind, node, id, ops, deps, ats, vals⟩ = if okAll ⟨kind, node, id, ops, deps, ats, vals⟩ && risesB (-1) ats && vals.all valB && decide (ats.length = vals.length) then 0 else 1) :=
    isframe_end (f := ⟨kind, node, id, ops, deps, ats, vals⟩) (by simp only; omega) (by simp only; omega)
  clear hid
  obtain ⟨W, hW⟩ : ∃ W, W = w.alloc (.cells #[.int .i64 kind, .int .i64 node, .int .i64 id, .slice a3 ops.length c3, .slice a4 deps.length c4, .slice a5 ats.length c5, .slice a6 vals.length c6] 43) := ⟨_, rfl⟩
  have f1 : FAt W w.heap.size kind node id (.slice a3 ops.length c3) (.slice a4 deps.length c4) (.slice a5 ats.length c5) (.slice a6 vals.length c6) := by rw [hW]; exact ⟨_, heap_new _ _⟩
  have hb1 : Below w.heap.size w W := by rw [hW]; exact hb0 _
  have HO : Hid (goodOpsF ⟨kind, node, id, ops, deps, ats, vals⟩ = if (kind == 1 || kind == 3) = true then goodOpsL ops else decide (ops.length = 0)) := by unfold Hid goodOpsF; simp
  have HD : Hid (goodDepsF ⟨kind, node, id, ops, deps, ats, vals⟩ = if (kind == 2 || kind == 3) = true then risingFrom (-1) deps && !hasL deps id else decide (deps.length = 0)) := by unfold Hid goodDepsF; simp
  have HA : Hid (okAll ⟨kind, node, id, ops, deps, ats, vals⟩ = (goodOpsF ⟨kind, node, id, ops, deps, ats, vals⟩ && goodDepsF ⟨kind, node, id, ops, deps, ats, vals⟩ && decide (kind = 5 ∨ ats.length = 0))) := rfl
  generalize hfo : goodOpsF ⟨kind, node, id, ops, deps, ats, vals⟩ = O at *
  generalize hfd : goodDepsF ⟨kind, node, id, ops, deps, ats, vals⟩ = D at *
  generalize hfa : okAll ⟨kind, node, id, ops, deps, ats, vals⟩ = A at *
  clear hfo hfd hfa
  have l3 := h3.2.1
  have l4 := h4.2.1
  have l5 := h5.2.1
  have l6 := h6.2.1
  unfold maxLen at l3 l4 l5 l6
  go_upto_region 6 with fail
  rw [← hW]
  clear hW hb0 tt
  obtain ⟨q0, q1, q2, q3, q4, q5, q6⟩ := f1.cell
  go_cut [38] from 9 (fun s wc => s = .bool (kind == 1 || kind == 3) ∧ wc = W)
  case first =>
    cases t1 : kind == 1
    · cases t2 : kind == 3
      all_goals
        go_wp2
        go_meet
        case rel => exact ⟨by rw [t1, t2]; rfl, rfl⟩
    · go_wp2
      go_meet
      case rel => exact ⟨by rw [t1]; rfl, rfl⟩
  case rest =>
    obtain ⟨hcs, hcw⟩ := hcut
    subst hcs hcw
    go_upto_if 38 with fail
    go_cut [3] from 9 (fun s wc => s = .bool O ∧ Below w.heap.size w wc ∧ FAt wc w.heap.size kind node id (.slice a3 ops.length c3) (.slice a4 deps.length c4) (.slice a5 ats.length c5) (.slice a6 vals.length c6))
    case first =>
      cases t1 : kind == 1 || kind == 3
      · have EO : Hid (O = decide (ops.length = 0)) := by unfold Hid; rw [HO.out, t1]; rfl
        go_wp2
        go_meet
        case rel =>
          refine ⟨?_, hb1, f1⟩
          rw [EO.out]
          congr 1
          rw [Bool.eq_iff_iff]
          simp
      · have EO : Hid (O = goodOpsL ops) := by unfold Hid; rw [HO.out, t1]; rfl
        go_wp2_with fail
        refine (isOps_any a3 c3 ops _ h3.2.1 (h3.later hb1).1 h3.2.2.1).mono ?_
        rintro e w2 ⟨rfl, hc⟩
        have hb2 := hb1.trans (hc.mono hb1.size)
        have f2 := f1.block (hc.block _ f1.lt)
        clear hc
        go_wp2
        go_meet
        case rel => exact ⟨by rw [EO.out], hb2, f2⟩
    case rest =>
      obtain ⟨hcs, hb2, f2⟩ := hcut
      subst hcs
      clear q0 q1 q2 q3 q4 q5 q6 f1 hb1
      obtain ⟨q0, q1, q2, q3, q4, q5, q6⟩ := f2.cell
      obtain ⟨X, hX⟩ : ∃ X, X = wc := ⟨_, rfl⟩
      subst hX
      go_upto_region 9 with fail
      go_cut [53] from 9 (fun s wc => s = .bool (kind == 2 || kind == 3) ∧ wc = X)
      case first =>
        cases t1 : kind == 2
        · cases t2 : kind == 3
          all_goals
            go_wp2
            go_meet
            case rel => exact ⟨by rw [t1, t2]; rfl, rfl⟩
        · go_wp2
          go_meet
          case rel => exact ⟨by rw [t1]; rfl, rfl⟩
      case rest =>
        obtain ⟨hcs, hcw⟩ := hcut
        subst hcs hcw
        have z4 := (h4.later hb2).1
        go_upto_if 53 with fail
        go_cut [3] from 9 (fun s wc' => s = .bool (O && D) ∧ wc' = wc)
        case first =>
          cases t1 : kind == 2 || kind == 3
          · have ED : Hid (D = decide (deps.length = 0)) := by unfold Hid; rw [HD.out, t1]; rfl
            cases O
            · go_wp2
              go_meet
              case rel => exact ⟨rfl, rfl⟩
            · go_wp2
              go_meet
              case rel =>
                refine ⟨?_, rfl⟩
                rw [ED.out]
                congr 1
                rw [Bool.eq_iff_iff]
                simp
          · have ED : Hid (D = (risingFrom (-1) deps && !hasL deps id)) := by unfold Hid; rw [HD.out, t1]; rfl
            cases O
            · go_wp2
              go_meet
              case rel => exact ⟨rfl, rfl⟩
            · go_wp2_with fail
              refine (isRising_any a4 c4 deps _ h4.2.1 z4).mono ?_
              rintro e wx ⟨rfl, hw⟩
              subst hw
              cases t2 : risingFrom (-1) deps
              · go_wp2
                go_meet
                case rel => exact ⟨by rw [ED.out, t2]; rfl, rfl⟩
              · go_wp2_with fail
                refine (ref_has a4 c4 deps id _ h4.2.1 z4).mono ?_
                rintro e wx ⟨rfl, hw⟩
                subst hw
                go_wp2
                go_meet
                case rel => exact ⟨by rw [ED.out, t2]; rfl, rfl⟩
        case rest =>
          obtain ⟨hcs, hcw⟩ := hcut
          subst hcs hcw
          clear z4
          go_upto_if 77 with fail
          have HA2 : Hid (A = ((O && D) && decide (kind = 5 ∨ ats.length = 0))) := HA.out
          generalize (O && D) = B at *
          go_cut [3] from 9 (fun s wc' => s = .bool A ∧ wc' = wc)
          case first =>
            cases t1 : kind != 5
            · have k5 : kind = 5 := by simpa using t1
              have EA : Hid (A = B) := by unfold Hid; rw [HA2.out, decide_eq_true (Or.inl k5), Bool.and_true]
              clear k5
              go_wp2
              go_meet
              case rel => exact ⟨by rw [EA.out], rfl⟩
            · have k5 : ¬ kind = 5 := by simpa using t1
              have EA : Hid (A = (B && decide (ats.length = 0))) := by unfold Hid; rw [HA2.out]; simp [k5]
              clear k5
              cases B
              · go_wp2
                go_meet
                case rel => exact ⟨by rw [EA.out]; rfl, rfl⟩
              · go_wp2
                go_meet
                case rel =>
                  refine ⟨?_, rfl⟩
                  rw [EA.out]
                  congr 1
                  rw [Bool.eq_iff_iff]
                  simp
          case rest =>
            obtain ⟨hcs, hcw⟩ := hcut
            subst hcs hcw
            clear HA HA2 HO HD
            have z5 := (h5.later hb2).1
            have z6 := (h6.later hb2).1
            go_wp2_with fail
            go_loop [3, 4, 88] (fun o l i => ∃ (k : Nat) (q : Int) (t : Bool), k ≤ ats.length ∧ i = .int .i64 k ∧ l = .int .i64 q ∧ o = .bool t ∧ Hid ((A && risesB (-1) ats) = (t && risesB q (ats.drop k)))) (fun _ _ i => ats.length - (intOf i).toNat)
            case atStart => exact ⟨0, -1, A, Nat.zero_le _, rfl, rfl, rfl, rfl⟩
            case round =>
              obtain ⟨k, l, t, hk, rfl, rfl, rfl, HR⟩ := hrel
              by_cases hlt : k < ats.length
              · obtain ⟨q, Hq, b, off, rfl, e0⟩ := IntsAt.get z5 hlt
                have HN : Hid ((A && risesB (-1) ats) = ((t && (decide (l < q) && decide (q < 4))) && risesB q (ats.drop (k + 1)))) := rises_step hlt Hq.out HR.out
                cases t
                · go_wp2
                  go_round
                  case rel => exact ⟨k + 1, q, false, by omega, by go_num, rfl, rfl, by rw [HN.out]; rfl⟩
                  case measure => simp [intOf]; omega
                · by_cases x1 : l < q
                  · by_cases x2 : q < 4
                    · go_wp2
                      go_round
                      case rel => exact ⟨k + 1, q, true, by omega, by go_num, rfl, by simp, by rw [HN.out, decide_eq_true x1, decide_eq_true x2]; rfl⟩
                      case measure => simp [intOf]; omega
                    · go_wp2
                      go_round
                      case rel => exact ⟨k + 1, q, false, by omega, by go_num, rfl, by simp, by rw [HN.out, decide_eq_false x2]; simp [Hid]⟩
                      case measure => simp [intOf]; omega
                  · go_wp2
                    go_round
                    case rel => exact ⟨k + 1, q, false, by omega, by go_num, rfl, by simp, by rw [HN.out, decide_eq_false x1]; rfl⟩
                    case measure => simp [intOf]; omega
              · have EA : Hid ((A && risesB (-1) ats) = t) := rises_fin hlt HR.out
                clear HR
                go_wp2_with fail
                go_loop [3, 107] (fun o i => ∃ (k : Nat) (t' : Bool), k ≤ vals.length ∧ i = .int .i64 k ∧ o = .bool t' ∧ Hid ((t && vals.all valB) = (t' && (vals.drop k).all valB))) (fun _ i => vals.length - (intOf i).toNat)
                case atStart => exact ⟨0, t, Nat.zero_le _, rfl, rfl, rfl⟩
                case round =>
                  obtain ⟨k2, t2, hk2, rfl, rfl, HR⟩ := hrel
                  by_cases hlt2 : k2 < vals.length
                  · obtain ⟨u, Hu, b, off, rfl, e0⟩ := IntsAt.get z6 hlt2
                    have HN : Hid ((t && vals.all valB) = ((t2 && valB u) && (vals.drop (k2 + 1)).all valB)) := vals_step hlt2 Hu.out HR.out
                    cases t2
                    · go_wp2
                      go_round
                      case rel => exact ⟨k2 + 1, false, by omega, by go_num, rfl, by rw [HN.out]; rfl⟩
                      case measure => simp [intOf]; omega
                    · have HV : Hid (valB u = (near u == u)) := by unfold Hid valB; rw [beq_flip, near_eq]
                      go_wp2_with fail
                      refine (bound_any u _).mono ?_
                      rintro e wx ⟨rfl, hw⟩
                      subst hw
                      cases tv : near u == u
                      all_goals
                        go_wp2
                        go_round
                        case rel => exact ⟨k2 + 1, _, by omega, by go_num, rfl, by rw [HN.out, HV.out, tv]; rfl⟩
                        case measure => simp [intOf]; omega
                  · have EB : Hid ((t && vals.all valB) = t2) := vals_fin hlt2 HR.out
                    have EG : Hid (goodL ⟨kind, node, id, ops, deps, ats, vals⟩ = if (t2 && decide (ats.length = vals.length)) = true then 0 else 1) := by
                      unfold Hid
                      rw [EE.out, EA.out, EB.out]
                    clear HR EE EA EB
                    cases t2
                    · have EG2 : Hid (goodL ⟨kind, node, id, ops, deps, ats, vals⟩ = 1) := by unfold Hid; rw [EG.out]; rfl
                      go_wp2
                      go_ret
                      exact ⟨ret_int EG2.out.symm, hb2⟩
                    · cases tl : (ats.length : Int) != (vals.length : Int)
                      · have hl : ats.length = vals.length := by simp at tl; omega
                        have EG2 : Hid (goodL ⟨kind, node, id, ops, deps, ats, vals⟩ = 0) := by unfold Hid; rw [EG.out, decide_eq_true hl]; rfl
                        clear hl
                        go_wp2
                        go_ret
                        exact ⟨ret_int EG2.out.symm, hb2⟩
                      · have hl : ¬ ats.length = vals.length := by simp at tl; omega
                        have EG2 : Hid (goodL ⟨kind, node, id, ops, deps, ats, vals⟩ = 1) := by unfold Hid; rw [EG.out, decide_eq_false hl]; rfl
                        clear hl
                        go_wp2
                        go_ret
                        exact ⟨ret_int EG2.out.symm, hb2⟩

end Go.Proofs.Ytkoefoccbjhoiab

namespace Go.Proofs.Ytkoefoccbjhoiab
open Go.RowKit

def isOff : Option Value → Bool
  | some (.bool false) => true
  | _ => false
/-- How many of the truths at block P are false. -/
def offAt (w : World) (P : Nat) : Nat := (List.range 32).countP fun i => isOff (w.cell? ⟨P, i, none⟩)
def truthOf : Value → Nat
  | .bool true => 1
  | _ => 0
theorem off_set {w : World} {P : Nat} {S : Nat → Bool} (h : SetAt 32 w P S) : offAt w P = (List.range 32).countP fun i => !S i := by
  unfold offAt
  refine List.countP_congr fun i hi => ?_
  rw [h.cell (List.mem_range.1 hi)]
  cases S i <;> simp [isOff]
theorem countP_less {p q : Nat → Bool} : ∀ {l : List Nat}, (∀ x ∈ l, p x = true → q x = true) → (∃ x ∈ l, q x = true ∧ p x = false) → l.countP p < l.countP q
  | [], _, h => by obtain ⟨x, hx, _⟩ := h; simp at hx
  | a :: l, h1, h2 => by
    have le : l.countP p ≤ l.countP q := List.countP_mono_left fun x hx => h1 x (by simp [hx])
    simp only [List.countP_cons]
    obtain ⟨x, hx, h3, h4⟩ := h2
    rcases List.mem_cons.1 hx with rfl | hx
    · rw [h3, h4]; simp; omega
    · have ih := countP_less (fun y hy => h1 y (by simp [hy])) ⟨x, hx, h3, h4⟩
      have := h1 a (by simp)
      cases hp : p a
      · cases hq : q a <;> simp <;> omega
      · rw [this hp]; simp; omega

/-- In the midst of a pass that began with S0: those below k were gone through, and of k's list those below q. -/
structure Pass (g : GraphL) (n : Nat) (S0 S : Nat → Bool) (mo : Bool) (k : Nat) (ds : List Int) : Prop where
  sub : ∀ x, x < 32 → S0 x = true → S x = true
  snd : ∀ x, x < 32 → S x = true → Hangs g.adj n x
  no : mo = false → (∀ i, i < 32 → S i = S0 i) ∧ (∀ x, x < k → x < 32 → S0 x = true → ∀ y, g.adj x y = true → S0 y = true) ∧ ∀ y : Nat, y < 32 → (y : Int) ∈ ds → S0 y = true
  yes : mo = true → ∃ i, i < 32 ∧ S i = true ∧ S0 i = false

theorem Pass.start {g : GraphL} {n : Nat} {S0 : Nat → Bool} (h : ∀ x, x < 32 → S0 x = true → Hangs g.adj n x) : Pass g n S0 S0 false 0 [] :=
  ⟨fun _ _ h => h, h, fun _ => ⟨fun _ _ => rfl, fun x hx => by omega, by simp⟩, fun h => by cases h⟩
/-- k is not in, or not known. -/
theorem Pass.skip {g : GraphL} {n : Nat} {S0 S : Nat → Bool} {mo : Bool} {k : Nat} (h : Pass g n S0 S mo k []) (hk : k < 32) (hs : S k = false ∨ g.known k = false) : Pass g n S0 S mo (k + 1) [] := by
  refine ⟨h.sub, h.snd, fun hm => ?_, h.yes⟩
  obtain ⟨h1, h2, h3⟩ := h.no hm
  refine ⟨h1, fun x hx hx' hs0 y hy => ?_, h3⟩
  by_cases e : x = k
  · subst e
    rcases hs with hs | hs
    · rw [h.sub x hk hs0] at hs; cases hs
    · unfold GraphL.adj at hy
      rw [hs] at hy
      simp at hy
  · exact h2 x (by omega) hx' hs0 y hy
/-- All of k's list was gone through. -/
theorem Pass.next {g : GraphL} {n : Nat} {S0 S : Nat → Bool} {mo : Bool} {k : Nat} (h : Pass g n S0 S mo k (g.deps k)) : Pass g n S0 S mo (k + 1) [] := by
  refine ⟨h.sub, h.snd, fun hm => ?_, h.yes⟩
  obtain ⟨h1, h2, h3⟩ := h.no hm
  refine ⟨h1, fun x hx hx' hs0 y hy => ?_, by simp⟩
  by_cases e : x = k
  · subst e
    have hy' := hy
    simp [GraphL.adj] at hy'
    exact h3 y hy'.1.1.2 hy'.2
  · exact h2 x (by omega) hx' hs0 y hy
theorem Pass.in {g : GraphL} {n : Nat} {S0 S : Nat → Bool} {mo : Bool} {k y : Nat} {ds : List Int} (h : Pass g n S0 S mo k ds) (hy : y < 32) (hs : S y = true) : Pass g n S0 S mo k (ds ++ [(y : Int)]) := by
  refine ⟨h.sub, h.snd, fun hm => ?_, h.yes⟩
  obtain ⟨h1, h2, h3⟩ := h.no hm
  refine ⟨h1, h2, fun z hz hm' => ?_⟩
  rcases List.mem_append.1 hm' with h4 | h4
  · exact h3 z hz h4
  · have : z = y := by simp at h4; omega
    rw [this, ← h1 y hy]
    exact hs
theorem Pass.out {g : GraphL} {n : Nat} {S0 S : Nat → Bool} {mo : Bool} {k : Nat} {ds : List Int} {z : Int} (h : Pass g n S0 S mo k ds) (hz : ¬ (0 ≤ z ∧ z < 32)) : Pass g n S0 S mo k (ds ++ [z]) := by
  refine ⟨h.sub, h.snd, fun hm => ?_, h.yes⟩
  obtain ⟨h1, h2, h3⟩ := h.no hm
  refine ⟨h1, h2, fun y hy hm' => ?_⟩
  rcases List.mem_append.1 hm' with h4 | h4
  · exact h3 y hy h4
  · exfalso; apply hz; simp at h4; omega
theorem Pass.put {g : GraphL} {n : Nat} {S0 S : Nat → Bool} {mo : Bool} {k y : Nat} {ds : List Int} (h : Pass g n S0 S mo k ds) (hk : k < 32) (hsk : S k = true) (hkn : g.known k = true) (hy : y < 32) (hmem : (y : Int) ∈ g.deps k) (hs : S y = false) :
    Pass g n S0 (fun i => if i = y then true else S i) true k (ds ++ [(y : Int)]) := by
  refine ⟨fun x hx h0 => ?_, fun x hx h0 => ?_, fun hm => (by cases hm), fun _ => ⟨y, hy, by simp, ?_⟩⟩
  · show (if x = y then true else S x) = true
    split
    · rfl
    · exact h.sub x hx h0
  · have h0 : (if x = y then true else S x) = true := h0
    split at h0
    · rename_i e
      subst e
      exact (h.snd k hk hsk).trans (.one (by simp [GraphL.adj, hk, hy, hkn, hmem]))
    · exact h.snd x hx h0
  · cases h0 : S0 y
    · rfl
    · rw [h.sub y hy h0] at hs; cases hs

/-- What is closed, and sound, is what n hangs on. -/
theorem closed_all {g : GraphL} {n : Nat} {S : Nat → Bool} (hn : n < 32) (h0 : S n = true) (hs : ∀ x, x < 32 → S x = true → Hangs g.adj n x) (hc : ∀ x, x < 32 → S x = true → ∀ y, g.adj x y = true → S y = true) {x : Nat} (hx : x < 32) : S x = hangB g n x := by
  rw [Bool.eq_iff_iff, hangB_iff g hn x]
  refine ⟨hs x hx, fun h => ?_⟩
  have : ∀ a b, Hangs g.adj a b → a < 32 → S a = true → S b = true := by
    intro a b h
    induction h using Hangs.ind with
    | refl => exact fun _ h => h
    | step e _ ih => exact fun ha h1 => ih (g.adj_lt _ _ e) (hc _ ha h1 _ e)
  exact this n x h hn h0

theorem take_snocI {l : List Int} {k : Nat} {z : Int} (h : k < l.length) (hz : l.getD k 0 = z) : l.take (k + 1) = l.take k ++ [z] := by
  rw [List.take_succ_eq_append_getElem h, ← hz]
  simp [List.getD, h]
theorem getD_memI {l : List Int} {k : Nat} (h : k < l.length) : l.getD k 0 ∈ l := by
  rw [List.getD, List.getElem?_eq_getElem h]
  exact List.getElem_mem h
theorem three_rows (w : World) (A B C : Obj) : (((w.alloc A).alloc B).alloc C).heap[w.heap.size]? = some A ∧ (((w.alloc A).alloc B).alloc C).heap[w.heap.size + 1]? = some B ∧ (((w.alloc A).alloc B).alloc C).heap[w.heap.size + 1 + 1]? = some C := by
  have h1 : (w.alloc A).heap.size = w.heap.size + 1 := size_push _ _
  have h2 : ((w.alloc A).alloc B).heap.size = w.heap.size + 1 + 1 := by rw [size_push, size_push]
  refine ⟨?_, ?_, ?_⟩
  · rw [Below.heap_alloc _ _ _ (by omega)]; exact heap_alloc2_old w A B
  · rw [Below.heap_alloc _ _ _ (by omega)]; exact heap_alloc2_new w A B
  · rw [← h2]; exact heap_new _ _

set_option maxRecDepth 100000 in
set_option maxHeartbeats 2000000 in
theorem reaches_any (gv : Nat → Value) (g : GraphL) (n : Int) (w : World) (hg : GraphC w.heap.size w gv g) :
    Calls Try.prog 115 #[.agg (rowF 64 gv), .int .i64 n] w fun e w' => e = .returned (.agg (bools 32 (reachI g n))) ∧ Below w.heap.size w w' := by
  obtain ⟨gr, hgr⟩ : ∃ gr, gr = rowF 64 gv := ⟨_, rfl⟩
  rw [← hgr]
  have HGR : Hid (gr = rowF 64 gv) := hgr
  clear hgr
  have hr := three_rows w (.cells gr 26) (.cells (bools 32 fun _ => false) 22) (.cells (bools 32 fun _ => false) 22)
  have hb : Below w.heap.size w (((w.alloc (.cells gr 26)).alloc (.cells (bools 32 fun _ => false) 22)).alloc (.cells (bools 32 fun _ => false) 22)) := (((Below.refl _ _).alloc (Nat.le_refl _) _).alloc (by rw [size_push]; omega) _).alloc (by rw [size_push, size_push]; omega) _
  have hz : (((w.alloc (.cells gr 26)).alloc (.cells (bools 32 fun _ => false) 22)).alloc (.cells (bools 32 fun _ => false) 22)).heap.size = w.heap.size + 3 := by rw [size_push, size_push, size_push]
  go_enter Try.func115, Try.ntmps115
  go_upto_region 2 with fail
  rw [← Try.zero22]
  obtain ⟨W, hW⟩ : ∃ W, W = ((w.alloc (.cells gr 26)).alloc (.cells (bools 32 fun _ => false) 22)).alloc (.cells (bools 32 fun _ => false) 22) := ⟨_, rfl⟩
  rw [← hW] at hr hb hz ⊢
  clear hW
  obtain ⟨hr1, hr2, hr3⟩ := hr
  by_cases ht : 0 ≤ n ∧ n < 32
  · obtain ⟨m, rfl⟩ := Int.eq_ofNat_of_zero_le ht.1
    have hm : m < 32 := by omega
    have tb : txnB (m : Int) = true := decide_eq_true ht
    have m1 : (0 : Int) ≤ (m : Int) ∧ (m : Int) < 32 := ht
    have tb' : txnB' (m : Int) = true := by simp [txnB']; omega
    have E : Hid (reachI g (m : Int) = hangB g m) := by
      unfold Hid
      funext j
      unfold reachI
      rw [tb']
      rfl
    have hS0 : SetAt 32 W (w.heap.size + 1 + 1) (fun _ => false) := ⟨22, hr3⟩
    have f0 := hS0.cell hm
    have f1 := hS0.frozen m
    have hS1 := hS0.put m true
    have hG1 := grown_put_same (World.grownBy.refl W (some (w.heap.size + 1 + 1))) m (.bool true)
    have HK : Hid (∀ i, i < 32 → W.cell? ⟨w.heap.size, i, none⟩ = some (.bool (g.known i))) := by
      intro i hi
      rw [cell_of_row W _ i _ _ _ hr1, HGR.out, rowF_get gv (by omega), hg.known i hi]
    have HD : Hid (∀ i, i < 32 → ∃ a cap, W.cell? ⟨w.heap.size, 32 + i, none⟩ = some (.slice a (g.deps i).length cap) ∧ IntsAt w.heap.size W a (g.deps i) ∧ (g.deps i).length ≤ maxLen) := by
      intro i hi
      obtain ⟨a, cap, h1, h2, h3⟩ := hg.deps i hi
      exact ⟨a, cap, by rw [cell_of_row W _ _ _ _ _ hr1, HGR.out, rowF_get gv (by omega), h1], h2.later hb, h3⟩
    have HR2 : Hid (W.heap[w.heap.size + 1]? = some (.cells (bools 32 fun _ => false) 22 (0, 0))) := hr2
    have HB : Hid (Below w.heap.size w W) := hb
    have HZ : Hid (W.heap.size = w.heap.size + 3) := hz
    clear tb' hr1 hr2 hr3 hb hg hS0 HGR
    go_wp2_with (first
      | (go_at_call 81; refine (isTxn_any _ _).mono ?_; rintro e V ⟨rfl, rfl⟩))
    obtain ⟨W1, hW1⟩ : ∃ W1, W1 = V.setCell ⟨w.heap.size + 1 + 1, m, none⟩ (.bool true) := ⟨_, rfl⟩
    rw [← hW1] at hS1 hG1 ⊢
    clear hW1 f0 f1
    go_loopw [6] (fun v6 wr => ∃ (mo : Bool) (S : Nat → Bool), v6 = .bool mo ∧ SetAt 32 wr (w.heap.size + 1 + 1) S ∧ (∀ x, x < 32 → S x = true → Hangs g.adj m x) ∧ S m = true ∧ (mo = false → ∀ x, x < 32 → S x = true → ∀ y, g.adj x y = true → S y = true) ∧ V.grownBy wr (some (w.heap.size + 1 + 1))) (fun v6 wr => truthOf v6 + 2 * offAt wr (w.heap.size + 1 + 1))
    case atStart => exact ⟨true, _, rfl, hS1, fun x _ h => by
        have : x = m := by
          by_cases e : x = m
          · exact e
          · simp [e] at h
        rw [this]; exact .refl _, by simp, (by intro h; cases h), hG1⟩
    case round =>
      obtain ⟨mo, S0, rfl, hS, hsnd, hSm, hclo, hG⟩ := hrel
      clear hS1 hG1
      obtain ⟨wo, hwo⟩ : ∃ wo, wo = wr := ⟨_, rfl⟩
      subst hwo
      have hzV := HZ.out
      have hoz := hG.size
      cases mo
      · have hE : ∀ x, x < 32 → S0 x = hangB g m x := fun x hx => closed_all hm hSm hsnd (hclo rfl) hx
        obtain ⟨t, ht⟩ := hS.congr hE
        have hr4 : wo.heap[w.heap.size + 1]? = some (.cells (bools 32 fun _ => false) 22 (0, 0)) := by rw [hG.block _ (by omega) (by simp)]; exact HR2.out
        have hbf : Below w.heap.size w wo := HB.out.grown hG (by omega) (by intro k hk; cases hk; omega)
        clear hS hsnd hclo hG hE
        go_wp2_with (first
          | (refine wpList_load_row rfl 22 _ rfl (w.heap.size + 1 + 1) rfl t (bools 32 (hangB g m)) (0, 0) _ ht Try.underlying22 rfl (Try.sizeSet' _) ?_)
          | (refine wpList_store_row rfl 22 _ _ rfl (w.heap.size + 1) (bools 32 (hangB g m)) rfl rfl 22 _ hr4 (Try.sizeSet' _) (by rw [bools_size, bools_size]) (bools_all _ _) ?_))
        refine bodyPost_ret (v := .agg (bools 32 (hangB g m))) (results_cell_row Try.results115 _ _ (w.heap.size + 1) 22 _ (0, 0) _ rfl (heap_setRow hr4) Try.underlying22 rfl (Try.sizeSet' _)) rfl ⟨by rw [E.out], setRow_below hbf (by omega) _⟩
      · have HS0 : Hid (SetAt 32 wo (w.heap.size + 1 + 1) S0) := hS
        have HG0 : Hid (V.grownBy wo (some (w.heap.size + 1 + 1))) := hG
        have HSN : Hid (∀ x, x < 32 → S0 x = true → Hangs g.adj m x) := hsnd
        have HSm : Hid (S0 m = true) := hSm
        clear hS hG hsnd hclo hSm
        go_wp2_with fail
        go_loopw [6, 17] (fun v6 i wr => ∃ (k : Nat) (mo : Bool) (S : Nat → Bool), k ≤ 32 ∧ i = .int .i64 k ∧ v6 = .bool mo ∧ SetAt 32 wr (w.heap.size + 1 + 1) S ∧ Pass g m S0 S mo k [] ∧ V.grownBy wr (some (w.heap.size + 1 + 1))) (fun _ i _ => 32 - (intOf i).toNat)
        case atStart => exact ⟨0, false, S0, Nat.zero_le _, rfl, rfl, HS0.out, Pass.start HSN.out, HG0.out⟩
        case round =>
          obtain ⟨k, mo, S, hk, rfl, rfl, hS, hP, hG⟩ := hrel
          obtain ⟨wm, hwm⟩ : ∃ wm, wm = wr := ⟨_, rfl⟩
          subst hwm
          by_cases hlt : k < 32
          · have k1 : (0 : Int) ≤ (k : Int) ∧ (k : Int) < 32 := by omega
            have c0 := hS.cell hlt
            have kn : wm.cell? ⟨w.heap.size, k, none⟩ = some (.bool (g.known k)) := World.grownBy.cell hG (HK.out k hlt) (by simp; omega)
            obtain ⟨a, cap, hd0, hz0, hl0⟩ := HD.out k hlt
            have d0 : wm.cell? ⟨w.heap.size, 32 + k, none⟩ = some (.slice a (g.deps k).length cap) := World.grownBy.cell hG hd0 (by simp; omega)
            have HSm2 : Hid (SetAt 32 wm (w.heap.size + 1 + 1) S) := hS
            have HGm : Hid (V.grownBy wm (some (w.heap.size + 1 + 1))) := hG
            have HPm : Hid (Pass g m S0 S mo k []) := hP
            clear hS hG hP hd0
            cases tk : S k
            · rw [tk] at c0
              go_wp2_with fail
              go_roundw
              case rel => exact ⟨k + 1, mo, S, by omega, by go_num, rfl, HSm2.out, HPm.out.skip hlt (Or.inl tk), HGm.out⟩
              case measure => simp [intOf]; omega
            · rw [tk] at c0
              cases tg : g.known k
              · rw [tg] at kn
                go_wp2_with fail
                go_roundw
                case rel => exact ⟨k + 1, mo, S, by omega, by go_num, rfl, HSm2.out, HPm.out.skip hlt (Or.inr tg), HGm.out⟩
                case measure => simp [intOf]; omega
              · rw [tg] at kn
                obtain ⟨zs, hzs⟩ : ∃ zs, zs = g.deps k := ⟨_, rfl⟩
                rw [← hzs] at d0 hz0 hl0
                have HZS : Hid (zs = g.deps k) := hzs
                clear hzs
                unfold maxLen at hl0
                have h64 : (zs.length : Int) ≤ 9223372036854775807 := by omega
                rcases hz0 with hnil | ⟨b, off, ha, hbb, hcell⟩
                · subst hnil
                  go_wp2_with fail
                  refine wp_loop_rounds 1 ?_; rw [rounds_succ]
                  go_wp2_with fail
                  go_roundw
                  case rel => exact ⟨k + 1, mo, S, by omega, by go_num, rfl, HSm2.out, Pass.next (by rw [← HZS.out]; exact HPm.out), HGm.out⟩
                  case measure => simp [intOf]; omega
                · rw [ha] at d0
                  have HC : Hid (∀ i, i < zs.length → V.cell? ⟨b, off + i, none⟩ = some (.int .i64 (zs.getD i 0))) := hcell
                  clear ha hcell
                  go_wp2_with fail
                  go_loopw [6, 36] (fun v6 i wr => ∃ (q : Nat) (mo : Bool) (S : Nat → Bool), q ≤ zs.length ∧ i = .int .i64 q ∧ v6 = .bool mo ∧ SetAt 32 wr (w.heap.size + 1 + 1) S ∧ Pass g m S0 S mo k (zs.take q) ∧ S k = true ∧ V.grownBy wr (some (w.heap.size + 1 + 1))) (fun _ i _ => zs.length - (intOf i).toNat)
                  case atStart => exact ⟨0, mo, S, Nat.zero_le _, rfl, rfl, HSm2.out, HPm.out, tk, HGm.out⟩
                  case round =>
                    obtain ⟨q, mo2, T, hq, rfl, rfl, hT, hPq, hTk, hGq⟩ := hrel
                    clear HSm2 HGm HPm c0 tk kn d0
                    have HT : Hid (SetAt 32 wr (w.heap.size + 1 + 1) T) := hT
                    have HPq : Hid (Pass g m S0 T mo2 k (zs.take q)) := hPq
                    have HTk : Hid (T k = true) := hTk
                    have HGq : Hid (V.grownBy wr (some (w.heap.size + 1 + 1))) := hGq
                    by_cases hql : q < zs.length
                    · obtain ⟨z, Hz⟩ : ∃ z : Int, Hid (zs.getD q 0 = z) := ⟨_, rfl⟩
                      have e0 : wr.cell? ⟨b, off + q, none⟩ = some (.int .i64 z) := by
                        rw [World.grownBy.cell hGq (HC.out q hql) (by simp; omega), Hz.out]
                      have HTS : Hid (zs.take (q + 1) = zs.take q ++ [z]) := take_snocI hql Hz.out
                      have HMZ : Hid (z ∈ g.deps k) := by unfold Hid; rw [← HZS.out, ← Hz.out]; exact getD_memI hql
                      by_cases hzr : 0 ≤ z ∧ z < 32
                      · obtain ⟨y, rfl⟩ := Int.eq_ofNat_of_zero_le hzr.1
                        have hy : y < 32 := by omega
                        have y1 : (0 : Int) ≤ (y : Int) ∧ (y : Int) < 32 := hzr
                        have tb : txnB (y : Int) = true := decide_eq_true hzr
                        have c1 := hT.cell hy
                        have f1 := hT.frozen y
                        clear hT hPq hTk hGq
                        cases ty : T y
                        · rw [ty] at c1
                          go_wp2_with (first
                            | (go_at_call 81; refine (isTxn_any _ _).mono ?_; rintro e w' ⟨rfl, rfl⟩))
                          go_roundw
                          case rel =>
                            refine ⟨q + 1, true, fun i => if i = y then true else T i, by omega, by go_num, rfl, HT.out.put y true, by rw [HTS.out]; exact HPq.out.put hlt HTk.out tg hy HMZ.out ty, ?_, grown_put_same HGq.out _ _⟩
                            show (if k = y then true else T k) = true
                            split
                            · rfl
                            · exact HTk.out
                          case measure => simp [intOf]; omega
                        · rw [ty] at c1
                          go_wp2_with (first
                            | (go_at_call 81; refine (isTxn_any _ _).mono ?_; rintro e w' ⟨rfl, rfl⟩))
                          go_roundw
                          case rel => exact ⟨q + 1, mo2, T, by omega, by go_num, rfl, HT.out, by rw [HTS.out]; exact HPq.out.in hy ty, HTk.out, HGq.out⟩
                          case measure => simp [intOf]; omega
                      · have tb : txnB z = false := decide_eq_false hzr
                        clear hT hPq hTk hGq
                        go_wp2_with (first
                          | (go_at_call 81; refine (isTxn_any _ _).mono ?_; rintro e w' ⟨rfl, rfl⟩))
                        go_roundw
                        case rel => exact ⟨q + 1, mo2, T, by omega, by go_num, rfl, HT.out, by rw [HTS.out]; exact HPq.out.out hzr, HTk.out, HGq.out⟩
                        case measure => simp [intOf]; omega
                    · have HPe : Hid (Pass g m S0 T mo2 (k + 1) []) := by
                        have h1 := hPq
                        rw [List.take_of_length_le (by omega), HZS.out] at h1
                        exact h1.next
                      clear hT hPq hTk hGq
                      go_wp2_with fail
                      go_roundw
                      case rel => exact ⟨k + 1, mo2, T, by omega, by go_num, rfl, HT.out, HPe.out, HGq.out⟩
                      case measure => simp [intOf]; omega
          · obtain rfl : k = 32 := by omega
            have hoff0 := off_set HS0.out
            have hoff := off_set hS
            have HP : Hid (Pass g m S0 S mo 32 []) := hP
            have HS : Hid (SetAt 32 wm (w.heap.size + 1 + 1) S) := hS
            have HG : Hid (V.grownBy wm (some (w.heap.size + 1 + 1))) := hG
            have HO : Hid (offAt wm (w.heap.size + 1 + 1) = (List.range 32).countP fun i => !S i) := hoff
            have HO0 : Hid (offAt wo (w.heap.size + 1 + 1) = (List.range 32).countP fun i => !S0 i) := hoff0
            clear hoff hoff0 hS hP hG
            go_wp2
            go_roundw
            case rel =>
              refine ⟨mo, S, rfl, HS.out, HP.out.snd, HP.out.sub m hm HSm.out, fun h x hx hsx y hy => ?_, HG.out⟩
              obtain ⟨h1, h2, _⟩ := HP.out.no h
              rw [h1 y (g.adj_lt _ _ hy)]
              exact h2 x hx hx (by rw [← h1 x hx]; exact hsx) y hy
            case measure =>
              show truthOf (.bool mo) + 2 * offAt wm (w.heap.size + 1 + 1) < truthOf (.bool true) + 2 * offAt wo (w.heap.size + 1 + 1)
              rw [HO.out, HO0.out]
              cases mo
              · have h1 := (HP.out.no rfl).1
                have : (List.range 32).countP (fun i => !S i) = (List.range 32).countP (fun i => !S0 i) := List.countP_congr fun i hi => by rw [h1 i (List.mem_range.1 hi)]
                rw [this]
                simp [truthOf]
              · obtain ⟨i, hi, h1, h2⟩ := HP.out.yes rfl
                have : (List.range 32).countP (fun i => !S i) < (List.range 32).countP (fun i => !S0 i) := by
                  refine countP_less (fun x hx h => ?_) ⟨i, List.mem_range.2 hi, by simp [h2], by simp [h1]⟩
                  cases h0 : S0 x
                  · rfl
                  · rw [HP.out.sub x (List.mem_range.1 hx) h0] at h; cases h
                simp only [truthOf]
                omega
  · have tb : txnB n = false := decide_eq_false ht
    have E : Hid (bools 32 (reachI g n) = bools 32 fun _ => false) := by
      unfold Hid
      congr 1
      funext j
      unfold reachI
      have : txnB' n = false := decide_eq_false ht
      rw [this]
      rfl
    clear hr1 hz
    go_wp2_with (first
      | (go_at_call 81; refine (isTxn_any _ _).mono ?_; rintro e w' ⟨rfl, rfl⟩)
      | (refine wpList_load_row rfl 22 _ rfl (w.heap.size + 1 + 1) rfl 22 (bools 32 fun _ => false) (0, 0) _ hr3 Try.underlying22 rfl (Try.sizeSet' _) ?_)
      | (refine wpList_store_row rfl 22 _ _ rfl (w.heap.size + 1) (bools 32 fun _ => false) rfl rfl 22 _ hr2 (Try.sizeSet' _) rfl (bools_all _ _) ?_))
    refine bodyPost_ret (v := .agg (bools 32 fun _ => false)) (results_cell_row Try.results115 _ _ (w.heap.size + 1) 22 _ (0, 0) _ rfl (heap_setRow hr2) Try.underlying22 rfl (Try.sizeSet' _)) rfl ⟨by rw [E.out], setRow_below hb (by omega) _⟩

end Go.Proofs.Ytkoefoccbjhoiab

namespace Go.Proofs.Ytkoefoccbjhoiab
open Go.RowKit

theorem ready_known {g : GraphL} {n : Int} : readyI g n = (txnB n && knowsB g (reachI g n) 32) := by
  have e : txnB n = txnB' n := rfl
  rw [e]
  unfold readyI
  cases h : txnB' n
  · rfl
  · rw [Bool.true_and, Bool.true_and]
    congr 1
    funext j
    unfold reachI
    rw [h]
    rfl

set_option maxRecDepth 100000 in
set_option maxHeartbeats 1000000 in
theorem readyIn_any (gv : Nat → Value) (g : GraphL) (n : Int) (w : World) (hg : GraphC w.heap.size w gv g) :
    Calls Try.prog 114 #[.agg (rowF 64 gv), .int .i64 n] w fun e w' => e = .returned (.bool (readyI g n)) ∧ Below w.heap.size w w' := by
  obtain ⟨gr, hgr⟩ : ∃ gr, gr = rowF 64 gv := ⟨_, rfl⟩
  rw [← hgr]
  have hsg := Try.sizeGraph gv
  rw [← hgr] at hsg
  have HGR : Hid (gr = rowF 64 gv) := hgr
  clear hgr
  have hb : Below w.heap.size w (w.alloc (.cells gr 26)) := (Below.refl _ _).alloc (Nat.le_refl _) _
  have hr1 : (w.alloc (.cells gr 26)).heap[w.heap.size]? = some (.cells gr 26 (0, 0)) := heap_new _ _
  have hz : (w.alloc (.cells gr 26)).heap.size = w.heap.size + 1 := size_push _ _
  go_enter Try.func114, Try.ntmps114
  go_upto_region 1 with fail
  obtain ⟨W, hW⟩ : ∃ W, W = w.alloc (.cells gr 26) := ⟨_, rfl⟩
  rw [← hW] at hr1 hb hz ⊢
  clear hW
  have hre := reaches_any gv g n W ((hg.later hb).mono (by omega))
  rw [← HGR.out] at hre
  have ER : Hid (readyI g n = (txnB n && knowsB g (reachI g n) 32)) := ready_known
  have HK : Hid (∀ i, i < 32 → W.cell? ⟨w.heap.size, i, none⟩ = some (.bool (g.known i))) := by
    intro i hi
    rw [cell_of_row W _ i _ _ _ hr1, HGR.out, rowF_get gv (by omega), hg.known i hi]
  obtain ⟨S, hS⟩ : ∃ S, S = reachI g n := ⟨_, rfl⟩
  rw [← hS] at hre ER
  clear hS hg
  go_wp2_with (first
    | (refine wpList_load_row rfl 26 _ rfl w.heap.size rfl 26 gr (0, 0) _ hr1 Try.underlying26 rfl hsg ?_))
  refine hre.mono ?_
  rintro e w1 ⟨rfl, hb1⟩
  have HB1 : Hid (Below w.heap.size w w1) := hb.trans (hb1.mono (by omega))
  have HK1 : Hid (∀ i, i < 32 → w1.cell? ⟨w.heap.size, i, none⟩ = some (.bool (g.known i))) := fun i hi => by rw [hb1.cell (p := ⟨w.heap.size, i, none⟩) (by show w.heap.size < W.heap.size; omega)]; exact HK.out i hi
  clear hre hb hb1 hr1 hz HK
  go_wp2_with fail
  go_loop [10] (fun v => ∃ k : Nat, k ≤ 32 ∧ v = .int .i64 k ∧ knowsB g S k = true) (fun v => 32 - (intOf v).toNat)
  case atStart => exact ⟨0, Nat.zero_le _, rfl, rfl⟩
  case round =>
    obtain ⟨k, hk, rfl, hko⟩ := hrel
    by_cases hlt : k < 32
    · have hix := fun wx => run_index_bools Try.underlying22 Try.underlying4 Try.infoBool S hlt wx
      have c0 := HK1.out k hlt
      have k1 : (0 : Int) ≤ (k : Int) ∧ (k : Int) < 32 := by omega
      have HKO : Hid (knowsB g S k = true) := hko
      clear hko
      cases tk : S k
      · rw [tk] at hix
        go_wp2_with fail
        go_round
        case rel => exact ⟨k + 1, by omega, by go_num, knowsB_hit HKO.out (by rw [tk]; rfl)⟩
        case measure => simp [intOf]; omega
      · rw [tk] at hix
        cases tg : g.known k
        · rw [tg] at c0
          have HF : Hid (readyI g n = false) := by unfold Hid; rw [ER.out, knowsB_miss hlt (by rw [tk, tg]; rfl), Bool.and_false]
          go_wp2_with fail
          go_ret
          exact ⟨ret_bool HF.out.symm, HB1.out⟩
        · rw [tg] at c0
          go_wp2_with fail
          go_round
          case rel => exact ⟨k + 1, by omega, by go_num, knowsB_hit HKO.out (by rw [tk, tg]; rfl)⟩
          case measure => simp [intOf]; omega
    · have e : k = 32 := by omega
      subst e
      have HKO : Hid (readyI g n = txnB n) := by unfold Hid; rw [ER.out, hko, Bool.and_true]
      clear hko
      go_wp2_with (first
        | (go_at_call 81; refine (isTxn_any _ _).mono ?_; rintro e w' ⟨rfl, rfl⟩))
      go_ret
      exact ⟨ret_bool HKO.out.symm, HB1.out⟩

end Go.Proofs.Ytkoefoccbjhoiab
