/-
  The document's own answer of being in the way, and ours.
  The contract of the document's own 'before'.
  The contracts of the document's own graphOf and GraphOf.
  The contract of the document's own IsFrame.
-/
import Derived.Test.YtgdkjjmnoikhdabRep20
import Derived.Test.YtgdkjjmnoikhdabRep13
import Derived.Test.YtgdkjjmnoikhdabRep14
import Derived.Test.YtgdkjjmnoikhdabRep11
import Derived.Test.YtgdkjjmnoikhdabRep25
import Derived.Test.YtgdkjjmnoikhdabRep24
import Derived.Deep.Cut
namespace Go.Proofs.Ytgdkjjmnoikhdab
open Go.RowKit

theorem way_conflict (a b : List OpL) (s : Int) : wayL a b s = conflictL a b s := by
  unfold wayL conflictL
  congr 1
  funext x
  unfold conflictB meetsL
  rw [Bool.eq_iff_iff, List.any_eq_true, Bool.and_eq_true, List.any_eq_true]
  unfold wayB meetB
  simp only [Bool.and_eq_true, beq_iff_eq, Bool.not_eq_true', Bool.or_eq_true, bne_iff_ne, ne_eq, Bool.and_eq_false_iff, beq_eq_false_iff_ne]
  constructor
  · rintro ⟨y, hy, ⟨h1, h2⟩, h3⟩
    exact ⟨h2, y, hy, h1, h3⟩
  · rintro ⟨h2, y, hy, h1, h3⟩
    exact ⟨y, hy, ⟨h1, h2⟩, h3⟩

end Go.Proofs.Ytgdkjjmnoikhdab

namespace Go.Proofs.Ytgdkjjmnoikhdab
open Go.RowKit

set_option maxRecDepth 100000 in
set_option maxHeartbeats 1000000 in
theorem ref_before_any (nv : Nat → Value) (s : NodeL) (id : Nat) (a3 : Option Addr) (c3 : Nat) (ops : List OpL) (sh : Int) (w : World) (h : NodeC (· < w.heap.size) w nv s) (h3 : SlOps w a3 c3 ops) :
    Calls Try.prog 51 #[.agg (rowF 201 nv), .int .i64 id, .slice a3 ops.length c3, .int .i64 sh] w fun r w' => ∃ x, r = .returned x ∧ w'.ownsRow w.heap.size 3 1 x (s.ahead id ops sh).length (intCells (s.ahead id ops sh)) ∧ Below w.heap.size w w' := by
  obtain ⟨i0, hi, hz0, hz1, hz2⟩ := info_parts Try.infoInt
  obtain ⟨p, hp⟩ : ∃ p : Nat → Bool, p = fun n => n != id && decide (0 < (s.ent n).state) && conflictL (s.ent n).ops ops sh := ⟨_, rfl⟩
  have HA : Hid (s.ahead id ops sh = unionTo p 32) := by rw [hp]; rfl
  have HP : Hid (p = fun n => n != id && decide (0 < (s.ent n).state) && conflictL (s.ent n).ops ops sh) := hp
  rw [HA.out]
  clear hp
  obtain ⟨gr, hgr⟩ : ∃ gr, gr = rowF 201 nv := ⟨_, rfl⟩
  rw [← hgr]
  obtain ⟨W, hW⟩ : ∃ W, W = w.alloc (.cells gr 41) := ⟨_, rfl⟩
  have hbW : Below w.heap.size w W := by rw [hW]; exact (Below.refl _ _).alloc (Nat.le_refl _) _
  have hzW : W.heap.size = w.heap.size + 1 := by rw [hW]; exact size_push _ _
  have HBlk : Hid (BlkAt 201 W w.heap.size nv) := ⟨41, by rw [hW, ← hgr]; exact heap_new _ _⟩
  have HW : Hid (W = w.alloc (.cells gr 41)) := hW
  have HN : Hid (NodeC (· < w.heap.size) w nv s) := h
  have H3 : Hid (SlOps w a3 c3 ops) := h3
  clear hW hgr h h3
  go_enter Try.func51, Try.ntmps51
  go_upto_region 2 with fail
  rw [← HW.out]
  clear HW
  go_wp2_with fail
  go_loopw [9, 11] (fun u i wr => ∃ k : Nat, k ≤ 32 ∧ i = .int .i64 k ∧ wr.ownsRow (w.heap.size + 1) 3 1 u (unionTo p k).length (intCells (unionTo p k)) ∧ Below (w.heap.size + 1) W wr) (fun _ i _ => 32 - (intOf i).toNat)
  case atStart => exact ⟨0, Nat.zero_le _, rfl, World.ownsRow_nil _ _ _ _, Below.refl _ _⟩
  case round =>
    obtain ⟨k, hk, rfl, hown, hB⟩ := hrel
    have hzr := hB.size
    have HBr : Hid (BlkAt 201 wr w.heap.size nv) := HBlk.out.later hB (by omega)
    by_cases hlt : k < 32
    · have n1 : (0 : Int) ≤ (k : Int) ∧ (k : Int) < 32 := by omega
      have hl := unionTo_len p k
      have c0 := HBr.out.cell (i := k * 6) (by omega)
      have c1 := HBr.out.cell (i := k * 6 + 1) (by omega)
      have es : nv (k * 6) = .int .i64 (s.ent k).state := (HN.out.es.ent k hlt).state
      rw [es] at c0
      obtain ⟨a1, d1, e1, hs1⟩ := (HN.out.es.ent k hlt).ops.sl
      rw [e1] at c1
      have hbw : Below w.heap.size w wr := hbW.trans (hB.mono (by omega))
      have HO1 : Hid (SlOps wr a1 d1 (s.ent k).ops) := hs1.later hbw
      have HO3 : Hid (SlOps wr a3 c3 ops) := H3.out.later hbw
      have HPK : Hid (p k = (k != id && decide (0 < (s.ent k).state) && conflictL (s.ent k).ops ops sh)) := by unfold Hid; rw [HP.out]
      clear es e1 hs1 hbw
      by_cases te : k = id
      · have de : ((k : Int) != (id : Int)) = false := by simp [te]
        have PF : Hid (p k = false) := by unfold Hid; rw [HPK.out, te]; simp
        clear te
        go_wp2
        go_roundw
        case rel => exact ⟨k + 1, by omega, by go_num, by rw [unionTo_miss PF.out]; exact hown, hB⟩
        case measure => simp [intOf]; omega
      · have de : ((k : Int) != (id : Int)) = true := by simp; omega
        have te' : (k != id) = true := by simpa using te
        clear te
        by_cases ts : 0 < (s.ent k).state
        · have ds : decide (0 < (s.ent k).state) = true := by simpa using ts
          have PE : Hid (p k = conflictL (s.ent k).ops ops sh) := by unfold Hid; rw [HPK.out, te', ds]; simp
          clear ts te' HPK
          go_wp2_with fail
          refine (inWay_any a1 d1 (s.ent k).ops a3 c3 ops sh _ HO1.out.2.1 HO1.out.1 HO3.out.2.1 HO3.out.1).mono ?_
          rintro e w3 ⟨rfl, hb3⟩
          rw [way_conflict]
          generalize hcf : conflictL (s.ent k).ops ops sh = cf at PE ⊢
          have hz3 := hb3.size
          have hb4 : Below (w.heap.size + 1) W w3 := hB.trans (hb3.mono (by omega))
          have own3 : w3.ownsRow (w.heap.size + 1) 3 1 u9 (unionTo p k).length (intCells (unionTo p k)) := own_same hown (fun j hj => hb3.block j (World.ownsRow.lt hown j hj).2)
          clear hcf hown hb3 hB c0 c1 HBr HO1 HO3
          cases cf
          · have PF : Hid (p k = false) := PE
            go_wp2
            go_roundw
            case rel => exact ⟨k + 1, by omega, by go_num, by rw [unionTo_miss PF.out]; exact own3, hb4⟩
            case measure => simp [intOf]; omega
          · have HM : Hid (unionTo p (k + 1) = unionTo p k ++ [(k : Int)]) := unionTo_hit PE.out
            go_wp2_with (first
              | (at_builtin; refine wpList_append_own _ rfl _ _ 23 rfl (w.heap.size + 1) 3 i0 (.int .i64 0) 1 8 Try.underlying23 hi hz0 hz1 hz2 rfl (by decide) _ _ _ rfl (own3.alloc _) ⟨w3.heap.size, 0, none⟩ 1 1 [.int .i64 k] rfl rfl ?c1 ?c2 ?c3 ?c4 ?c5 ?_)
              | go_in)
            case c1 => exact World.news_of_block (cs := #[.int .i64 k]) (t := 3) (fr := (0, 0)) (heap_new w3 _)
            case c2 => exact one_int _
            case c3 => unfold maxLen; omega
            case c4 => omega
            case c5 => rw [size_push]; omega
            · intro v' w5 hown' hgrow _
              have hB' : Below (w.heap.size + 1) W w5 := (hb4.alloc (by omega) _).grown hgrow (by rw [size_push]; omega) (owns_block own3)
              clear hgrow own3
              go_wp2
              go_roundw
              case rel => exact ⟨k + 1, by omega, by go_num, by rw [HM.out, intCells_snoc, List.length_append]; exact hown', hB'⟩
              case measure => simp [intOf]; omega
        · have ds : decide (0 < (s.ent k).state) = false := by simpa using ts
          have PF : Hid (p k = false) := by unfold Hid; rw [HPK.out, ds]; simp
          clear ts te' HPK
          go_wp2
          go_roundw
          case rel => exact ⟨k + 1, by omega, by go_num, by rw [unionTo_miss PF.out]; exact hown, hB⟩
          case measure => simp [intOf]; omega
    · obtain rfl : k = 32 := by omega
      go_wp2
      go_ret
      exact ⟨_, rfl, own_mono hown (by omega), hbW.trans (hB.mono (by omega))⟩

end Go.Proofs.Ytgdkjjmnoikhdab

namespace Go.Proofs.Ytgdkjjmnoikhdab
open Go.RowKit

/-- In the midst of it: the first k are done. -/
structure RgInv (w0 W : World) (nv : Nat → Value) (s : NodeL) (gv : Nat → Value) (k : Nat) (w : World) : Prop where
  blk : BlkAt 64 w (w0.heap.size + 2) gv
  known : ∀ i, i < k → gv i = .bool (decide (2 ≤ (s.ent i).state))
  deps : ∀ i, i < k → gv (32 + i) = nv (i * 6 + 3)
  grown : W.grownBy w (some (w0.heap.size + 2))

set_option maxRecDepth 100000 in
set_option maxHeartbeats 1000000 in
theorem ref_graphOf_any {ok : Nat → Prop} (nv : Nat → Value) (s : NodeL) (w : World) (h : NodeE ok w nv s) :
    Calls Try.prog 52 #[.agg (rowF 201 nv)] w fun r w' => ∃ gv, r = .returned (.agg (rowF 64 gv)) ∧ GraphIn ok w' gv s.graph ∧ Below w.heap.size w w' := by
  obtain ⟨gr, hgr⟩ : ∃ gr, gr = rowF 201 nv := ⟨_, rfl⟩
  obtain ⟨zr, hzr⟩ : ∃ zr, zr = rowF 64 zg := ⟨_, rfl⟩
  have hz0 := Try.zeroGraph
  rw [← hgr]
  rw [← hzr] at hz0
  have HG : Hid (gr = rowF 201 nv) := hgr
  have HZ : Hid (zr = rowF 64 zg) := hzr
  have HN : Hid (NodeE ok w nv s) := h
  clear hgr hzr h
  obtain ⟨W, hW⟩ : ∃ W, W = ((w.alloc (.cells gr 41)).alloc (.cells zr 26)).alloc (.cells zr 26) := ⟨_, rfl⟩
  obtain ⟨r0, r1, r2⟩ := rows3 w (.cells gr 41) (.cells zr 26) (.cells zr 26)
  rw [← hW] at r0 r1 r2
  have hb : Below w.heap.size w W := by rw [hW]; exact (((Below.refl _ _).alloc (Nat.le_refl _) _).alloc (by rw [size_push]; omega) _).alloc (by rw [size_push, size_push]; omega) _
  have hzW : W.heap.size = w.heap.size + 3 := by rw [hW, size_push, size_push, size_push]
  have H0 : Hid (RgInv w W nv s zg 0 W) := ⟨⟨26, by rw [← HZ.out]; exact r2⟩, fun i hi => by omega, fun i hi => by omega, World.grownBy.refl _ _⟩
  have HBlk : Hid (BlkAt 201 W w.heap.size nv) := ⟨41, by rw [← HG.out]; exact r0⟩
  have HR1 : Hid (W.heap[w.heap.size + 1]? = some (.cells zr 26 (0, 0))) := r1
  have HBW : Hid (Below w.heap.size w W) := hb
  have HW : Hid (W = ((w.alloc (.cells gr 41)).alloc (.cells zr 26)).alloc (.cells zr 26)) := hW
  clear hW r0 r1 r2 hb
  go_enter Try.func52, Try.ntmps52
  go_upto_region 2 with (first
    | (refine wpList_alloc_as rfl 26 rfl zr hz0 ?_)
    | fail)
  rw [← HW.out]
  clear HW hz0
  go_wp2_with fail
  go_loopw [5] (fun i wr => ∃ (k : Nat) (gv : Nat → Value), k ≤ 32 ∧ i = .int .i64 k ∧ Hid (RgInv w W nv s gv k wr)) (fun i _ => 32 - (intOf i).toNat)
  case atStart => exact ⟨0, zg, Nat.zero_le _, rfl, H0⟩
  case round =>
    obtain ⟨k, gv, hk, rfl, H⟩ := hrel
    clear H0
    have hgz := H.out.grown.size
    have HBr : Hid (BlkAt 201 wr w.heap.size nv) := by
      obtain ⟨t, ht⟩ := HBlk.out
      exact ⟨t, by rw [H.out.grown.block _ (by omega) (by simp)]; exact ht⟩
    by_cases hlt : k < 32
    · have n1 : (0 : Int) ≤ (k : Int) ∧ (k : Int) < 32 := by omega
      have c0 := HBr.out.cell (i := k * 6) (by omega)
      have c3 := HBr.out.cell (i := k * 6 + 3) (by omega)
      have es : nv (k * 6) = .int .i64 (s.ent k).state := (HN.out.ent k hlt).state
      rw [es] at c0
      obtain ⟨a3, d3, e3, _⟩ := (HN.out.ent k hlt).deps.sl
      rw [e3] at c3
      have E3 : Hid (nv (k * 6 + 3) = .slice a3 (s.ent k).deps.length d3) := e3
      have f0 := H.out.blk.cell (i := k) (by omega)
      have f1 := H.out.blk.frozen k
      clear es e3
      go_upto_region 6 with fail
      obtain ⟨X, hX⟩ : ∃ X, X = wr.setCell ⟨w.heap.size + 1 + 1, k, none⟩ (.bool (decide (1 < (s.ent k).state))) := ⟨_, rfl⟩
      rw [← hX]
      have hd : decide (1 < (s.ent k).state) = decide (2 ≤ (s.ent k).state) := by congr 1
      have BX : BlkAt 64 X (w.heap.size + 2) (fun i => if i = k then .bool (decide (2 ≤ (s.ent k).state)) else gv i) := by rw [hX, hd]; exact H.out.blk.put k _
      have GX : W.grownBy X (some (w.heap.size + 2)) := by rw [hX]; exact grown_put_same H.out.grown _ _
      have x3 : X.cell? ⟨w.heap.size, k * 6 + 3, none⟩ = some (.slice a3 (s.ent k).deps.length d3) := by
        obtain ⟨t, ht⟩ := HBlk.out
        have hx : BlkAt 201 X w.heap.size nv := ⟨t, by rw [GX.block _ (by omega) (by simp)]; exact ht⟩
        rw [hx.cell (by omega), E3.out]
      have f2 := BX.cell (i := 32 + k) (by omega)
      have f3 := BX.frozen (32 + k)
      rw [if_neg (by omega)] at f2
      have HN1 : Hid (RgInv w W nv s (fun i => if i = 32 + k then .slice a3 (s.ent k).deps.length d3 else if i = k then .bool (decide (2 ≤ (s.ent k).state)) else gv i) (k + 1) (X.setCell ⟨w.heap.size + 2, 32 + k, none⟩ (.slice a3 (s.ent k).deps.length d3))) := by
        refine ⟨BX.put (32 + k) _, fun i hi => ?_, fun i hi => ?_, grown_put_same GX _ _⟩
        · show (if i = 32 + k then _ else if i = k then _ else gv i) = _
          rw [if_neg (by omega)]
          by_cases e : i = k
          · subst e; rw [if_pos rfl]
          · rw [if_neg e]; exact H.out.known i (by omega)
        · show (if 32 + i = 32 + k then _ else if 32 + i = k then _ else gv (32 + i)) = _
          by_cases e : i = k
          · subst e; rw [if_pos rfl, E3.out]
          · rw [if_neg (by omega), if_neg (by omega)]; exact H.out.deps i (by omega)
      clear hX hd BX GX c0 c3 f0 f1 H HBr
      go_wp2_with fail
      go_roundw
      case rel => exact ⟨k + 1, _, by omega, by go_num, HN1⟩
      case measure => simp [intOf]; omega
    · obtain rfl : k = 32 := by omega
      obtain ⟨t, hblk⟩ := H.out.blk
      have hres : wr.heap[w.heap.size + 1]? = some (.cells zr 26 (0, 0)) := by rw [H.out.grown.block _ (by omega) (by simp)]; exact HR1.out
      obtain ⟨fr, hfr⟩ : ∃ fr, fr = rowF 64 gv := ⟨_, rfl⟩
      have hsize : (Try.prog.info? 26).map (·.size) = some fr.size := by rw [hfr, rowF_size]; exact Try.infoGraph
      have hzs : zr.size = fr.size := by rw [hfr, HZ.out, rowF_size, rowF_size]
      have hbr : Below w.heap.size w wr := HBW.out.grown H.out.grown (by omega) (by intro k hk; cases hk; omega)
      have hbf : Below w.heap.size w (wr.setRow (w.heap.size + 1) fr) := setRow_below hbr (by omega) _
      have GI : GraphIn ok (wr.setRow (w.heap.size + 1) fr) gv s.graph := ⟨fun i hi => H.out.known i hi, fun i hi => by rw [H.out.deps i hi]; exact (HN.out.ent i hi).deps.later (SameOn.of_size hbf)⟩
      have hone : fr.all (·.oneCell') = true := by rw [hfr]; exact rowF_all GI.one
      rw [← hfr] at hblk
      have HFR : Hid (fr = rowF 64 gv) := hfr
      have HF : Hid (GraphIn ok (wr.setRow (w.heap.size + 1) fr) gv s.graph ∧ Below w.heap.size w (wr.setRow (w.heap.size + 1) fr)) := ⟨GI, hbf⟩
      clear hfr GI H hbr hbf
      go_wp2_with (first
        | (refine wpList_load_row rfl 26 _ rfl (w.heap.size + 2) rfl t fr (0, 0) _ hblk Try.underlying26 rfl hsize ?_)
        | (refine wpList_store_row rfl 26 _ _ rfl (w.heap.size + 1) fr rfl rfl 26 _ hres hsize hzs hone ?_))
      refine bodyPost_ret (v := .agg fr) (results_cell_row Try.results52 _ _ (w.heap.size + 1) 26 _ (0, 0) _ rfl (heap_setRow hres) Try.underlying26 rfl hsize) rfl ⟨gv, by rw [HFR.out], HF.out⟩

end Go.Proofs.Ytgdkjjmnoikhdab

namespace Go.Proofs.Ytgdkjjmnoikhdab
open Go.RowKit

def risesB : Int → List Int → Bool
  | _, [] => true
  | l, n :: r => (decide (l < n) && decide (n < 4)) && risesB n r
theorem told_split : ∀ (xs vs : List Int) (l : Int), vs.length = xs.length → toldFrom l xs vs = (risesB l xs && vs.all valB)
  | [], [], l, _ => by simp [toldFrom, risesB]
  | [], _ :: _, _, h => by simp at h
  | _ :: _, [], _, h => by simp at h
  | a :: xs, v :: vs, l, h => by
    have ih := told_split xs vs a (by simpa using h)
    rw [toldFrom, risesB, ih, List.all_cons]
    have e : (!(decide (a ≤ l) || decide (4 ≤ a))) = (decide (l < a) && decide (a < 4)) := by
      rw [Bool.eq_iff_iff]
      simp
    rw [e]
    unfold valB
    generalize decide (l < a) = x
    generalize decide (a < 4) = y
    generalize decide (-1099511627776 ≤ v ∧ v ≤ 1099511627776) = z
    cases x <;> cases y <;> cases z <;> simp

def okAll (f : FrameL) : Bool := goodOpsF f && goodDepsF f && decide (f.kind = 5 ∨ f.ats.length = 0)
theorem isframe_end {f : FrameL} (h1 : ¬ (f.kind < 1 ∨ 5 < f.kind)) (h2 : ¬ (f.node < 0 ∨ 6 ≤ f.node ∨ f.id < 0 ∨ 32 ≤ f.id)) :
    goodL f = if okAll f && risesB (-1) f.ats && f.vals.all valB && decide (f.ats.length = f.vals.length) then 0 else 1 := by
  unfold goodL okAll
  rw [if_neg h1, if_neg h2]
  unfold goodToldF
  by_cases hl : f.vals.length = f.ats.length
  · rw [told_split _ _ _ hl, decide_eq_true hl, decide_eq_true hl.symm]
    congr 1
    rw [Bool.true_and, Bool.and_true]
    generalize goodOpsF f = a
    generalize goodDepsF f = b
    generalize decide (f.kind = 5 ∨ f.ats.length = 0) = c
    generalize risesB (-1) f.ats = d
    generalize f.vals.all valB = e
    cases a <;> cases b <;> cases c <;> cases d <;> cases e <;> rfl
  · have hl' : ¬ f.ats.length = f.vals.length := fun h => hl h.symm
    simp [hl, hl']

theorem rises_step {xs : List Int} {k : Nat} {q l : Int} {T t : Bool} (hk : k < xs.length) (hq : xs.getD k 0 = q) (h : T = (t && risesB l (xs.drop k))) : T = ((t && (decide (l < q) && decide (q < 4))) && risesB q (xs.drop (k + 1))) := by
  rw [h, drop_at hk hq, risesB]
  generalize decide (l < q) = x
  generalize decide (q < 4) = y
  cases t <;> cases x <;> cases y <;> simp
theorem rises_fin {xs : List Int} {k : Nat} {l : Int} {T t : Bool} (hk : ¬ k < xs.length) (h : T = (t && risesB l (xs.drop k))) : T = t := by
  rw [h, List.drop_of_length_le (by omega)]
  simp [risesB]
theorem vals_step {xs : List Int} {k : Nat} {q : Int} {T t : Bool} (hk : k < xs.length) (hq : xs.getD k 0 = q) (h : T = (t && (xs.drop k).all valB)) : T = ((t && valB q) && (xs.drop (k + 1)).all valB) := by
  rw [h, drop_at hk hq, List.all_cons]
  cases t <;> simp
theorem vals_fin {xs : List Int} {k : Nat} {T t : Bool} (hk : ¬ k < xs.length) (h : T = (t && (xs.drop k).all valB)) : T = t := by
  rw [h, List.drop_of_length_le (by omega)]
  simp

set_option maxRecDepth 100000 in
set_option maxHeartbeats 2000000 in
theorem isFrame_any (v : Value) (f : FrameL) (w : World) (hv : FrameV w v f) :
    Calls Try.prog 48 #[v] w fun e w' => e = .returned (.int .i64 (goodL f)) ∧ Below w.heap.size w w' := by
  have hb0 := frame_box w
  obtain ⟨a3, c3, a4, c4, a5, c5, a6, c6, rfl, h3, h4, h5, h6⟩ := hv
  obtain ⟨kind, node, id, ops, deps, ats, vals⟩ := f
  simp only at h3 h4 h5 h6
  by_cases g1 : kind < 1
  · have E : Hid (goodL ⟨kind, node, id, ops, deps, ats, vals⟩ = 3) := by unfold Hid goodL; rw [if_pos (by simp only; omega)]
    go_enter Try.func48, Try.ntmps48
    go_wp2
    go_ret
    exact ⟨ret_int E.out.symm, hb0 _⟩
  by_cases g2 : 5 < kind
  · have E : Hid (goodL ⟨kind, node, id, ops, deps, ats, vals⟩ = 3) := by unfold Hid goodL; rw [if_pos (by simp only; omega)]
    go_enter Try.func48, Try.ntmps48
    go_wp2
    go_ret
    exact ⟨ret_int E.out.symm, hb0 _⟩
  by_cases g3 : node < 0
  · have E : Hid (goodL ⟨kind, node, id, ops, deps, ats, vals⟩ = 2) := by unfold Hid goodL; rw [if_neg (by simp only; omega), if_pos (by simp only; omega)]
    go_enter Try.func48, Try.ntmps48
    go_wp2
    go_ret
    exact ⟨ret_int E.out.symm, hb0 _⟩
  by_cases g4 : 5 < node
  · have E : Hid (goodL ⟨kind, node, id, ops, deps, ats, vals⟩ = 2) := by unfold Hid goodL; rw [if_neg (by simp only; omega), if_pos (by simp only; omega)]
    go_enter Try.func48, Try.ntmps48
    go_wp2
    go_ret
    exact ⟨ret_int E.out.symm, hb0 _⟩
  go_enter Try.func48, Try.ntmps48
  go_wp2_with fail
  refine (isTxn_any id _).mono ?_
  rintro e w1 ⟨rfl, hw⟩
  subst hw
  cases tt : txnB id
  · have hid : ¬ (0 ≤ id ∧ id < 32) := by unfold txnB at tt; simpa using tt
    have E : Hid (goodL ⟨kind, node, id, ops, deps, ats, vals⟩ = 2) := by unfold Hid goodL; rw [if_neg (by simp only; omega), if_pos (by simp only; omega)]
    clear hid
    go_wp2
    go_ret
    exact ⟨ret_int E.out.symm, hb0 _⟩
  have hid : 0 ≤ id ∧ id < 32 := by unfold txnB at tt; simpa using tt
  have EE : Hid (goodL ⟨kind, node, id, ops, deps, ats, vals⟩ = if okAll ⟨kind, node, id, ops, deps, ats, vals⟩ && risesB (-1) ats && vals.all valB && decide (ats.length = vals.length) then 0 else 1) :=
    isframe_end (f := ⟨kind, node, id, ops, deps, ats, vals⟩) (by simp only; omega) (by simp only; omega)
  clear hid
  obtain ⟨W, hW⟩ : ∃ W, W = w.alloc (.cells #[.int .i64 kind, .int .i64 node, .int .i64 id, .slice a3 ops.length c3, .slice a4 deps.length c4, .slice a5 ats.length c5, .slice a6 vals.length c6] 43) := ⟨_, rfl⟩
  have f1 : FAt W w.heap.size kind node id (.slice a3 ops.length c3) (.slice a4 deps.length c4) (.slice a5 ats.length c5) (.slice a6 vals.length c6) := by rw [hW]; exact ⟨_, heap_new _ _⟩
  have hb1 : Below w.heap.size w W := by rw [hW]; exact hb0 _
  have HO : Hid (goodOpsF ⟨kind, node, id, ops, deps, ats, vals⟩ = if (kind == 1 || kind == 3) = true then goodOpsL ops else decide (ops.length = 0)) := by unfold Hid goodOpsF; simp
  have HD : Hid (goodDepsF ⟨kind, node, id, ops, deps, ats, vals⟩ = if (kind == 2 || kind == 3) = true then risingFrom (-1) deps && !hasL deps id else decide (deps.length = 0)) := by unfold Hid goodDepsF; simp
  have HA : Hid (okAll ⟨kind, node, id, ops, deps, ats, vals⟩ = (goodOpsF ⟨kind, node, id, ops, deps, ats, vals⟩ && goodDepsF ⟨kind, node, id, ops, deps, ats, vals⟩ && decide (kind = 5 ∨ ats.length = 0))) := rfl
  generalize hfo : goodOpsF ⟨kind, node, id, ops, deps, ats, vals⟩ = O at *
  generalize hfd : goodDepsF ⟨kind, node, id, ops, deps, ats, vals⟩ = D at *
  generalize hfa : okAll ⟨kind, node, id, ops, deps, ats, vals⟩ = A at *
  clear hfo hfd hfa
  have l3 := h3.2.1
  have l4 := h4.2.1
  have l5 := h5.2.1
  have l6 := h6.2.1
  unfold maxLen at l3 l4 l5 l6
  go_upto_region 6 with fail
  rw [← hW]
  clear hW hb0 tt
  obtain ⟨q0, q1, q2, q3, q4, q5, q6⟩ := f1.cell
  go_cut [38] from 9 (fun s wc => s = .bool (kind == 1 || kind == 3) ∧ wc = W)
  case first =>
    cases t1 : kind == 1
    · cases t2 : kind == 3
      all_goals
        go_wp2
        go_meet
        case rel => exact ⟨by rw [t1, t2]; rfl, rfl⟩
    · go_wp2
      go_meet
      case rel => exact ⟨by rw [t1]; rfl, rfl⟩
  case rest =>
    obtain ⟨hcs, hcw⟩ := hcut
    subst hcs hcw
    go_upto_if 38 with fail
    go_cut [3] from 9 (fun s wc => s = .bool O ∧ Below w.heap.size w wc ∧ FAt wc w.heap.size kind node id (.slice a3 ops.length c3) (.slice a4 deps.length c4) (.slice a5 ats.length c5) (.slice a6 vals.length c6))
    case first =>
      cases t1 : kind == 1 || kind == 3
      · have EO : Hid (O = decide (ops.length = 0)) := by unfold Hid; rw [HO.out, t1]; rfl
        go_wp2
        go_meet
        case rel =>
          refine ⟨?_, hb1, f1⟩
          rw [EO.out]
          congr 1
          rw [Bool.eq_iff_iff]
          simp
      · have EO : Hid (O = goodOpsL ops) := by unfold Hid; rw [HO.out, t1]; rfl
        go_wp2_with fail
        refine (isOps_any a3 c3 ops _ h3.2.1 (h3.later hb1).1 h3.2.2.1).mono ?_
        rintro e w2 ⟨rfl, hc⟩
        have hb2 := hb1.trans (hc.mono hb1.size)
        have f2 := f1.block (hc.block _ f1.lt)
        clear hc
        go_wp2
        go_meet
        case rel => exact ⟨by rw [EO.out], hb2, f2⟩
    case rest =>
      obtain ⟨hcs, hb2, f2⟩ := hcut
      subst hcs
      clear q0 q1 q2 q3 q4 q5 q6 f1 hb1
      obtain ⟨q0, q1, q2, q3, q4, q5, q6⟩ := f2.cell
      obtain ⟨X, hX⟩ : ∃ X, X = wc := ⟨_, rfl⟩
      subst hX
      go_upto_region 9 with fail
      go_cut [53] from 9 (fun s wc => s = .bool (kind == 2 || kind == 3) ∧ wc = X)
      case first =>
        cases t1 : kind == 2
        · cases t2 : kind == 3
          all_goals
            go_wp2
            go_meet
            case rel => exact ⟨by rw [t1, t2]; rfl, rfl⟩
        · go_wp2
          go_meet
          case rel => exact ⟨by rw [t1]; rfl, rfl⟩
      case rest =>
        obtain ⟨hcs, hcw⟩ := hcut
        subst hcs hcw
        have z4 := (h4.later hb2).1
        go_upto_if 53 with fail
        go_cut [3] from 9 (fun s wc' => s = .bool (O && D) ∧ wc' = wc)
        case first =>
          cases t1 : kind == 2 || kind == 3
          · have ED : Hid (D = decide (deps.length = 0)) := by unfold Hid; rw [HD.out, t1]; rfl
            cases O
            · go_wp2
              go_meet
              case rel => exact ⟨rfl, rfl⟩
            · go_wp2
              go_meet
              case rel =>
                refine ⟨?_, rfl⟩
                rw [ED.out]
                congr 1
                rw [Bool.eq_iff_iff]
                simp
          · have ED : Hid (D = (risingFrom (-1) deps && !hasL deps id)) := by unfold Hid; rw [HD.out, t1]; rfl
            cases O
            · go_wp2
              go_meet
              case rel => exact ⟨rfl, rfl⟩
            · go_wp2_with fail
              refine (isRising_any a4 c4 deps _ h4.2.1 z4).mono ?_
              rintro e wx ⟨rfl, hw⟩
              subst hw
              cases t2 : risingFrom (-1) deps
              · go_wp2
                go_meet
                case rel => exact ⟨by rw [ED.out, t2]; rfl, rfl⟩
              · go_wp2_with fail
                refine (ref_has a4 c4 deps id _ h4.2.1 z4).mono ?_
                rintro e wx ⟨rfl, hw⟩
                subst hw
                go_wp2
                go_meet
                case rel => exact ⟨by rw [ED.out, t2]; rfl, rfl⟩
        case rest =>
          obtain ⟨hcs, hcw⟩ := hcut
          subst hcs hcw
          clear z4
          go_upto_if 77 with fail
          have HA2 : Hid (A = ((O && D) && decide (kind = 5 ∨ ats.length = 0))) := HA.out
          generalize (O && D) = B at *
          go_cut [3] from 9 (fun s wc' => s = .bool A ∧ wc' = wc)
          case first =>
            cases t1 : kind != 5
            · have k5 : kind = 5 := by simpa using t1
              have EA : Hid (A = B) := by unfold Hid; rw [HA2.out, decide_eq_true (Or.inl k5), Bool.and_true]
              clear k5
              go_wp2
              go_meet
              case rel => exact ⟨by rw [EA.out], rfl⟩
            · have k5 : ¬ kind = 5 := by simpa using t1
              have EA : Hid (A = (B && decide (ats.length = 0))) := by unfold Hid; rw [HA2.out]; simp [k5]
              clear k5
              cases B
              · go_wp2
                go_meet
                case rel => exact ⟨by rw [EA.out]; rfl, rfl⟩
              · go_wp2
                go_meet
                case rel =>
                  refine ⟨?_, rfl⟩
                  rw [EA.out]
                  congr 1
                  rw [Bool.eq_iff_iff]
                  simp
          case rest =>
            obtain ⟨hcs, hcw⟩ := hcut
            subst hcs hcw
            clear HA HA2 HO HD
            have z5 := (h5.later hb2).1
            have z6 := (h6.later hb2).1
            go_wp2_with fail
            go_loop [3, 4, 88] (fun o l i => ∃ (k : Nat) (q : Int) (t : Bool), k ≤ ats.length ∧ i = .int .i64 k ∧ l = .int .i64 q ∧ o = .bool t ∧ Hid ((A && risesB (-1) ats) = (t && risesB q (ats.drop k)))) (fun _ _ i => ats.length - (intOf i).toNat)
            case atStart => exact ⟨0, -1, A, Nat.zero_le _, rfl, rfl, rfl, rfl⟩
            case round =>
              obtain ⟨k, l, t, hk, rfl, rfl, rfl, HR⟩ := hrel
              by_cases hlt : k < ats.length
              · obtain ⟨q, Hq, b, off, rfl, e0⟩ := IntsAt.get z5 hlt
                have HN : Hid ((A && risesB (-1) ats) = ((t && (decide (l < q) && decide (q < 4))) && risesB q (ats.drop (k + 1)))) := rises_step hlt Hq.out HR.out
                cases t
                · go_wp2
                  go_round
                  case rel => exact ⟨k + 1, q, false, by omega, by go_num, rfl, rfl, by rw [HN.out]; rfl⟩
                  case measure => simp [intOf]; omega
                · by_cases x1 : l < q
                  · by_cases x2 : q < 4
                    · go_wp2
                      go_round
                      case rel => exact ⟨k + 1, q, true, by omega, by go_num, rfl, by simp, by rw [HN.out, decide_eq_true x1, decide_eq_true x2]; rfl⟩
                      case measure => simp [intOf]; omega
                    · go_wp2
                      go_round
                      case rel => exact ⟨k + 1, q, false, by omega, by go_num, rfl, by simp, by rw [HN.out, decide_eq_false x2]; simp [Hid]⟩
                      case measure => simp [intOf]; omega
                  · go_wp2
                    go_round
                    case rel => exact ⟨k + 1, q, false, by omega, by go_num, rfl, by simp, by rw [HN.out, decide_eq_false x1]; rfl⟩
                    case measure => simp [intOf]; omega
              · have EA : Hid ((A && risesB (-1) ats) = t) := rises_fin hlt HR.out
                clear HR
                go_wp2_with fail
                go_loop [3, 107] (fun o i => ∃ (k : Nat) (t' : Bool), k ≤ vals.length ∧ i = .int .i64 k ∧ o = .bool t' ∧ Hid ((t && vals.all valB) = (t' && (vals.drop k).all valB))) (fun _ i => vals.length - (intOf i).toNat)
                case atStart => exact ⟨0, t, Nat.zero_le _, rfl, rfl, rfl⟩
                case round =>
                  obtain ⟨k2, t2, hk2, rfl, rfl, HR⟩ := hrel
                  by_cases hlt2 : k2 < vals.length
                  · obtain ⟨u, Hu, b, off, rfl, e0⟩ := IntsAt.get z6 hlt2
                    have HN : Hid ((t && vals.all valB) = ((t2 && valB u) && (vals.drop (k2 + 1)).all valB)) := vals_step hlt2 Hu.out HR.out
                    cases t2
                    · go_wp2
                      go_round
                      case rel => exact ⟨k2 + 1, false, by omega, by go_num, rfl, by rw [HN.out]; rfl⟩
                      case measure => simp [intOf]; omega
                    · have HV : Hid (valB u = (near u == u)) := by unfold Hid valB; rw [beq_flip, near_eq]
                      go_wp2_with fail
                      refine (bound_any u _).mono ?_
                      rintro e wx ⟨rfl, hw⟩
                      subst hw
                      cases tv : near u == u
                      all_goals
                        go_wp2
                        go_round
                        case rel => exact ⟨k2 + 1, _, by omega, by go_num, rfl, by rw [HN.out, HV.out, tv]; rfl⟩
                        case measure => simp [intOf]; omega
                  · have EB : Hid ((t && vals.all valB) = t2) := vals_fin hlt2 HR.out
                    have EG : Hid (goodL ⟨kind, node, id, ops, deps, ats, vals⟩ = if (t2 && decide (ats.length = vals.length)) = true then 0 else 1) := by
                      unfold Hid
                      rw [EE.out, EA.out, EB.out]
                    clear HR EE EA EB
                    cases t2
                    · have EG2 : Hid (goodL ⟨kind, node, id, ops, deps, ats, vals⟩ = 1) := by unfold Hid; rw [EG.out]; rfl
                      go_wp2
                      go_ret
                      exact ⟨ret_int EG2.out.symm, hb2⟩
                    · cases tl : (ats.length : Int) != (vals.length : Int)
                      · have hl : ats.length = vals.length := by simp at tl; omega
                        have EG2 : Hid (goodL ⟨kind, node, id, ops, deps, ats, vals⟩ = 0) := by unfold Hid; rw [EG.out, decide_eq_true hl]; rfl
                        clear hl
                        go_wp2
                        go_ret
                        exact ⟨ret_int EG2.out.symm, hb2⟩
                      · have hl : ¬ ats.length = vals.length := by simp at tl; omega
                        have EG2 : Hid (goodL ⟨kind, node, id, ops, deps, ats, vals⟩ = 1) := by unfold Hid; rw [EG.out, decide_eq_false hl]; rfl
                        clear hl
                        go_wp2
                        go_ret
                        exact ⟨ret_int EG2.out.symm, hb2⟩

end Go.Proofs.Ytgdkjjmnoikhdab
