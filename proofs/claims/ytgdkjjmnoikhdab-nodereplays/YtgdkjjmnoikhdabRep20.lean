/-
  The contract of package wire's Decode.
  The contract of node's Replay.
  The contracts of the document's own small answers (ShardOf, OfNode, bound, DoOp, TouchesShard, InWay).
-/
import Derived.Test.YtgdkjjmnoikhdabRep19
import Derived.Test.YtgdkjjmnoikhdabRep7
namespace Go.Proofs.Ytgdkjjmnoikhdab
open Go.RowKit

theorem SlInts.beside {w w' : World} {b : Nat} {a : Option Addr} {cap : Nat} {zs : List Int} (h : SlInts w a cap zs) (hf : ∀ x, a = some x → b < x.block) (hs : w.heap.size ≤ w'.heap.size) (hb : ∀ k, b < k → k < w.heap.size → w'.heap[k]? = w.heap[k]?) : SlInts w' a cap zs := by
  refine ⟨?_, h.2⟩
  rcases h.1 with h1 | ⟨g, off, ha, hg, hc⟩
  · exact Or.inl h1
  · have := hf _ ha
    refine Or.inr ⟨g, off, ha, Nat.lt_of_lt_of_le hg hs, fun i hi => ?_⟩
    rw [World.cell?_of_block (w := w) (a := ⟨g, off + i, none⟩) (hb g this hg)]
    exact hc i hi
theorem SlOps.beside {w w' : World} {b : Nat} {a : Option Addr} {cap : Nat} {zs : List OpL} (h : SlOps w a cap zs) (hf : ∀ x, a = some x → b < x.block) (hs : w.heap.size ≤ w'.heap.size) (hb : ∀ k, b < k → k < w.heap.size → w'.heap[k]? = w.heap[k]?) : SlOps w' a cap zs := by
  refine ⟨?_, h.2⟩
  rcases h.1 with h1 | ⟨g, off, ha, hg, hc⟩
  · exact Or.inl h1
  · have := hf _ ha
    refine Or.inr ⟨g, off, ha, Nat.lt_of_lt_of_le hg hs, fun i hi => ?_⟩
    rw [World.cell?_of_block (w := w) (a := ⟨g, off + i * 3, none⟩) (hb g this hg), World.cell?_of_block (w := w) (a := ⟨g, off + i * 3 + 1, none⟩) (hb g this hg), World.cell?_of_block (w := w) (a := ⟨g, off + i * 3 + 2, none⟩) (hb g this hg)]
    exact hc i hi
theorem FrameV.beside {w w' : World} {b : Nat} {v : Value} {f : FrameL} (h : FrameV w v f) (hf : FarV (b + 1) v) (hs : w.heap.size ≤ w'.heap.size) (hb : ∀ k, b < k → k < w.heap.size → w'.heap[k]? = w.heap[k]?) : FrameV w' v f := by
  obtain ⟨a3, c3, a4, c4, a5, c5, a6, c6, e, h3, h4, h5, h6⟩ := h
  have g := hf _ e
  exact ⟨a3, c3, a4, c4, a5, c5, a6, c6, e, h3.beside (fun x hx => g 3 x _ _ (by rw [hx]; rfl)) hs hb, h4.beside (fun x hx => g 4 x _ _ (by rw [hx]; rfl)) hs hb, h5.beside (fun x hx => g 5 x _ _ (by rw [hx]; rfl)) hs hb, h6.beside (fun x hx => g 6 x _ _ (by rw [hx]; rfl)) hs hb⟩

theorem put7_below {w w1 : World} {b B : Nat} {x0 x1 x2 x3 x4 x5 x6 : Value} (h : Below B w w1) (hb : B ≤ b) : Below B w (put7 w1 b x0 x1 x2 x3 x4 x5 x6) :=
  ((((((h.setCell hb _).setCell hb _).setCell hb _).setCell hb _).setCell hb _).setCell hb _).setCell hb _
theorem zero_frame (w : World) : FrameV w (.agg #[.int .i64 0, .int .i64 0, .int .i64 0, .slice none 0 0, .slice none 0 0, .slice none 0 0, .slice none 0 0]) zeroF :=
  ⟨none, 0, none, 0, none, 0, none, 0, rfl, ⟨Or.inl rfl, Nat.zero_le _, Nat.le_refl _, fun _ => ⟨rfl, rfl⟩⟩, ⟨Or.inl rfl, Nat.zero_le _, Nat.le_refl _, fun _ => ⟨rfl, rfl⟩⟩, ⟨Or.inl rfl, Nat.zero_le _, Nat.le_refl _, fun _ => ⟨rfl, rfl⟩⟩, ⟨Or.inl rfl, Nat.zero_le _, Nat.le_refl _, fun _ => ⟨rfl, rfl⟩⟩⟩

set_option maxRecDepth 100000 in
set_option maxHeartbeats 2000000 in
theorem decode_any (l : List UInt8) (w : World) :
    Calls Try.prog 64 #[.string (str l)] w fun e w' => ∃ v, e = .returned (.tuple #[v, .int .i64 (decE l)]) ∧ FrameV w' v (decL l) ∧ Below w.heap.size w w' := by
  have HK : Hid (okL l = (!((⟨l, false⟩ : Rd).end_.short || !(⟨l, false⟩ : Rd).end_.rest.isEmpty) && (goodL (⟨l, false⟩ : Rd).frame == 0))) := rfl
  have HD : Hid (decL l = if okL l = true then (⟨l, false⟩ : Rd).frame else zeroF) := rfl
  have HE : Hid (decE l = if okL l = true then 0 else 1) := rfl
  obtain ⟨r, hr⟩ : ∃ r : Rd, r = ⟨l, false⟩ := ⟨_, rfl⟩
  rw [← hr] at HK HD
  go_enter Try.func64, Try.ntmps64
  go_wp2_with fail
  have hrd : RdAt ((w.alloc (.cells #[.int .i64 0, .int .i64 0, .int .i64 0, .slice none 0 0, .slice none 0 0, .slice none 0 0, .slice none 0 0] 43)).alloc (.cells #[.string (str l), .bool false] 105)) (w.heap.size + 1) r := by rw [hr]; exact ⟨_, heap_new2 _ _ _⟩
  refine (frame_any (w.heap.size + 1) r _ hrd).mono ?_
  rintro e w1 ⟨v1, rfl, hv1, hr1, hg1, hfar⟩
  have hz1 : FAt w1 w.heap.size 0 0 0 (.slice none 0 0) (.slice none 0 0) (.slice none 0 0) (.slice none 0 0) :=
    ⟨43, by rw [hg1.block w.heap.size (by rw [alloc_size, alloc_size]; omega) (by simp), Below.heap_alloc _ _ _ (by rw [alloc_size]; omega), heap_new]⟩
  have hB1 : Below w.heap.size w w1 := (((Below.refl w.heap.size w).alloc (Nat.le_refl _) _).alloc (by rw [alloc_size]; omega) _).grown hg1 (by rw [alloc_size, alloc_size]; omega) (by simp)
  have hl1 : w.heap.size + 1 + 1 ≤ w1.heap.size := by have := hg1.size; rw [alloc_size, alloc_size] at this; exact this
  have hfar1 : FarV (w.heap.size + 1) v1 := fun cs h i x n c hx => by have := hfar cs h i x n c hx; rw [alloc_size, alloc_size] at this; omega
  clear hg1 hfar hrd
  generalize r.frame = f at *
  generalize r.end_ = rn at *
  obtain ⟨a3, c3, a4, c4, a5, c5, a6, c6, e1, hs⟩ := id hv1
  obtain ⟨kind, node, id, ops, deps, ats, vals⟩ := f
  simp only at e1
  subst e1
  clear hs hr
  have hr2 := fun o => hr1.alloc o
  have hv2 := fun o => hv1.later (frame_box w1 o)
  have hz2 := fun o => hz1.block (w' := w1.alloc o) (Below.heap_alloc _ _ _ hz1.lt)
  have hB2 := fun o => hB1.alloc (o := o) (by omega)
  have hne : ¬ w.heap.size + 1 = w1.heap.size := by omega
  have hne' : ¬ w.heap.size = w1.heap.size := by omega
  have s2 := fun o => (hr2 o).short
  have t2 := fun o => (hr2 o).rest
  have g0 := fun o => (hz2 o).cell.1
  have g1 := fun o => (hz2 o).cell.2.1
  have g2 := fun o => (hz2 o).cell.2.2.1
  have g3 := fun o => (hz2 o).cell.2.2.2.1
  have g4 := fun o => (hz2 o).cell.2.2.2.2.1
  have g5 := fun o => (hz2 o).cell.2.2.2.2.2.1
  have g6 := fun o => (hz2 o).cell.2.2.2.2.2.2
  have y0 := fun o => (hz2 o).frozen 0
  have y1 := fun o => (hz2 o).frozen 1
  have y2 := fun o => (hz2 o).frozen 2
  have y3 := fun o => (hz2 o).frozen 3
  have y4 := fun o => (hz2 o).frozen 4
  have y5 := fun o => (hz2 o).frozen 5
  have y6 := fun o => (hz2 o).frozen 6
  obtain ⟨rest, short⟩ := rn
  clear hr2 hr1
  cases short with
  | true =>
    have E : Hid (okL l = false) := by unfold Hid; rw [HK.out]; rfl
    have E1 : Hid (decE l = 1) := by unfold Hid; rw [HE.out, E.out]; rfl
    have E2 : Hid (decL l = zeroF) := by unfold Hid; rw [HD.out, E.out]; rfl
    clear HK HD HE
    go_wp2
    refine bodyPost_ret (v := .tuple #[.agg #[.int .i64 0, .int .i64 0, .int .i64 0, .slice none 0 0, .slice none 0 0, .slice none 0 0, .slice none 0 0], .int .i64 1]) (by simp [results, Try.results64, go_sem, *]) rfl ⟨_, by rw [E1.out], by rw [E2.out]; exact zero_frame _, ?_⟩
    exact put7_below (hB2 _) (Nat.le_refl _)
  | false =>
    cases rest with
    | cons x t =>
      have E : Hid (okL l = false) := by unfold Hid; rw [HK.out]; rfl
      have E1 : Hid (decE l = 1) := by unfold Hid; rw [HE.out, E.out]; rfl
      have E2 : Hid (decL l = zeroF) := by unfold Hid; rw [HD.out, E.out]; rfl
      have e0 := str_empty (x :: t)
      clear HK HD HE
      go_wp2
      refine bodyPost_ret (v := .tuple #[.agg #[.int .i64 0, .int .i64 0, .int .i64 0, .slice none 0 0, .slice none 0 0, .slice none 0 0, .slice none 0 0], .int .i64 1]) (by simp [results, Try.results64, go_sem, *]) rfl ⟨_, by rw [E1.out], by rw [E2.out]; exact zero_frame _, ?_⟩
      exact put7_below (hB2 _) (Nat.le_refl _)
    | nil =>
      have e0 := str_empty []
      have f2 : FAt (w1.alloc (.cells #[.int .i64 kind, .int .i64 node, .int .i64 id, .slice a3 ops.length c3, .slice a4 deps.length c4, .slice a5 ats.length c5, .slice a6 vals.length c6] 43)) w1.heap.size kind node id (.slice a3 ops.length c3) (.slice a4 deps.length c4) (.slice a5 ats.length c5) (.slice a6 vals.length c6) := ⟨_, heap_new _ _⟩
      go_wp2_with fail
      refine (wgood_any _ _ _ (hv2 _)).mono ?_
      rintro e w3 ⟨rfl, hc⟩
      have hB3 := (hB2 (.cells #[.int .i64 kind, .int .i64 node, .int .i64 id, .slice a3 ops.length c3, .slice a4 deps.length c4, .slice a5 ats.length c5, .slice a6 vals.length c6] 43)).trans (hc.mono (by rw [alloc_size]; omega))
      have hz3 := (hz2 (.cells #[.int .i64 kind, .int .i64 node, .int .i64 id, .slice a3 ops.length c3, .slice a4 deps.length c4, .slice a5 ats.length c5, .slice a6 vals.length c6] 43)).block (hc.block _ (by rw [alloc_size]; omega))
      have hv3 := (hv2 (.cells #[.int .i64 kind, .int .i64 node, .int .i64 id, .slice a3 ops.length c3, .slice a4 deps.length c4, .slice a5 ats.length c5, .slice a6 vals.length c6] 43)).later hc
      have f3 := f2.block (hc.block _ f2.lt)
      clear hc f2 hB2 hz2 hv2 g0 g1 g2 g3 g4 g5 g6 y0 y1 y2 y3 y4 y5 y6 s2 t2 hB1 hz1 hv1
      obtain ⟨q0, q1, q2, q3, q4, q5, q6⟩ := f3.cell
      obtain ⟨g0, g1, g2, g3, g4, g5, g6⟩ := hz3.cell
      have y0 := hz3.frozen 0
      have y1 := hz3.frozen 1
      have y2 := hz3.frozen 2
      have y3 := hz3.frozen 3
      have y4 := hz3.frozen 4
      have y5 := hz3.frozen 5
      have y6 := hz3.frozen 6
      clear e0
      cases tg : goodL ⟨kind, node, id, ops, deps, ats, vals⟩ != 0
      · have E : Hid (okL l = true) := by unfold Hid; rw [HK.out]; simp at tg; simp [tg]
        have E1 : Hid (decE l = 0) := by unfold Hid; rw [HE.out, E.out]; rfl
        have E2 : Hid (decL l = ⟨kind, node, id, ops, deps, ats, vals⟩) := by unfold Hid; rw [HD.out, E.out]; rfl
        have HV : Hid (∀ x0 x1 x2 x3 x4 x5 x6, FrameV (put7 w3 w.heap.size x0 x1 x2 x3 x4 x5 x6) _ _) := fun x0 x1 x2 x3 x4 x5 x6 => hv3.beside (b := w.heap.size) hfar1 (by simp [put7, World.setCell]) (fun k hk _ => put7_block (by omega))
        clear HK HD HE hv3 hfar1
        go_wp2
        refine bodyPost_ret (v := .tuple #[.agg #[.int .i64 kind, .int .i64 node, .int .i64 id, .slice a3 ops.length c3, .slice a4 deps.length c4, .slice a5 ats.length c5, .slice a6 vals.length c6], .int .i64 0]) (by simp [results, Try.results64, go_sem, *]) rfl ⟨_, by rw [E1.out], by rw [E2.out]; exact HV.out _ _ _ _ _ _ _, ?_⟩
        exact put7_below hB3 (Nat.le_refl _)
      · have E : Hid (okL l = false) := by unfold Hid; rw [HK.out]; simp at tg; simp [tg]
        have E1 : Hid (decE l = 1) := by unfold Hid; rw [HE.out, E.out]; rfl
        have E2 : Hid (decL l = zeroF) := by unfold Hid; rw [HD.out, E.out]; rfl
        clear HK HD HE hv3 hfar1
        go_wp2
        refine bodyPost_ret (v := .tuple #[.agg #[.int .i64 0, .int .i64 0, .int .i64 0, .slice none 0 0, .slice none 0 0, .slice none 0 0, .slice none 0 0], .int .i64 1]) (by simp [results, Try.results64, go_sem, *]) rfl ⟨_, by rw [E1.out], by rw [E2.out]; exact zero_frame _, ?_⟩
        exact put7_below hB3 (Nat.le_refl _)

end Go.Proofs.Ytgdkjjmnoikhdab

namespace Go.Proofs.Ytgdkjjmnoikhdab
open Go.RowKit

/-- P5.4. -/
def replayFrom (who : Int) : NodeL → List (List UInt8) → NodeL × Int
  | s, [] => (s, 0)
  | s, t :: r => if decE t ≠ 0 then (zeroN, decE t) else if (takeN s who (decL t)).2.2 ≠ 0 then (zeroN, (takeN s who (decL t)).2.2) else replayFrom who (takeN s who (decL t)).1 r
def replayN (who : Int) (l : List (List UInt8)) : NodeL × Int := if nodeB who = false then (zeroN, 2) else replayFrom who zeroN l

/-- A list of texts in memory. -/
def TxIn (B : Nat) (w : World) (a : Option Addr) (zs : List (List UInt8)) : Prop := zs = [] ∨ ∃ b off, a = some ⟨b, off, none⟩ ∧ b < B ∧ ∀ i, i < zs.length → w.cell? ⟨b, off + i, none⟩ = some (.string (str (zs.getD i [])))
theorem TxIn.later {B : Nat} {w w' : World} {a : Option Addr} {zs : List (List UInt8)} (h : TxIn B w a zs) (hb : Below B w w') : TxIn B w' a zs := by
  rcases h with h | ⟨b, off, ha, hlt, hc⟩
  · exact Or.inl h
  · exact Or.inr ⟨b, off, ha, hlt, fun i hi => by rw [hb.cell (p := ⟨b, off + i, none⟩) hlt]; exact hc i hi⟩
theorem drop_tx {zs : List (List UInt8)} {k : Nat} {t : List UInt8} (hk : k < zs.length) (ht : zs.getD k [] = t) : zs.drop k = t :: zs.drop (k + 1) := by
  rw [List.drop_eq_getElem_cons hk]
  have : zs[k] = t := by rw [← ht]; simp [List.getD, hk]
  rw [this]

theorem results_row1 {P : Program} {fn : Func} {p q : Tmp} {ty : TypeId} (h : fn.results = #[.cell p ty, .tmp q]) (tmps : Array Value) (w : World) (g : Nat) (t : TypeId) (cs : Array Value) (fr : Nat × Nat) (d : TypeDesc)
    (hp : tmps.getD p undef = .pointer (some ⟨g, 0, none⟩)) (hg : w.heap[g]? = some (.cells cs t fr)) (hu : P.underlying ty = some d) (hd : (match d with | .struct _ | .array _ _ => true | _ => false) = true) (hi : (P.info? ty).map (·.size) = some cs.size)
    (x : Value) (hx : tmps.getD q undef = x) : (results fn tmps).run P w = .ok (.tuple #[.agg cs, x]) w := by
  have hp' : tmps[p]?.getD undef = .pointer (some ⟨g, 0, none⟩) := by simpa using hp
  have hx' : tmps[q]?.getD undef = x := by simpa using hx
  simp [results, h, hp', hx', asAddr, run_loadVar_row w g t ty cs fr d hg hu hd hi]

set_option maxRecDepth 100000 in
set_option maxHeartbeats 2000000 in
theorem replay_any (who : Int) (a : Option Addr) (cap : Nat) (zs : List (List UInt8)) (w : World) (hl : zs.length ≤ maxLen) (hz : TxIn w.heap.size w a zs) :
    Calls Try.prog 28 #[.int .i64 who, .slice a zs.length cap] w fun r w' => ∃ nv', r = .returned (.tuple #[.agg (rowF 201 nv'), .int .i64 (replayN who zs).2]) ∧ NodeC (· < w'.heap.size) w' nv' (replayN who zs).1 ∧ Below w.heap.size w w' := by
  unfold maxLen at hl
  obtain ⟨zr, hzr⟩ : ∃ zr, zr = rowF 201 zv := ⟨_, rfl⟩
  have hz0 := Try.zeroNode
  rw [← hzr] at hz0
  have hzc := Try.zcNode
  rw [← hzr] at hzc
  have hsz : (Try.prog.info? 41).map (·.size) = some zr.size := by rw [hzr, rowF_size]; exact Try.infoNode
  have honz : zr.all (·.oneCell') = true := by rw [hzr]; exact rowF_all (zero_node (fun _ => True) w).one
  have HZR : Hid (zr = rowF 201 zv) := hzr
  obtain ⟨R, hR⟩ : ∃ R, R = replayN who zs := ⟨_, rfl⟩
  have HR : Hid (R = replayN who zs) := hR
  rw [← hR]
  have HZ : Hid (TxIn w.heap.size w a zs) := hz
  clear hzr hR hz
  cases tn : nodeB who
  · have E : Hid (R = (zeroN, 2)) := by unfold Hid; rw [HR.out]; unfold replayN; rw [if_pos tn]
    have r0 : (w.alloc (.cells zr 41)).heap[w.heap.size]? = some (.cells zr 41 (0, 0)) := heap_new _ _
    have hb : Below w.heap.size w ((w.alloc (.cells zr 41)).setRow w.heap.size zr) := setRow_below ((Below.refl _ _).alloc (Nat.le_refl _) _) (Nat.le_refl _) _
    go_enter Try.func28, Try.ntmps28
    go_wp2_with (first
      | (go_at_call 63; refine (isNode_any _ _).mono ?_; rintro e w' ⟨rfl, hw⟩; rw [hw]; clear hw)
      | (refine wpList_alloc_as rfl 41 rfl zr hz0 ?_)
      | (refine wpList_store_row rfl 41 _ _ rfl w.heap.size zr rfl rfl 41 _ r0 hsz rfl honz ?_))
    refine bodyPost_ret (v := .tuple #[.agg zr, .int .i64 2]) (results_row1 Try.results28 _ _ w.heap.size 41 zr (0, 0) _ rfl (heap_setRow r0) Try.underlying41 rfl hsz _ rfl) rfl ⟨zv, by rw [HZR.out, E.out], by rw [E.out]; exact zero_node _ _, hb⟩
  · have E : Hid (R = replayFrom who zeroN zs) := by unfold Hid; rw [HR.out]; unfold replayN; rw [if_neg (by rw [tn]; decide)]
    obtain ⟨W, hW⟩ : ∃ W, W = (w.alloc (.cells zr 41)).alloc (.cells zr 41) := ⟨_, rfl⟩
    obtain ⟨r0, r1⟩ := two_rows w (.cells zr 41) (.cells zr 41)
    rw [← hW] at r0 r1
    have hbW : Below w.heap.size w W := by rw [hW]; exact ((Below.refl _ _).alloc (Nat.le_refl _) _).alloc (by rw [size_push]; omega) _
    have HW : Hid (W = (w.alloc (.cells zr 41)).alloc (.cells zr 41)) := hW
    have hzW : W.heap.size = w.heap.size + 2 := by rw [hW, size_push, size_push]
    have HN0 : Hid (NodeC (fun b => w.heap.size + 1 < b) W zv zeroN) := zero_node _ _
    clear hW
    go_enter Try.func28, Try.ntmps28
    go_upto_region 4 with (first
      | (go_at_call 63; refine (isNode_any _ _).mono ?_; rintro e w' ⟨rfl, hw⟩; rw [hw]; clear hw)
      | (refine wpList_alloc_as rfl 41 rfl zr hz0 ?_))
    rw [← HW.out]
    clear HW
    go_wp2_with fail
    go_loopw [17] (fun i wr => ∃ (k : Nat) (mv : Nat → Value) (s : NodeL), k ≤ zs.length ∧ i = .int .i64 k ∧ wr.heap[w.heap.size]? = some (.cells zr 41 (0, 0)) ∧ Hid (wr.heap[w.heap.size + 1]? = some (.cells (rowF 201 mv) 41 (0, 0))) ∧
        Hid (NodeC (fun b => w.heap.size + 1 < b) wr mv s) ∧ Below w.heap.size w wr ∧ Hid (R = replayFrom who s (zs.drop k))) (fun i _ => zs.length - (intOf i).toNat)
    case atStart => exact ⟨0, zv, zeroN, Nat.zero_le _, rfl, r0, by rw [← HZR.out]; exact r1, HN0, hbW, E⟩
    case round =>
      obtain ⟨k, mv, s, hk, rfl, q0, q1, HN, hB, HE⟩ := hrel
      clear r0 r1 HN0
      have hlt1 : w.heap.size + 1 < wr.heap.size := (Array.getElem?_eq_some_iff.1 q1.out).1
      obtain ⟨mr, hmr⟩ : ∃ mr, mr = rowF 201 mv := ⟨_, rfl⟩
      have q1r : wr.heap[w.heap.size + 1]? = some (.cells mr 41 (0, 0)) := by rw [hmr]; exact q1.out
      have hsm : (Try.prog.info? 41).map (·.size) = some mr.size := by rw [hmr, rowF_size]; exact Try.infoNode
      have HMR : Hid (mr = rowF 201 mv) := hmr
      clear hmr q1
      by_cases hlt : k < zs.length
      · rcases HZ.out with e | ⟨b, off, rfl, hbb, hc⟩
        · rw [e] at hlt; simp at hlt
        obtain ⟨t, Ht⟩ : ∃ t, Hid (zs.getD k [] = t) := ⟨_, rfl⟩
        have e0 : wr.cell? ⟨b, off + k, none⟩ = some (.string (str t)) := by rw [hB.cell (p := ⟨b, off + k, none⟩) hbb, hc k hlt, Ht.out]
        have HDr : Hid (zs.drop k = t :: zs.drop (k + 1)) := drop_tx hlt Ht.out
        clear hc
        go_wp2_with fail
        refine (decode_any t wr).mono ?_
        rintro r x1 ⟨v, rfl, hfv, hb1⟩
        obtain ⟨f, hf⟩ : ∃ f, f = decL t := ⟨_, rfl⟩
        rw [← hf] at hfv
        have HF : Hid (f = decL t) := hf
        have HFV : Hid (∀ wx, Below x1.heap.size x1 wx → FrameV wx v f) := fun wx hx => hfv.later hx
        obtain ⟨a3, c3, a4, c4, a5, c5, a6, c6, rfl, _⟩ := hfv
        have hz1 := hb1.size
        clear hf
        by_cases td : decE t = 0
        · have dd : (decE t == 0) = true := by simpa using td
          have HTD : Hid (decE t = 0) := td
          clear td
          obtain ⟨X, hX⟩ : ∃ X, X = x1.alloc (.cells #[.int .i64 f.kind, .int .i64 f.node, .int .i64 f.id, .slice a3 f.ops.length c3, .slice a4 f.deps.length c4, .slice a5 f.ats.length c5, .slice a6 f.vals.length c6] 43) := ⟨_, rfl⟩
          have HX : Hid (X = x1.alloc (.cells #[.int .i64 f.kind, .int .i64 f.node, .int .i64 f.id, .slice a3 f.ops.length c3, .slice a4 f.deps.length c4, .slice a5 f.ats.length c5, .slice a6 f.vals.length c6] 43)) := hX
          have hbX : Below wr.heap.size wr X := by rw [hX]; exact hb1.alloc (by omega) _
          have hX1 : Below x1.heap.size x1 X := by rw [hX]; exact (Below.refl _ _).alloc (Nat.le_refl _) _
          have hzX := hbX.size
          clear hX
          have p0 : X.heap[w.heap.size]? = some (.cells zr 41 (0, 0)) := by rw [hbX.block _ (by omega)]; exact q0
          have p1 : X.heap[w.heap.size + 1]? = some (.cells mr 41 (0, 0)) := by rw [hbX.block _ (by omega)]; exact q1r
          go_wp2_with (first
            | (refine wpList_load_row rfl 41 _ rfl (w.heap.size + 1) rfl 41 mr (0, 0) _ (by rw [← HX.out]; exact p1) Try.underlying41 rfl hsm ?_))
          rw [← HX.out, HMR.out]
          have hto := take_new mv s who _ f X (HN.out.any.below hbX) (HFV.out X hX1)
          refine hto.mono ?_
          clear hto
          rintro r y ⟨nv', x, rfl, hn, _, hby⟩
          obtain ⟨s1, hs1⟩ : ∃ s1, s1 = (takeN s who f).1 := ⟨_, rfl⟩
          obtain ⟨e1, he1⟩ : ∃ e1, e1 = (takeN s who f).2.2 := ⟨_, rfl⟩
          rw [← hs1] at hn
          rw [← he1]
          have HS1 : Hid (s1 = (takeN s who f).1) := hs1
          have HE1 : Hid (e1 = (takeN s who f).2.2) := he1
          obtain ⟨er, her⟩ : ∃ er, er = rowF 201 nv' := ⟨_, rfl⟩
          rw [← her]
          have hse : (Try.prog.info? 41).map (·.size) = some er.size := by rw [her, rowF_size]; exact Try.infoNode
          have honee : er.all (·.oneCell') = true := by rw [her]; exact rowF_all hn.one
          have hze : mr.size = er.size := by rw [HMR.out, her, rowF_size, rowF_size]
          have y0 : y.heap[w.heap.size]? = some (.cells zr 41 (0, 0)) := by rw [hby.block _ (by omega)]; exact p0
          have y1 : y.heap[w.heap.size + 1]? = some (.cells mr 41 (0, 0)) := by rw [hby.block _ (by omega)]; exact p1
          obtain ⟨Y, hY⟩ : ∃ Y, Y = y.setRow (w.heap.size + 1) er := ⟨_, rfl⟩
          have HY : Hid (Y = y.setRow (w.heap.size + 1) er) := hY
          have HNY : Hid (NodeC (fun b => w.heap.size + 1 < b) Y nv' s1) := by
            rw [hY]
            exact (hn.mono (fun b _ hb => by omega)).later (fun b _ hb => setRow_other _ _ (by omega))
          have z0 : Y.heap[w.heap.size]? = some (.cells zr 41 (0, 0)) := by rw [hY, setRow_other _ _ (by omega)]; exact y0
          have z1 : Y.heap[w.heap.size + 1]? = some (.cells er 41 (0, 0)) := by rw [hY]; exact heap_setRow y1
          have hYw : Below w.heap.size w Y := by rw [hY]; exact setRow_below (hB.trans ((hbX.trans (hby.mono hbX.size)).mono (by omega))) (by omega) _
          have HER : Hid (er = rowF 201 nv') := her
          clear hs1 he1 her hY hn HX hX1 hb1 hbX hby hB q0 q1r p0 p1 y0 HFV
          by_cases te : e1 = 0
          · have de : (e1 != 0) = false := by simpa using te
            have HTE : Hid (e1 = 0) := te
            clear te
            go_wp2_with (first
              | (refine wpList_store_row rfl 41 _ _ rfl (w.heap.size + 1) er rfl rfl 41 _ y1 hse hze honee ?_))
            rw [← HY.out]
            go_wp2_with fail
            refine ⟨⟨k + 1, nv', s1, hlt, by rw [Int.natCast_add]; rfl, z0, by rw [← HER.out]; exact z1, HNY, hYw, ?_⟩, by simp [intOf]; omega⟩
            unfold Hid
            rw [HE.out, HDr.out]
            conv => lhs; unfold replayFrom
            rw [if_neg (by rw [HTD.out]; decide), ← HF.out, ← HE1.out, if_neg (by rw [HTE.out]; decide), ← HS1.out]
          · have de : (e1 != 0) = true := by simpa using te
            have HTE : Hid (e1 ≠ 0) := te
            have hyf : Below w.heap.size w (Y.setRow w.heap.size zr) := setRow_below hYw (Nat.le_refl _) _
            clear te
            go_upto_region 10 with (first
              | (refine wpList_store_row rfl 41 _ _ rfl (w.heap.size + 1) er rfl rfl 41 _ y1 hse hze honee ?_))
            rw [← HY.out]
            go_wp2_with (first
              | (refine wpList_store_row rfl 41 _ _ rfl w.heap.size zr rfl rfl 41 _ z0 hsz rfl honz ?_))
            refine bodyPost_ret (v := .tuple #[.agg zr, .int .i64 e1]) (results_row1 Try.results28 _ _ w.heap.size 41 zr (0, 0) _ rfl (heap_setRow z0) Try.underlying41 rfl hsz _ rfl) rfl ?_
            have HRR : R = (zeroN, e1) := by
              rw [HE.out, HDr.out]
              unfold replayFrom
              rw [if_neg (by rw [HTD.out]; decide), ← HF.out, ← HE1.out, if_pos HTE.out]
            exact ⟨zv, by rw [HZR.out, HRR], by rw [HRR]; exact zero_node _ _, hyf⟩
        · have dd : (decE t == 0) = false := by simpa using td
          have HTD : Hid (decE t ≠ 0) := td
          have de : (decE t != 0) = true := by simpa using td
          clear td
          have hbX : Below wr.heap.size wr (x1.alloc (.cells #[.int .i64 f.kind, .int .i64 f.node, .int .i64 f.id, .slice a3 f.ops.length c3, .slice a4 f.deps.length c4, .slice a5 f.ats.length c5, .slice a6 f.vals.length c6] 43)) := hb1.alloc (by omega) _
          have p0 : (x1.alloc (.cells #[.int .i64 f.kind, .int .i64 f.node, .int .i64 f.id, .slice a3 f.ops.length c3, .slice a4 f.deps.length c4, .slice a5 f.ats.length c5, .slice a6 f.vals.length c6] 43)).heap[w.heap.size]? = some (.cells zr 41 (0, 0)) := by rw [hbX.block _ (by omega)]; exact q0
          have hyf : Below w.heap.size w ((x1.alloc (.cells #[.int .i64 f.kind, .int .i64 f.node, .int .i64 f.id, .slice a3 f.ops.length c3, .slice a4 f.deps.length c4, .slice a5 f.ats.length c5, .slice a6 f.vals.length c6] 43)).setRow w.heap.size zr) := setRow_below (hB.trans (hbX.mono (by omega))) (Nat.le_refl _) _
          go_wp2_with (first
            | (refine wpList_store_row rfl 41 _ _ rfl w.heap.size zr rfl rfl 41 _ p0 hsz rfl honz ?_))
          refine bodyPost_ret (v := .tuple #[.agg zr, .int .i64 (decE t)]) (results_row1 Try.results28 _ _ w.heap.size 41 zr (0, 0) _ rfl (heap_setRow p0) Try.underlying41 rfl hsz _ rfl) rfl ?_
          have HRR : R = (zeroN, decE t) := by
            rw [HE.out, HDr.out]
            unfold replayFrom
            rw [if_pos HTD.out]
          exact ⟨zv, by rw [HZR.out, HRR], by rw [HRR]; exact zero_node _ _, hyf⟩
      · have dl : ((k : Int) < zs.length) = False := by simp; omega
        have honm : mr.all (·.oneCell') = true := by rw [HMR.out]; exact rowF_all HN.out.one
        have hzm : zr.size = mr.size := by rw [HMR.out, HZR.out, rowF_size, rowF_size]
        have hyf : Below w.heap.size w (wr.setRow w.heap.size mr) := setRow_below hB (Nat.le_refl _) _
        have HNF : Hid (NodeC (· < (wr.setRow w.heap.size mr).heap.size) (wr.setRow w.heap.size mr) mv s) := (HN.out.later (fun b _ hb => setRow_other _ _ (by omega))).any
        go_wp2_with (first
          | (refine wpList_load_row rfl 41 _ rfl (w.heap.size + 1) rfl 41 mr (0, 0) _ q1r Try.underlying41 rfl hsm ?_)
          | (refine wpList_store_row rfl 41 _ _ rfl w.heap.size mr rfl rfl 41 _ q0 hsm hzm honm ?_))
        refine bodyPost_ret (v := .tuple #[.agg mr, .int .i64 0]) (results_row1 Try.results28 _ _ w.heap.size 41 mr (0, 0) _ rfl (heap_setRow q0) Try.underlying41 rfl hsm _ rfl) rfl ?_
        have HRR : R = (s, 0) := by
          rw [HE.out, List.drop_eq_nil_of_le (by omega)]
          rfl
        exact ⟨mv, by rw [HMR.out, HRR], by rw [HRR]; exact HNF.out, hyf⟩

end Go.Proofs.Ytgdkjjmnoikhdab

namespace Go.Proofs.Ytgdkjjmnoikhdab
open Go.RowKit

set_option maxRecDepth 100000 in
set_option maxHeartbeats 400000 in
theorem shardOf_any (k : Int) (w : World) :
    Calls Try.prog 79 #[.int .i64 k] w fun e w' => e = .returned (.int .i64 (k % 2)) ∧ w' = w := by
  have e := tmod2 k
  by_cases h : k % 2 = 0
  · have h1 : (k.tmod 2 == 0) = true := by rw [e]; simpa using h
    clear e
    go_enter Try.func79, Try.ntmps79
    go_wp2
    go_ret
    exact ⟨ret_int (by omega), rfl⟩
  · have h1 : (k.tmod 2 == 0) = false := by rw [e]; simpa using h
    clear e
    go_enter Try.func79, Try.ntmps79
    go_wp2
    go_ret
    exact ⟨ret_int (by omega), rfl⟩

set_option maxRecDepth 100000 in
set_option maxHeartbeats 400000 in
theorem ofNode_any (k : Int) (w : World) :
    Calls Try.prog 49 #[.int .i64 k] w fun e w' => e = .returned (.int .i64 (ofL k)) ∧ w' = w := by
  by_cases h : k < 3
  · have E : Hid (ofL k = 0) := by unfold ofL Hid; rw [if_pos h]
    go_enter Try.func49, Try.ntmps49
    go_wp2
    go_ret
    exact ⟨ret_int E.out.symm, rfl⟩
  · have E : Hid (ofL k = 1) := by unfold ofL Hid; rw [if_neg h]
    go_enter Try.func49, Try.ntmps49
    go_wp2
    go_ret
    exact ⟨ret_int E.out.symm, rfl⟩

set_option maxRecDepth 100000 in
set_option maxHeartbeats 400000 in
theorem bound_any (n : Int) (w : World) :
    Calls Try.prog 78 #[.int .i64 n] w fun e w' => e = .returned (.int .i64 (near n)) ∧ w' = w := by
  by_cases h1 : n < -1099511627776
  · have E : Hid (near n = -1099511627776) := by unfold near Hid; rw [if_pos h1]
    go_enter Try.func78, Try.ntmps78
    go_wp2
    go_ret
    exact ⟨ret_int E.out.symm, rfl⟩
  · by_cases h2 : 1099511627776 < n
    · have E : Hid (near n = 1099511627776) := by unfold near Hid; rw [if_neg h1, if_pos h2]
      go_enter Try.func78, Try.ntmps78
      go_wp2
      go_ret
      exact ⟨ret_int E.out.symm, rfl⟩
    · have E : Hid (near n = n) := by unfold near Hid; rw [if_neg h1, if_neg h2]
      go_enter Try.func78, Try.ntmps78
      go_wp2
      go_ret
      exact ⟨ret_int E.out.symm, rfl⟩

set_option maxRecDepth 100000 in
set_option maxHeartbeats 400000 in
theorem doOp_any (v kind key n : Int) (w : World) :
    Calls Try.prog 83 #[.int .i64 v, .agg #[.int .i64 kind, .int .i64 key, .int .i64 n]] w fun e w' => e = .returned (.int .i64 (doL v kind n)) ∧ Below w.heap.size w w' := by
  by_cases h2 : kind = 2
  · have E : Hid (doL v kind n = near n) := by unfold doL Hid; rw [if_pos h2]
    have h2' : (kind == 2) = true := by simpa using h2
    clear h2
    go_enter Try.func83, Try.ntmps83
    go_wp2_with (go_at_call 78; refine (bound_any _ _).mono ?_; rintro e w' ⟨rfl, rfl⟩)
    go_ret
    exact ⟨ret_int E.out.symm, (Below.refl _ _).alloc (Nat.le_refl _) _⟩
  · by_cases h3 : kind = 3
    · have E : Hid (doL v kind n = near (near v + near n)) := by unfold doL Hid; rw [if_neg h2, if_pos h3]
      have h2' : (kind == 2) = false := by simpa using h2
      have h3' : (kind == 3) = true := by simpa using h3
      have l1 := near_lo v
      have l2 := near_hi v
      have l3 := near_lo n
      have l4 := near_hi n
      clear h2 h3
      go_enter Try.func83, Try.ntmps83
      go_wp2
      go_quiet ((go_at_call 78; exact Calls.quiet_of_same (bound_any _ _)))
      go_wp2
      go_ret
      exact ⟨ret_int E.out.symm, below_drewN ((Below.refl _ _).alloc (Nat.le_refl _) _) _⟩
    · have E : Hid (doL v kind n = near v) := by unfold doL Hid; rw [if_neg h2, if_neg h3]
      have h2' : (kind == 2) = false := by simpa using h2
      have h3' : (kind == 3) = false := by simpa using h3
      clear h2 h3
      go_enter Try.func83, Try.ntmps83
      go_wp2_with (go_at_call 78; refine (bound_any _ _).mono ?_; rintro e w' ⟨rfl, rfl⟩)
      go_ret
      exact ⟨ret_int E.out.symm, (Below.refl _ _).alloc (Nat.le_refl _) _⟩

theorem any_next {α : Type} {p : α → Bool} {zs : List α} {k : Nat} {d x : α} (hk : k < zs.length) (hx : zs.getD k d = x) : (zs.take (k + 1)).any p = ((zs.take k).any p || p x) := by
  have : zs[k] = x := by rw [← hx]; simp [List.getD, hk]
  rw [List.take_succ_eq_append_getElem hk, List.any_append, this]
  simp

theorem any_all {α : Type} {p : α → Bool} {zs : List α} {k : Nat} (hk : ¬ k < zs.length) : (zs.take k).any p = zs.any p := by
  rw [List.take_of_length_le (by omega)]

set_option maxRecDepth 100000 in
set_option maxHeartbeats 400000 in
theorem touchesShard_any (a : Option Addr) (cap : Nat) (zs : List OpL) (s : Int) (w : World) (hl : zs.length ≤ maxLen) (hz : OpsAt w a zs) :
    Calls Try.prog 50 #[.slice a zs.length cap, .int .i64 s] w fun e w' => e = .returned (.bool (touchesL zs s)) ∧ Below w.heap.size w w' := by
  unfold maxLen at hl
  rcases hz with rfl | ⟨b, off, rfl, hb, hc⟩
  · go_enter Try.func50, Try.ntmps50
    go_wp2
    refine wp_loop_rounds 1 ?_; rw [rounds_succ]
    go_wp2
    go_ret
    exact ⟨rfl, Below.refl _ _⟩
  · go_enter Try.func50, Try.ntmps50
    go_wp2
    go_loopw [5, 10] (fun v i wr => ∃ (k : Nat) (t : Bool), k ≤ zs.length ∧ i = .int .i64 k ∧ v = .bool t ∧ Hid ((zs.take k).any (touchB s) = t) ∧ Below w.heap.size w wr) (fun _ i _ => zs.length - (intOf i).toNat)
    case atStart => exact ⟨0, false, Nat.zero_le _, rfl, rfl, rfl, Below.refl _ _⟩
    case round =>
      obtain ⟨k, t, hk, rfl, rfl, ht, hBw⟩ := hrel
      have hsz := hBw.size
      by_cases hlt : k < zs.length
      · obtain ⟨q0, q1, q2, Hq, e0, e1, e2⟩ := OpsAt.at hc hb hBw hlt
        have hm : Hid ((zs.take (k + 1)).any (touchB s) = (t || q1 % 2 == s)) := by
          unfold Hid
          rw [any_next hlt Hq.out, ht.out]
          rfl
        clear hc
        cases t
        · go_wp2_with (go_at_call 79; refine (shardOf_any _ _).mono ?_; rintro e w' ⟨rfl, rfl⟩)
          go_roundw
          case rel => exact ⟨k + 1, _, by omega, by go_num, rfl, by rw [hm.out, Bool.false_or]; rfl, hBw.alloc hsz _⟩
          case measure => simp [intOf]; omega
        · go_wp2
          go_roundw
          case rel => exact ⟨k + 1, _, by omega, by go_num, rfl, by rw [hm.out, Bool.true_or]; rfl, hBw.alloc hsz _⟩
          case measure => simp [intOf]; omega
      · go_wp2
        go_ret
        exact ⟨ret_bool (by rw [← ht.out, any_all hlt]; rfl), hBw⟩

def wayB (s : Int) (x y : OpL) : Bool := x.2.1 == y.2.1 && x.2.1 % 2 == s && !(x.1 == 1 && y.1 == 1)
def wayL (zs ys : List OpL) (s : Int) : Bool := zs.any fun x => ys.any (wayB s x)

set_option maxRecDepth 100000 in
set_option maxHeartbeats 1000000 in
theorem inWay_any (a : Option Addr) (cap : Nat) (zs : List OpL) (a' : Option Addr) (cap' : Nat) (ys : List OpL) (s : Int) (w : World) (hl : zs.length ≤ maxLen) (hz : OpsAt w a zs) (hl' : ys.length ≤ maxLen) (hy : OpsAt w a' ys) :
    Calls Try.prog 80 #[.slice a zs.length cap, .slice a' ys.length cap', .int .i64 s] w fun e w' => e = .returned (.bool (wayL zs ys s)) ∧ Below w.heap.size w w' := by
  unfold maxLen at hl hl'
  rcases hz with rfl | ⟨b, off, rfl, hb, hc⟩
  · go_enter Try.func80, Try.ntmps80
    go_wp2
    refine wp_loop_rounds 1 ?_; rw [rounds_succ]
    go_wp2
    go_ret
    exact ⟨rfl, Below.refl _ _⟩
  · go_enter Try.func80, Try.ntmps80
    go_wp2
    go_loopw [7, 14] (fun v i wr => ∃ (k : Nat) (t : Bool), k ≤ zs.length ∧ i = .int .i64 k ∧ v = .bool t ∧ Hid ((zs.take k).any (fun x => ys.any (wayB s x)) = t) ∧ Below w.heap.size w wr) (fun _ i _ => zs.length - (intOf i).toNat)
    case atStart => exact ⟨0, false, Nat.zero_le _, rfl, rfl, rfl, Below.refl _ _⟩
    case round =>
      obtain ⟨wo, hwo⟩ : ∃ wo, wo = wr := ⟨_, rfl⟩
      subst hwo
      obtain ⟨k, t, hk, rfl, rfl, ht, hBw⟩ := hrel
      have hsz := hBw.size
      by_cases hlt : k < zs.length
      · obtain ⟨q0, q1, q2, Hq, e0, e1, e2⟩ := OpsAt.at hc hb hBw hlt
        have hm : Hid ((zs.take (k + 1)).any (fun x => ys.any (wayB s x)) = (t || ys.any (wayB s (q0, q1, q2)))) := by
          unfold Hid
          rw [any_next hlt Hq.out, ht.out]
        clear hc
        go_wp2
        go_loopw [7, 20] (fun v i wx => ∃ (j : Nat) (u : Bool), j ≤ ys.length ∧ i = .int .i64 j ∧ v = .bool u ∧ Hid ((t || (ys.take j).any (wayB s (q0, q1, q2))) = u) ∧ Below (wo.heap.size + 1) (wo.alloc (.cells #[.int .i64 q0, .int .i64 q1, .int .i64 q2] 88)) wx) (fun _ i _ => ys.length - (intOf i).toNat)
        case atStart => exact ⟨0, t, Nat.zero_le _, rfl, rfl, by simp [Hid], Below.refl _ _⟩
        case round =>
          obtain ⟨j, u, hj, rfl, rfl, hu, hBx⟩ := hrel
          have hBv : Below w.heap.size w wr := (hBw.alloc hsz _).trans (hBx.mono (by omega))
          have hsx := hBv.size
          have hsy : wo.heap.size < wr.heap.size := by have := hBx.size; simp at this; omega
          by_cases hjt : j < ys.length
          · rcases hy with rfl | ⟨b', off', rfl, hb', hc'⟩
            · simp at hjt
            obtain ⟨p0, p1, p2, Hp, f0, f1, f2⟩ := OpsAt.at hc' hb' hBv hjt
            have c0 := hBx.cell (p := ⟨wo.heap.size, 0, none⟩) (by simp)
            have c1 := hBx.cell (p := ⟨wo.heap.size, 1, none⟩) (by simp)
            simp at c0 c1
            have hn : Hid ((t || (ys.take (j + 1)).any (wayB s (q0, q1, q2))) = (u || (q1 == p1 && q1 % 2 == s && !(q0 == 1 && p0 == 1)))) := by
              unfold Hid
              rw [any_next hjt Hp.out, ← Bool.or_assoc, hu.out]
              rfl
            clear hc' e0 e1 e2
            cases u
            · cases t1 : q1 == p1
              · go_wp2
                go_roundw
                case rel => exact ⟨j + 1, _, by omega, by go_num, rfl, by rw [hn.out, t1]; rfl, hBx.alloc (by omega) _⟩
                case measure => simp [intOf]; omega
              · cases t2 : q1 % 2 == s
                · go_wp2_with (go_at_call 79; refine (shardOf_any _ _).mono ?_; rintro e w' ⟨rfl, rfl⟩)
                  go_roundw
                  case rel => exact ⟨j + 1, _, by omega, by go_num, rfl, by rw [hn.out, t1, t2]; rfl, hBx.alloc (by omega) _⟩
                  case measure => simp [intOf]; omega
                · cases t3 : q0 == 1
                  · go_wp2_with (go_at_call 79; refine (shardOf_any _ _).mono ?_; rintro e w' ⟨rfl, rfl⟩)
                    go_roundw
                    case rel => exact ⟨j + 1, _, by omega, by go_num, rfl, by rw [hn.out, t1, t2, t3]; rfl, hBx.alloc (by omega) _⟩
                    case measure => simp [intOf]; omega
                  · cases t4 : p0 == 1
                    · go_wp2_with (go_at_call 79; refine (shardOf_any _ _).mono ?_; rintro e w' ⟨rfl, rfl⟩)
                      go_roundw
                      case rel => exact ⟨j + 1, _, by omega, by go_num, rfl, by rw [hn.out, t1, t2, t3, t4]; rfl, hBx.alloc (by omega) _⟩
                      case measure => simp [intOf]; omega
                    · go_wp2_with (go_at_call 79; refine (shardOf_any _ _).mono ?_; rintro e w' ⟨rfl, rfl⟩)
                      go_roundw
                      case rel => exact ⟨j + 1, _, by omega, by go_num, rfl, by rw [hn.out, t1, t2, t3, t4]; rfl, hBx.alloc (by omega) _⟩
                      case measure => simp [intOf]; omega
            · go_wp2
              go_roundw
              case rel => exact ⟨j + 1, _, by omega, by go_num, rfl, by rw [hn.out]; rfl, hBx.alloc (by omega) _⟩
              case measure => simp [intOf]; omega
          · have hf : Hid ((t || ys.any (wayB s (q0, q1, q2))) = u) := by
              unfold Hid
              rw [← hu.out, any_all hjt]
            go_wp2
            go_roundw
            case rel => exact ⟨k + 1, u, by omega, by go_num, rfl, by rw [hm.out, hf.out]; rfl, hBv⟩
            case measure => simp [intOf]; omega
      · go_wp2
        go_ret
        exact ⟨ret_bool (by rw [← ht.out, any_all hlt]; rfl), hBw⟩

end Go.Proofs.Ytgdkjjmnoikhdab
