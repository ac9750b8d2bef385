/-
  The contract of node's executeReady.
  The contracts of the document's own small answers (ShardOf, OfNode, bound, DoOp, TouchesShard, InWay).
-/
import Derived.Test.YtkoefoccbjhoiabNtk10
import Derived.Test.YtkoefoccbjhoiabNtk2
namespace Go.Proofs.Ytkoefoccbjhoiab
open Go.RowKit

theorem NodeAt.c {c : Nat} {w : World} {nv : Nat → Value} {s : NodeL} (h : NodeAt c w nv s) (hl : s.order.length ≤ 32) : NodeC (· < w.heap.size) w nv s :=
  ⟨h.node.mono (fun _ hb _ => hb), (IsI.of_owns h.order (by omega)).mono (fun _ hb _ => hb)⟩

/-- Blocks that no execution touches. -/
structure Safe (A : Nat → Prop) (c : Nat) (W w : World) (nv : Nat → Value) : Prop where
  same : SameOn A W w
  ord : ∀ k, (nv 192).ownBlock = some k → ¬ A k
  lt : ∀ k, A k → k < W.heap.size
  nc : ¬ A c
  size : W.heap.size ≤ w.heap.size
theorem Safe.ends {A : Nat → Prop} {c n : Nat} {W w w' : World} {nv nv' : Nat → Value} {s' : NodeL} (h : Safe A c W w nv) (e : Ends c n w w' nv nv' s') : Safe A c W w' nv' := by
  refine ⟨fun k hk ha => ?_, fun k hk ha => ?_, h.lt, h.nc, Nat.le_trans h.size e.moves.size⟩
  · rw [e.moves.block k (by have := h.size; omega) (fun hc => h.nc (by rw [← hc]; exact ha)) (fun ho => h.ord k ho ha)]
    exact h.same k hk ha
  · rcases e.ord k hk with h1 | h1
    · exact h.ord k h1 ha
    · have := h.lt k ha
      have := h.size
      omega
theorem Safe.later {A : Nat → Prop} {c : Nat} {W w w' : World} {nv : Nat → Value} (h : Safe A c W w nv) (hb : Below w.heap.size w w') : Safe A c W w' nv :=
  ⟨fun k hk ha => (hb.block k (by have := h.size; omega)).trans (h.same k hk ha), h.ord, h.lt, h.nc, Nat.le_trans h.size hb.size⟩
theorem Moves.near {c : Nat} {w w' : World} {nv : Nat → Value} {s : NodeL} (m : Moves c (nv 192) w w') (h : NodeAt c w nv s) : Near c w w' :=
  ⟨m.os, m.tape, m.output, m.size, fun k hk hc => m.block k (by have := h.room; omega) hc (fun e => by have := (World.ownsRow.lt h.order k e).1; omega)⟩
def Area (c : Nat) (nv : Nat → Value) (w : World) (g b : Nat) : Prop := (w.heap.size ≤ b ∧ b ≤ g) ∨ (b < w.heap.size ∧ b ≠ c ∧ (nv 192).ownBlock ≠ some b)
theorem Ends.below {c n : Nat} {w w' : World} {nv nv' : Nat → Value} {s s' : NodeL} (h : NodeAt c w nv s) (e : Ends c n w w' nv nv' s') : Below c w w' :=
  ⟨e.moves.os, e.moves.tape, e.moves.output, e.moves.size, fun k hk => e.moves.block k (by have := h.lt; omega) (by omega) (fun ho => by have := h.notC ho; omega)⟩
theorem ints_at {l : List Nat} {j : Nat} (h : j < (ints l).length) : ∃ x, l[j]? = some x ∧ (ints l).getD j 0 = (x : Int) := by
  have hj : j < l.length := by rw [ints_len] at h; exact h
  exact ⟨l[j], by simp [hj], by simp [ints, List.getD, hj]⟩
theorem take_fold {l : List Nat} {j x : Nat} (h : l[j]? = some x) {β : Type} (f : β → Nat → β) (b : β) : (l.take (j + 1)).foldl f b = f ((l.take j).foldl f b) x := by
  obtain ⟨hj, e⟩ := List.getElem?_eq_some_iff.1 h
  rw [List.take_succ_eq_append_getElem hj, List.foldl_append, e]
  rfl
theorem good_round {s t : NodeL} (g : GraphL) (sh : Int) (n : Nat) (_ : s = s) (ht : GoodN t) : GoodN (NodeL.round g sh t n) := by
  unfold NodeL.round
  split
  · exact good_execs sh _ (order_below g n) ht
  · exact ht
theorem range_fold (f : NodeL → Nat → NodeL) (s : NodeL) (k : Nat) : (List.range (k + 1)).foldl f s = f ((List.range k).foldl f s) k := by
  rw [List.range_succ, List.foldl_append]
  rfl
theorem good_folds {s : NodeL} (hg : GoodN s) (g : GraphL) (sh : Int) : ∀ k, GoodN ((List.range k).foldl (NodeL.round g sh) s)
  | 0 => hg
  | k + 1 => by rw [range_fold]; exact good_round (s := s) g sh k rfl (good_folds hg g sh k)
theorem good_part {t : NodeL} (ht : GoodN t) (sh : Int) (l : List Nat) (hl : ∀ x ∈ l, x < 32) (j : Nat) : GoodN ((l.take j).foldl (NodeL.execIf sh) t) := good_execs sh (l.take j) (fun x hx => hl x (List.mem_of_mem_take hx)) ht

set_option maxRecDepth 100000 in
set_option maxHeartbeats 2000000 in
theorem execReady_any (c : Nat) (nv : Nat → Value) (s : NodeL) (sh : Int) (w : World) (h : NodeAt c w nv s) (hg : GoodN s) :
    Calls Try.prog 111 #[.pointer (some ⟨c, 0, none⟩), .int .i64 sh] w fun r w' => r = .returned (.tuple #[]) ∧ (∃ nv', NodeAt c w' nv' (s.settle sh)) ∧ Below c w w' ∧ Moves c (nv 192) w w' := by
  have HG : Hid (GoodN s) := hg
  have HN : Hid (NodeAt c w nv s) := h
  obtain ⟨gr, hgr⟩ : ∃ gr, gr = rowF 201 nv := ⟨_, rfl⟩
  obtain ⟨zr, hzr⟩ : ∃ zr, zr = rowF 64 zg := ⟨_, rfl⟩
  have hz0 := Try.zeroGraph
  rw [← hzr] at hz0
  obtain ⟨t0, hblk⟩ := h.blk
  rw [← hgr] at hblk
  have hsizeN : (Try.prog.info? 41).map (·.size) = some gr.size := by rw [hgr, rowF_size]; exact Try.infoNode
  have HGR : Hid (gr = rowF 201 nv) := hgr
  have HZR : Hid (zr = rowF 64 zg) := hzr
  have hcl := h.lt
  clear h hg hgr hzr
  go_enter Try.func111, Try.ntmps111
  go_wp2_with (refine wpList_load_row rfl 41 _ rfl c rfl t0 gr (0, 0) _ hblk Try.underlying41 rfl hsizeN ?_)
  rw [HGR.out]
  refine (graph_any nv s w (HN.out.c HG.out.len)).mono ?_
  rintro r w1 ⟨gv, rfl, hgi, hb1⟩
  obtain ⟨fr, hfr⟩ : ∃ fr, fr = rowF 64 gv := ⟨_, rfl⟩
  rw [← hfr]
  have hsizeG : (Try.prog.info? 26).map (·.size) = some fr.size := by rw [hfr, rowF_size]; exact Try.infoGraph
  have hzs : zr.size = fr.size := by rw [hfr, HZR.out, rowF_size, rowF_size]
  have hone : fr.all (·.oneCell') = true := by rw [hfr]; exact rowF_all hgi.one
  have HFR : Hid (fr = rowF 64 gv) := hfr
  have hres : (w1.alloc (.cells zr 26)).heap[w1.heap.size]? = some (.cells zr 26 (0, 0)) := heap_new _ _
  obtain ⟨W, hW⟩ : ∃ W, W = (w1.alloc (.cells zr 26)).setRow w1.heap.size fr := ⟨_, rfl⟩
  have hbW : Below w1.heap.size w1 W := by rw [hW]; exact setRow_below ((Below.refl _ _).alloc (Nat.le_refl _) _) (Nat.le_refl _) _
  have rW : W.heap[w1.heap.size]? = some (.cells fr 26 (0, 0)) := by rw [hW]; exact heap_setRow hres
  have hzW : W.heap.size = w1.heap.size + 1 := by rw [hW, size_setRow]; exact size_push _ _
  have hz1 := hb1.size
  have HWN : Hid (NodeAt c W nv s) := (HN.out.later hb1).later hbW
  have HGI : Hid (GraphIn (Area c nv w w1.heap.size) W gv s.graph) := by
    refine ⟨hgi.known, fun i hi => ?_⟩
    exact ((hgi.deps i hi).mono (ok' := Area c nv w w1.heap.size) (fun b hb hk => Or.inl ⟨hk, by omega⟩)).later (SameOn.of_size hbW)
  have HSf : Hid (Safe (Area c nv w w1.heap.size) c W W nv) := ⟨fun _ _ _ => rfl, fun k hk ha => by
    have := (World.ownsRow.lt HN.out.order k hk).2
    rcases ha with ha | ha
    · omega
    · exact ha.2.2 hk, fun k ha => by rcases ha with ha | ha <;> omega, fun ha => by
    rcases ha with ha | ha
    · omega
    · exact ha.2.1 rfl, Nat.le_refl _⟩
  have HBO : Hid (Below w.heap.size w W) := hb1.trans (hbW.mono hz1)
  have HBW : Hid (Below c w W) := (hb1.mono (by omega)).trans (hbW.mono (by omega))
  have HW : Hid (W = (w1.alloc (.cells zr 26)).setRow w1.heap.size fr) := hW
  clear hfr hgi hW hb1 hbW
  go_wp2_with (first
    | (refine wpList_alloc_as rfl 26 rfl zr hz0 ?_)
    | (refine wpList_store_row rfl 26 _ _ rfl w1.heap.size fr rfl rfl 26 _ hres hsizeG hzs hone ?_))
  rw [← HW.out]
  clear HW hres hz0
  go_loopw [12] (fun i wr => ∃ (k : Nat) (mv : Nat → Value), k ≤ 32 ∧ i = .int .i64 k ∧ Hid (NodeAt c wr mv ((List.range k).foldl (NodeL.round s.graph sh) s)) ∧ Hid (Safe (Area c nv w w1.heap.size) c W wr mv) ∧ Below c w wr) (fun i _ => 32 - (intOf i).toNat)
  case atStart => exact ⟨0, nv, Nat.zero_le _, rfl, HWN, HSf, HBW⟩
  case round =>
    obtain ⟨k, mv, hk, rfl, HA, HS, hB⟩ := hrel
    clear HWN HSf HBW
    by_cases hlt : k < 32
    · have n1 : (0 : Int) ≤ (k : Int) ∧ (k : Int) < 32 := by omega
      obtain ⟨t, ht⟩ : ∃ t, t = (List.range k).foldl (NodeL.round s.graph sh) s := ⟨_, rfl⟩
      rw [← ht] at HA
      have HT : Hid (t = (List.range k).foldl (NodeL.round s.graph sh) s) := ht
      have HGT : Hid (GoodN t) := by rw [ht]; exact good_folds HG.out s.graph sh k
      clear ht
      have qs := HA.out.cState hlt
      have hcr := HA.out.lt
      have hszr := HS.out.size
      by_cases t2 : (t.ent k).state = 2
      · have d2 : ((t.ent k).state != 2) = false := by simpa using t2
        have rr : wr.heap[w1.heap.size]? = some (.cells fr 26 (0, 0)) := by rw [HS.out.same _ (by omega) (Or.inl ⟨by omega, by omega⟩)]; exact rW
        have HGr : Hid (GraphIn (Area c nv w w1.heap.size) wr gv s.graph) := HGI.out.later HS.out.same
        have HNx : Hid ((List.range (k + 1)).foldl (NodeL.round s.graph sh) s = (orderI s.graph k).foldl (NodeL.execIf sh) t) := by
          unfold Hid
          rw [range_fold, ← HT.out]
          unfold NodeL.round NodeL.execs
          rw [if_pos t2]
        clear t2
        go_wp2_with (refine wpList_load_row rfl 26 _ rfl w1.heap.size rfl 26 fr (0, 0) _ rr Try.underlying26 rfl hsizeG ?_)
        have hoa := order_any gv s.graph k wr HGr.out.c
        rw [← HFR.out] at hoa
        refine hoa.mono ?_
        clear hoa
        rintro r x1 ⟨v1, rfl, own1, hbx⟩
        obtain ⟨av, cv, rfl, _⟩ := own_form own1
        obtain ⟨l, hl⟩ : ∃ l, l = orderI s.graph k := ⟨_, rfl⟩
        have HLB : Hid (∀ x ∈ l, x < 32) := by rw [hl]; exact order_below s.graph k
        have HL32 : Hid (l.length ≤ 32) := by
          rw [hl]
          unfold orderI Hid
          split
          · exact (placed_at _ _ 32).len
          · simp
        rw [← hl] at own1 HNx ⊢
        clear hl
        have HA1 : Hid (NodeAt c x1 mv t) := HA.out.later hbx
        have hbx1 : Below c w x1 := hB.trans (hbx.mono (by omega))
        have HSx : Hid (Safe (Area c nv w w1.heap.size) c W x1 mv) := HS.out.later hbx
        have hzx := hbx.size
        have HSy : Hid (Safe (fun b => wr.heap.size ≤ b ∧ b < x1.heap.size) c x1 x1 mv) := ⟨fun _ _ _ => rfl, fun j hj ha => by have := (World.ownsRow.lt HA.out.order j hj).2; omega, fun j ha => by omega, fun ha => by omega, Nat.le_refl _⟩
        have hil : (ints l).length ≤ 4294967296 := by
          have := HL32.out
          rw [ints_len]; omega
        have HI : Hid (IsI (fun b => wr.heap.size ≤ b ∧ b < x1.heap.size) x1 (.slice av (ints l).length cv) (ints l)) := (IsI.of_owns own1 (by omega)).mono (fun b hb hk => ⟨hk.1, hb⟩)
        clear hbx own1 HA HS qs rr HGr
        go_wp2_with fail
        obtain ⟨wo, hwo⟩ : ∃ x, x = wr := ⟨_, rfl⟩
        subst hwo
        go_loopw [27] (fun i wq => ∃ (j : Nat) (pv : Nat → Value), j ≤ (ints l).length ∧ i = .int .i64 j ∧ Hid (NodeAt c wq pv ((l.take j).foldl (NodeL.execIf sh) t)) ∧ Hid (Safe (Area c nv w w1.heap.size) c W wq pv) ∧ Hid (Safe (fun b => wo.heap.size ≤ b ∧ b < x1.heap.size) c x1 wq pv) ∧ Below c w wq) (fun i _ => (ints l).length - (intOf i).toNat)
        case atStart => exact ⟨0, mv, Nat.zero_le _, rfl, HA1, HSx, HSy, hbx1⟩
        case round =>
          obtain ⟨j, pv, hj, rfl, HA, HS, HS2, hBq⟩ := hrel
          clear HA1 HSx HSy
          by_cases hlj : j < (ints l).length
          · obtain ⟨x, hx, ex⟩ := ints_at hlj
            have hx32 : x < 32 := HLB.out x (List.mem_of_getElem? hx)
            obtain ⟨a', cap', e', hin, _⟩ := HI.out.later HS2.out.same
            simp only [Value.slice.injEq] at e'
            obtain ⟨rfl, _, rfl⟩ := e'
            rcases hin with e | ⟨b, off, rfl, _, hc⟩
            · rw [e] at hlj; simp at hlj
            have e0 := hc j hlj
            rw [ex] at e0
            have x1' : (0 : Int) ≤ (x : Int) ∧ (x : Int) < 32 := by omega
            obtain ⟨y, hy⟩ : ∃ y, y = (l.take j).foldl (NodeL.execIf sh) t := ⟨_, rfl⟩
            have HGY : Hid (GoodN y) := by rw [hy]; exact good_part HGT.out sh l HLB.out j
            have HNy : Hid ((l.take (j + 1)).foldl (NodeL.execIf sh) t = NodeL.execIf sh y x) := by rw [hy]; exact take_fold hx _ _
            rw [← hy] at HA
            have qs := HA.out.cState hx32
            have HEX : Hid ((ints l).getD j 0 = (x : Int)) := ex
            clear hc hy hx ex
            by_cases t3 : (y.ent x).state = 2
            · have d3 : ((y.ent x).state == 2) = true := by simpa using t3
              have HIf : Hid (NodeL.execIf sh y x = y.exec sh x) := by unfold Hid NodeL.execIf; rw [if_pos t3]
              have T3 : Hid ((y.ent x).state = 2) := t3
              clear t3
              go_wp2_with fail
              refine (execute_any c pv y x sh _ HA.out HGY.out hx32 T3.out).mono ?_
              rintro r z1 ⟨rfl, pv', hE⟩
              have hBz : Below c w z1 := hBq.trans (Ends.below HA.out hE)
              have HSz : Hid (Safe (Area c nv w w1.heap.size) c W z1 pv') := HS.out.ends hE
              have HSz2 : Hid (Safe (fun b => wo.heap.size ≤ b ∧ b < x1.heap.size) c x1 z1 pv') := HS2.out.ends hE
              have HAz : Hid (NodeAt c z1 pv' ((l.take (j + 1)).foldl (NodeL.execIf sh) t)) := by unfold Hid; rw [HNy.out, HIf.out]; exact hE.at_
              clear hE HA HS HS2
              go_wp2
              go_roundw
              case rel => exact ⟨j + 1, pv', by omega, by go_num, HAz, HSz, HSz2, hBz⟩
              case measure => simp [intOf]; omega
            · have d3 : ((y.ent x).state == 2) = false := by simpa using t3
              have HIf : Hid (NodeL.execIf sh y x = y) := by unfold Hid NodeL.execIf; rw [if_neg t3]
              clear t3
              go_wp2
              go_roundw
              case rel => exact ⟨j + 1, pv, by omega, by go_num, by unfold Hid; rw [HNy.out, HIf.out]; exact HA.out, HS, HS2, hBq⟩
              case measure => simp [intOf]; omega
          · obtain rfl : j = (ints l).length := by omega
            have HAz : Hid (NodeAt c wr pv ((List.range (k + 1)).foldl (NodeL.round s.graph sh) s)) := by
              have h1 := HA.out
              rw [ints_len, List.take_length] at h1
              unfold Hid
              rw [HNx.out]
              exact h1
            go_wp2
            go_roundw
            case rel => exact ⟨k + 1, pv, by omega, by go_num, HAz, HS, hBq⟩
            case measure => simp [intOf]; omega
      · have d2 : ((t.ent k).state != 2) = true := by simpa using t2
        have HNx : Hid (t = (List.range (k + 1)).foldl (NodeL.round s.graph sh) s) := by
          unfold Hid
          rw [range_fold, ← HT.out]
          unfold NodeL.round
          rw [if_neg t2]
        clear t2
        go_wp2
        go_roundw
        case rel => exact ⟨k + 1, mv, by omega, by go_num, by rw [← HNx.out]; exact HA, HS, hB⟩
        case measure => simp [intOf]; omega
    · obtain rfl : k = 32 := by omega
      go_wp2
      go_end0
      exact ⟨rfl, ⟨mv, HA.out⟩, hB, hB.os, hB.tape, hB.output, hB.size, fun j hj hc ho => (HS.out.same j (by omega) (Or.inr ⟨hj, hc, ho⟩)).trans (HBO.out.block j hj)⟩

end Go.Proofs.Ytkoefoccbjhoiab

namespace Go.Proofs.Ytkoefoccbjhoiab
open Go.RowKit

set_option maxRecDepth 100000 in
set_option maxHeartbeats 400000 in
theorem shardOf_any (k : Int) (w : World) :
    Calls Try.prog 103 #[.int .i64 k] w fun e w' => e = .returned (.int .i64 (k % 2)) ∧ w' = w := by
  have e := tmod2 k
  by_cases h : k % 2 = 0
  · have h1 : (k.tmod 2 == 0) = true := by rw [e]; simpa using h
    clear e
    go_enter Try.func103, Try.ntmps103
    go_wp2
    go_ret
    exact ⟨ret_int (by omega), rfl⟩
  · have h1 : (k.tmod 2 == 0) = false := by rw [e]; simpa using h
    clear e
    go_enter Try.func103, Try.ntmps103
    go_wp2
    go_ret
    exact ⟨ret_int (by omega), rfl⟩

set_option maxRecDepth 100000 in
set_option maxHeartbeats 400000 in
theorem ofNode_any (k : Int) (w : World) :
    Calls Try.prog 69 #[.int .i64 k] w fun e w' => e = .returned (.int .i64 (ofL k)) ∧ w' = w := by
  by_cases h : k < 3
  · have E : Hid (ofL k = 0) := by unfold ofL Hid; rw [if_pos h]
    go_enter Try.func69, Try.ntmps69
    go_wp2
    go_ret
    exact ⟨ret_int E.out.symm, rfl⟩
  · have E : Hid (ofL k = 1) := by unfold ofL Hid; rw [if_neg h]
    go_enter Try.func69, Try.ntmps69
    go_wp2
    go_ret
    exact ⟨ret_int E.out.symm, rfl⟩

set_option maxRecDepth 100000 in
set_option maxHeartbeats 400000 in
theorem bound_any (n : Int) (w : World) :
    Calls Try.prog 112 #[.int .i64 n] w fun e w' => e = .returned (.int .i64 (near n)) ∧ w' = w := by
  by_cases h1 : n < -1099511627776
  · have E : Hid (near n = -1099511627776) := by unfold near Hid; rw [if_pos h1]
    go_enter Try.func112, Try.ntmps112
    go_wp2
    go_ret
    exact ⟨ret_int E.out.symm, rfl⟩
  · by_cases h2 : 1099511627776 < n
    · have E : Hid (near n = 1099511627776) := by unfold near Hid; rw [if_neg h1, if_pos h2]
      go_enter Try.func112, Try.ntmps112
      go_wp2
      go_ret
      exact ⟨ret_int E.out.symm, rfl⟩
    · have E : Hid (near n = n) := by unfold near Hid; rw [if_neg h1, if_neg h2]
      go_enter Try.func112, Try.ntmps112
      go_wp2
      go_ret
      exact ⟨ret_int E.out.symm, rfl⟩

set_option maxRecDepth 100000 in
set_option maxHeartbeats 400000 in
theorem doOp_any (v kind key n : Int) (w : World) :
    Calls Try.prog 116 #[.int .i64 v, .agg #[.int .i64 kind, .int .i64 key, .int .i64 n]] w fun e w' => e = .returned (.int .i64 (doL v kind n)) ∧ Below w.heap.size w w' := by
  by_cases h2 : kind = 2
  · have E : Hid (doL v kind n = near n) := by unfold doL Hid; rw [if_pos h2]
    have h2' : (kind == 2) = true := by simpa using h2
    clear h2
    go_enter Try.func116, Try.ntmps116
    go_wp2_with (go_at_call 112; refine (bound_any _ _).mono ?_; rintro e w' ⟨rfl, rfl⟩)
    go_ret
    exact ⟨ret_int E.out.symm, (Below.refl _ _).alloc (Nat.le_refl _) _⟩
  · by_cases h3 : kind = 3
    · have E : Hid (doL v kind n = near (near v + near n)) := by unfold doL Hid; rw [if_neg h2, if_pos h3]
      have h2' : (kind == 2) = false := by simpa using h2
      have h3' : (kind == 3) = true := by simpa using h3
      have l1 := near_lo v
      have l2 := near_hi v
      have l3 := near_lo n
      have l4 := near_hi n
      clear h2 h3
      go_enter Try.func116, Try.ntmps116
      go_wp2
      go_quiet ((go_at_call 112; exact Calls.quiet_of_same (bound_any _ _)))
      go_wp2
      go_ret
      exact ⟨ret_int E.out.symm, below_drewN ((Below.refl _ _).alloc (Nat.le_refl _) _) _⟩
    · have E : Hid (doL v kind n = near v) := by unfold doL Hid; rw [if_neg h2, if_neg h3]
      have h2' : (kind == 2) = false := by simpa using h2
      have h3' : (kind == 3) = false := by simpa using h3
      clear h2 h3
      go_enter Try.func116, Try.ntmps116
      go_wp2_with (go_at_call 112; refine (bound_any _ _).mono ?_; rintro e w' ⟨rfl, rfl⟩)
      go_ret
      exact ⟨ret_int E.out.symm, (Below.refl _ _).alloc (Nat.le_refl _) _⟩

theorem any_next {α : Type} {p : α → Bool} {zs : List α} {k : Nat} {d x : α} (hk : k < zs.length) (hx : zs.getD k d = x) : (zs.take (k + 1)).any p = ((zs.take k).any p || p x) := by
  have : zs[k] = x := by rw [← hx]; simp [List.getD, hk]
  rw [List.take_succ_eq_append_getElem hk, List.any_append, this]
  simp

theorem any_all {α : Type} {p : α → Bool} {zs : List α} {k : Nat} (hk : ¬ k < zs.length) : (zs.take k).any p = zs.any p := by
  rw [List.take_of_length_le (by omega)]

set_option maxRecDepth 100000 in
set_option maxHeartbeats 400000 in
theorem touchesShard_any (a : Option Addr) (cap : Nat) (zs : List OpL) (s : Int) (w : World) (hl : zs.length ≤ maxLen) (hz : OpsAt w a zs) :
    Calls Try.prog 70 #[.slice a zs.length cap, .int .i64 s] w fun e w' => e = .returned (.bool (touchesL zs s)) ∧ Below w.heap.size w w' := by
  unfold maxLen at hl
  rcases hz with rfl | ⟨b, off, rfl, hb, hc⟩
  · go_enter Try.func70, Try.ntmps70
    go_wp2
    refine wp_loop_rounds 1 ?_; rw [rounds_succ]
    go_wp2
    go_ret
    exact ⟨rfl, Below.refl _ _⟩
  · go_enter Try.func70, Try.ntmps70
    go_wp2
    go_loopw [5, 10] (fun v i wr => ∃ (k : Nat) (t : Bool), k ≤ zs.length ∧ i = .int .i64 k ∧ v = .bool t ∧ Hid ((zs.take k).any (touchB s) = t) ∧ Below w.heap.size w wr) (fun _ i _ => zs.length - (intOf i).toNat)
    case atStart => exact ⟨0, false, Nat.zero_le _, rfl, rfl, rfl, Below.refl _ _⟩
    case round =>
      obtain ⟨k, t, hk, rfl, rfl, ht, hBw⟩ := hrel
      have hsz := hBw.size
      by_cases hlt : k < zs.length
      · obtain ⟨q0, q1, q2, Hq, e0, e1, e2⟩ := OpsAt.at hc hb hBw hlt
        have hm : Hid ((zs.take (k + 1)).any (touchB s) = (t || q1 % 2 == s)) := by
          unfold Hid
          rw [any_next hlt Hq.out, ht.out]
          rfl
        clear hc
        cases t
        · go_wp2_with (go_at_call 103; refine (shardOf_any _ _).mono ?_; rintro e w' ⟨rfl, rfl⟩)
          go_roundw
          case rel => exact ⟨k + 1, _, by omega, by go_num, rfl, by rw [hm.out, Bool.false_or]; rfl, hBw.alloc hsz _⟩
          case measure => simp [intOf]; omega
        · go_wp2
          go_roundw
          case rel => exact ⟨k + 1, _, by omega, by go_num, rfl, by rw [hm.out, Bool.true_or]; rfl, hBw.alloc hsz _⟩
          case measure => simp [intOf]; omega
      · go_wp2
        go_ret
        exact ⟨ret_bool (by rw [← ht.out, any_all hlt]; rfl), hBw⟩

def wayB (s : Int) (x y : OpL) : Bool := x.2.1 == y.2.1 && x.2.1 % 2 == s && !(x.1 == 1 && y.1 == 1)
def wayL (zs ys : List OpL) (s : Int) : Bool := zs.any fun x => ys.any (wayB s x)

set_option maxRecDepth 100000 in
set_option maxHeartbeats 1000000 in
theorem inWay_any (a : Option Addr) (cap : Nat) (zs : List OpL) (a' : Option Addr) (cap' : Nat) (ys : List OpL) (s : Int) (w : World) (hl : zs.length ≤ maxLen) (hz : OpsAt w a zs) (hl' : ys.length ≤ maxLen) (hy : OpsAt w a' ys) :
    Calls Try.prog 113 #[.slice a zs.length cap, .slice a' ys.length cap', .int .i64 s] w fun e w' => e = .returned (.bool (wayL zs ys s)) ∧ Below w.heap.size w w' := by
  unfold maxLen at hl hl'
  rcases hz with rfl | ⟨b, off, rfl, hb, hc⟩
  · go_enter Try.func113, Try.ntmps113
    go_wp2
    refine wp_loop_rounds 1 ?_; rw [rounds_succ]
    go_wp2
    go_ret
    exact ⟨rfl, Below.refl _ _⟩
  · go_enter Try.func113, Try.ntmps113
    go_wp2
    go_loopw [7, 14] (fun v i wr => ∃ (k : Nat) (t : Bool), k ≤ zs.length ∧ i = .int .i64 k ∧ v = .bool t ∧ Hid ((zs.take k).any (fun x => ys.any (wayB s x)) = t) ∧ Below w.heap.size w wr) (fun _ i _ => zs.length - (intOf i).toNat)
    case atStart => exact ⟨0, false, Nat.zero_le _, rfl, rfl, rfl, Below.refl _ _⟩
    case round =>
      obtain ⟨wo, hwo⟩ : ∃ wo, wo = wr := ⟨_, rfl⟩
      subst hwo
      obtain ⟨k, t, hk, rfl, rfl, ht, hBw⟩ := hrel
      have hsz := hBw.size
      by_cases hlt : k < zs.length
      · obtain ⟨q0, q1, q2, Hq, e0, e1, e2⟩ := OpsAt.at hc hb hBw hlt
        have hm : Hid ((zs.take (k + 1)).any (fun x => ys.any (wayB s x)) = (t || ys.any (wayB s (q0, q1, q2)))) := by
          unfold Hid
          rw [any_next hlt Hq.out, ht.out]
        clear hc
        go_wp2
        go_loopw [7, 20] (fun v i wx => ∃ (j : Nat) (u : Bool), j ≤ ys.length ∧ i = .int .i64 j ∧ v = .bool u ∧ Hid ((t || (ys.take j).any (wayB s (q0, q1, q2))) = u) ∧ Below (wo.heap.size + 1) (wo.alloc (.cells #[.int .i64 q0, .int .i64 q1, .int .i64 q2] 108)) wx) (fun _ i _ => ys.length - (intOf i).toNat)
        case atStart => exact ⟨0, t, Nat.zero_le _, rfl, rfl, by simp [Hid], Below.refl _ _⟩
        case round =>
          obtain ⟨j, u, hj, rfl, rfl, hu, hBx⟩ := hrel
          have hBv : Below w.heap.size w wr := (hBw.alloc hsz _).trans (hBx.mono (by omega))
          have hsx := hBv.size
          have hsy : wo.heap.size < wr.heap.size := by have := hBx.size; simp at this; omega
          by_cases hjt : j < ys.length
          · rcases hy with rfl | ⟨b', off', rfl, hb', hc'⟩
            · simp at hjt
            obtain ⟨p0, p1, p2, Hp, f0, f1, f2⟩ := OpsAt.at hc' hb' hBv hjt
            have c0 := hBx.cell (p := ⟨wo.heap.size, 0, none⟩) (by simp)
            have c1 := hBx.cell (p := ⟨wo.heap.size, 1, none⟩) (by simp)
            simp at c0 c1
            have hn : Hid ((t || (ys.take (j + 1)).any (wayB s (q0, q1, q2))) = (u || (q1 == p1 && q1 % 2 == s && !(q0 == 1 && p0 == 1)))) := by
              unfold Hid
              rw [any_next hjt Hp.out, ← Bool.or_assoc, hu.out]
              rfl
            clear hc' e0 e1 e2
            cases u
            · cases t1 : q1 == p1
              · go_wp2
                go_roundw
                case rel => exact ⟨j + 1, _, by omega, by go_num, rfl, by rw [hn.out, t1]; rfl, hBx.alloc (by omega) _⟩
                case measure => simp [intOf]; omega
              · cases t2 : q1 % 2 == s
                · go_wp2_with (go_at_call 103; refine (shardOf_any _ _).mono ?_; rintro e w' ⟨rfl, rfl⟩)
                  go_roundw
                  case rel => exact ⟨j + 1, _, by omega, by go_num, rfl, by rw [hn.out, t1, t2]; rfl, hBx.alloc (by omega) _⟩
                  case measure => simp [intOf]; omega
                · cases t3 : q0 == 1
                  · go_wp2_with (go_at_call 103; refine (shardOf_any _ _).mono ?_; rintro e w' ⟨rfl, rfl⟩)
                    go_roundw
                    case rel => exact ⟨j + 1, _, by omega, by go_num, rfl, by rw [hn.out, t1, t2, t3]; rfl, hBx.alloc (by omega) _⟩
                    case measure => simp [intOf]; omega
                  · cases t4 : p0 == 1
                    · go_wp2_with (go_at_call 103; refine (shardOf_any _ _).mono ?_; rintro e w' ⟨rfl, rfl⟩)
                      go_roundw
                      case rel => exact ⟨j + 1, _, by omega, by go_num, rfl, by rw [hn.out, t1, t2, t3, t4]; rfl, hBx.alloc (by omega) _⟩
                      case measure => simp [intOf]; omega
                    · go_wp2_with (go_at_call 103; refine (shardOf_any _ _).mono ?_; rintro e w' ⟨rfl, rfl⟩)
                      go_roundw
                      case rel => exact ⟨j + 1, _, by omega, by go_num, rfl, by rw [hn.out, t1, t2, t3, t4]; rfl, hBx.alloc (by omega) _⟩
                      case measure => simp [intOf]; omega
            · go_wp2
              go_roundw
              case rel => exact ⟨j + 1, _, by omega, by go_num, rfl, by rw [hn.out]; rfl, hBx.alloc (by omega) _⟩
              case measure => simp [intOf]; omega
          · have hf : Hid ((t || ys.any (wayB s (q0, q1, q2))) = u) := by
              unfold Hid
              rw [← hu.out, any_all hjt]
            go_wp2
            go_roundw
            case rel => exact ⟨k + 1, u, by omega, by go_num, rfl, by rw [hm.out, hf.out]; rfl, hBv⟩
            case measure => simp [intOf]; omega
      · go_wp2
        go_ret
        exact ⟨ret_bool (by rw [← ht.out, any_all hlt]; rfl), hBw⟩

end Go.Proofs.Ytkoefoccbjhoiab
