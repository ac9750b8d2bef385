/-
  The contracts of node's answer and ahead.
  A node behind a pointer: its lists lie behind it, the order is a row of its own; frames whose lists lie ahead of it; lists of frames.
-/
import Derived.Test.YtgdkjjmnoikhdabRep12
namespace Go.Proofs.Ytgdkjjmnoikhdab
open Go.RowKit

set_option maxRecDepth 100000 in
set_option maxHeartbeats 400000 in
theorem answer_any (k : Int) (v : Value) (f : FrameL) (w : World) (hf : FrameV w v f) :
    Calls Try.prog 76 #[.int .i64 k, v] w fun r w' => r = .returned (.agg #[.int .i64 k, .int .i64 f.node, .int .i64 f.id, .slice none 0 0, .slice none 0 0, .slice none 0 0, .slice none 0 0]) ∧ Below w.heap.size w w' := by
  obtain ⟨a3, c3, a4, c4, a5, c5, a6, c6, rfl, _⟩ := hf
  go_enter Try.func76, Try.ntmps76
  go_wp2
  refine bodyPost_ret (v := .agg #[.int .i64 k, .int .i64 f.node, .int .i64 f.id, .slice none 0 0, .slice none 0 0, .slice none 0 0, .slice none 0 0]) (by simp [results, Try.results76, go_sem, *]) rfl ⟨rfl, ((Below.refl _ _).alloc (Nat.le_refl _) _).alloc (by rw [size_push]; omega) _⟩

set_option maxRecDepth 100000 in
set_option maxHeartbeats 1000000 in
theorem ahead_node (c : Nat) (nv : Nat → Value) (s : NodeL) (v : Value) (f : FrameL) (ok : Nat → Prop) (w : World) (hb : BlkAt 201 w c nv) (hE : NodeE ok w nv s) (hg : GoodN s) (hf : FrameV w v f) (hid : 0 ≤ f.id ∧ f.id < 32) :
    Calls Try.prog 75 #[.pointer (some ⟨c, 0, none⟩), v] w fun r w' => ∃ x, r = .returned x ∧ w'.ownsRow w.heap.size 3 1 x (s.ahead f.id.toNat f.ops (ofL f.node)).length (intCells (s.ahead f.id.toNat f.ops (ofL f.node))) ∧ Below w.heap.size w w' := by
  obtain ⟨i0, hi, hz0, hz1, hz2⟩ := info_parts Try.infoInt
  obtain ⟨a3, c3, a4, c4, a5, c5, a6, c6, rfl, h3, _⟩ := hf
  obtain ⟨p, hp⟩ : ∃ p : Nat → Bool, p = fun n => n != f.id.toNat && decide (0 < (s.ent n).state) && conflictL (s.ent n).ops f.ops (ofL f.node) := ⟨_, rfl⟩
  have HA : Hid (s.ahead f.id.toNat f.ops (ofL f.node) = unionTo p 32) := by rw [hp]; rfl
  have HP : Hid (p = fun n => n != f.id.toNat && decide (0 < (s.ent n).state) && conflictL (s.ent n).ops f.ops (ofL f.node)) := hp
  rw [HA.out]
  clear hp
  obtain ⟨W, hW⟩ : ∃ W, W = w.alloc (.cells #[.int .i64 f.kind, .int .i64 f.node, .int .i64 f.id, .slice a3 f.ops.length c3, .slice a4 f.deps.length c4, .slice a5 f.ats.length c5, .slice a6 f.vals.length c6] 43) := ⟨_, rfl⟩
  have hbW : Below w.heap.size w W := by rw [hW]; exact (Below.refl _ _).alloc (Nat.le_refl _) _
  have hzW : W.heap.size = w.heap.size + 1 := by rw [hW]; exact size_push _ _
  have r0 : W.heap[w.heap.size]? = some (.cells #[.int .i64 f.kind, .int .i64 f.node, .int .i64 f.id, .slice a3 f.ops.length c3, .slice a4 f.deps.length c4, .slice a5 f.ats.length c5, .slice a6 f.vals.length c6] 43 (0, 0)) := by rw [hW]; exact heap_new _ _
  have HW : Hid (W = w.alloc (.cells #[.int .i64 f.kind, .int .i64 f.node, .int .i64 f.id, .slice a3 f.ops.length c3, .slice a4 f.deps.length c4, .slice a5 f.ats.length c5, .slice a6 f.vals.length c6] 43)) := hW
  have hcl := hb.lt
  have HB : Hid (BlkAt 201 w c nv) := hb
  have HE : Hid (NodeE ok w nv s) := hE
  have H3 : Hid (SlOps w a3 c3 f.ops) := h3
  have HG : Hid (GoodN s) := hg
  clear hW hb hE h3 hg
  go_enter Try.func75, Try.ntmps75
  go_upto_region 1 with fail
  rw [← HW.out]
  clear HW
  go_wp2_with fail
  go_loopw [5, 8] (fun x i wr => ∃ k : Nat, k ≤ 32 ∧ i = .int .i64 k ∧ wr.ownsRow (w.heap.size + 1) 3 1 x (unionTo p k).length (intCells (unionTo p k)) ∧ Below (w.heap.size + 1) W wr) (fun _ i _ => 32 - (intOf i).toNat)
  case atStart => exact ⟨0, Nat.zero_le _, rfl, World.ownsRow_nil _ _ _ _, Below.refl _ _⟩
  case round =>
    obtain ⟨k, hk, rfl, hown, hB⟩ := hrel
    have hbw : Below w.heap.size w wr := hbW.trans (hB.mono (by omega))
    have hsz := hB.size
    by_cases hlt : k < 32
    · have hEk := HE.out.ent k hlt
      obtain ⟨ak, ck, eo, ho⟩ := hEk.ops.sl
      have n1 : (0 : Int) ≤ (k : Int) ∧ (k : Int) < 32 := by omega
      have q0 : wr.cell? ⟨c, k * 6, none⟩ = some (.int .i64 (s.ent k).state) := by rw [hbw.cell (p := ⟨c, k * 6, none⟩) hcl, HB.out.cell (by omega), hEk.state]
      have q1 : wr.cell? ⟨c, k * 6 + 1, none⟩ = some (.slice ak (s.ent k).ops.length ck) := by rw [hbw.cell (p := ⟨c, k * 6 + 1, none⟩) hcl, HB.out.cell (by omega), eo]
      have r1 : wr.heap[w.heap.size]? = some (.cells #[.int .i64 f.kind, .int .i64 f.node, .int .i64 f.id, .slice a3 f.ops.length c3, .slice a4 f.deps.length c4, .slice a5 f.ats.length c5, .slice a6 f.vals.length c6] 43 (0, 0)) := by rw [hB.block _ (by omega)]; exact r0
      have y1 : wr.cell? ⟨w.heap.size, 1, none⟩ = some (.int .i64 f.node) := by rw [cell_of_row _ _ _ _ _ _ r1]; rfl
      have y2 : wr.cell? ⟨w.heap.size, 2, none⟩ = some (.int .i64 f.id) := by rw [cell_of_row _ _ _ _ _ _ r1]; rfl
      have y3 : wr.cell? ⟨w.heap.size, 3, none⟩ = some (.slice a3 f.ops.length c3) := by rw [cell_of_row _ _ _ _ _ _ r1]; rfl
      have HO : Hid (SlOps wr ak ck (s.ent k).ops) := ho.later hbw
      have H3' : Hid (SlOps wr a3 c3 f.ops) := H3.out.later hbw
      have hst := (HG.out.state hlt).1
      have hlen := unionTo_len p k
      have HPk : Hid (p k = (k != f.id.toNat && decide (0 < (s.ent k).state) && conflictL (s.ent k).ops f.ops (ofL f.node))) := by unfold Hid; rw [HP.out]
      clear eo ho r1 hEk
      by_cases t1 : (k : Int) = f.id
      · have d1 : ((k : Int) != f.id) = false := by simpa using t1
        have PF : Hid (p k = false) := by unfold Hid; rw [HPk.out]; have : (k != f.id.toNat) = false := by simp; omega
                                          rw [this]; rfl
        clear t1
        go_wp2
        go_quiet (fail)
        go_wp2
        go_roundw
        case rel => exact ⟨k + 1, by omega, by go_num, by rw [unionTo_miss PF.out]; exact hown, below_drewN hB _⟩
        case measure => simp [intOf]; omega
      · have d1 : ((k : Int) != f.id) = true := by simpa using t1
        have e1 : (k != f.id.toNat) = true := by simp; omega
        clear t1
        by_cases t2 : (s.ent k).state = 0
        · have d2 : ((s.ent k).state != 0) = false := by simpa using t2
          have PF : Hid (p k = false) := by unfold Hid; rw [HPk.out, t2]; simp
          clear t2
          go_wp2
          go_quiet (fail)
          go_wp2
          go_roundw
          case rel => exact ⟨k + 1, by omega, by go_num, by rw [unionTo_miss PF.out]; exact hown, below_drewN hB _⟩
          case measure => simp [intOf]; omega
        · have d2 : ((s.ent k).state != 0) = true := by simpa using t2
          have PE : Hid (p k = conflictL (s.ent k).ops f.ops (ofL f.node)) := by unfold Hid; rw [HPk.out, e1, decide_eq_true (show 0 < (s.ent k).state by omega)]; rfl
          clear t2 e1
          go_wp2
          have HK : Hid (∀ wx, Below wr.heap.size wr wx → Below wr.heap.size wr wx) := fun _ h => h
          have K0 : Hid (∀ wx, Below wr.heap.size wr wx → wx.cell? ⟨c, k * 6, none⟩ = some (.int .i64 (s.ent k).state)) := fun wx hx => by rw [hx.cell (p := ⟨c, k * 6, none⟩) (by show c < _; omega)]; exact q0
          have K1 : Hid (∀ wx, Below wr.heap.size wr wx → wx.cell? ⟨c, k * 6 + 1, none⟩ = some (.slice ak (s.ent k).ops.length ck)) := fun wx hx => by rw [hx.cell (p := ⟨c, k * 6 + 1, none⟩) (by show c < _; omega)]; exact q1
          have K2 : Hid (∀ wx, Below wr.heap.size wr wx → wx.cell? ⟨w.heap.size, 2, none⟩ = some (.int .i64 f.id)) := fun wx hx => by rw [hx.cell (p := ⟨w.heap.size, 2, none⟩) (by show w.heap.size < _; omega)]; exact y2
          have K3 : Hid (∀ wx, Below wr.heap.size wr wx → wx.cell? ⟨w.heap.size, 3, none⟩ = some (.slice a3 f.ops.length c3)) := fun wx hx => by rw [hx.cell (p := ⟨w.heap.size, 3, none⟩) (by show w.heap.size < _; omega)]; exact y3
          have K4 : Hid (∀ wx, Below wr.heap.size wr wx → wx.cell? ⟨w.heap.size, 1, none⟩ = some (.int .i64 f.node)) := fun wx hx => by rw [hx.cell (p := ⟨w.heap.size, 1, none⟩) (by show w.heap.size < _; omega)]; exact y1
          clear q0 q1 y1 y2 y3
          refine wp_region_held_drew (S := fun w' => Below wr.heap.size wr w') (by kernel_rfl) ((Below.refl _ _).drew) ?_
          intro hH
          refine wpAnyH_takeD (i := 0) (d := some 16) (v := .int .i64 k) rfl rfl (by kernel_rfl) (by kernel_rfl) (by kernel_rfl) (fun _ _ _ h => h) (Or.inl ⟨by rfl, fun _ _ => by go_simp⟩) hH ?_
          simp only [Act.put, List.setIfInBounds_toArray, List.set_cons_zero, List.set_cons_succ]
          refine wpAnyH_takeD (i := 1) (d := some 17) (v := .pointer (some ⟨w.heap.size, 2, none⟩)) rfl rfl (by kernel_rfl) (by kernel_rfl) (by kernel_rfl) (fun _ _ _ h => h) (Or.inl ⟨by rfl, fun _ _ => by go_simp⟩) hH ?_
          simp only [Act.put, List.setIfInBounds_toArray, List.set_cons_zero, List.set_cons_succ]
          refine wpAnyH_takeD (i := 2) (d := some 18) (v := .int .i64 f.id) rfl rfl (by kernel_rfl) (by kernel_rfl) (by kernel_rfl) (fun _ _ _ h => h) (Or.inl ⟨by rfl, fun wx hx => by have cx := K2.out wx hx; go_simp⟩) hH ?_
          simp only [Act.put, List.setIfInBounds_toArray, List.set_cons_zero, List.set_cons_succ]
          refine wpAnyH_takeD (i := 3) (d := some 19) (v := .bool true) rfl rfl (by kernel_rfl) (by kernel_rfl) (by kernel_rfl) (fun _ _ _ h => h) (Or.inl ⟨by rfl, fun _ _ => by go_simp⟩) hH ?_
          simp only [Act.put, List.setIfInBounds_toArray, List.set_cons_zero, List.set_cons_succ]
          refine wpAnyH_takeD (i := 4) (d := some 20) (v := .bool true) rfl rfl (by kernel_rfl) (by kernel_rfl) (by kernel_rfl) (fun _ _ _ h => h) (Or.inl ⟨by rfl, fun _ _ => by go_simp⟩) hH ?_
          simp only [Act.put, List.setIfInBounds_toArray, List.set_cons_zero, List.set_cons_succ]
          refine wpAnyH_takeD (i := 5) (d := some 21) (v := .pointer (some ⟨c, k * 6, none⟩)) rfl rfl (by kernel_rfl) (by kernel_rfl) (by kernel_rfl) (fun _ _ _ h => h) (Or.inl ⟨by rfl, fun _ _ => by go_simp⟩) hH ?_
          simp only [Act.put, List.setIfInBounds_toArray, List.set_cons_zero, List.set_cons_succ]
          refine wpAnyH_takeD (i := 6) (d := some 22) (v := .pointer (some ⟨c, k * 6, none⟩)) rfl rfl (by kernel_rfl) (by kernel_rfl) (by kernel_rfl) (fun _ _ _ h => h) (Or.inl ⟨by rfl, fun _ _ => by go_simp⟩) hH ?_
          simp only [Act.put, List.setIfInBounds_toArray, List.set_cons_zero, List.set_cons_succ]
          refine wpAnyH_takeD (i := 7) (d := some 23) (v := .pointer (some ⟨c, k * 6, none⟩)) rfl rfl (by kernel_rfl) (by kernel_rfl) (by kernel_rfl) (fun _ _ _ h => h) (Or.inl ⟨by rfl, fun _ _ => by go_simp⟩) hH ?_
          simp only [Act.put, List.setIfInBounds_toArray, List.set_cons_zero, List.set_cons_succ]
          refine wpAnyH_takeD (i := 8) (d := some 24) (v := .int .i64 (s.ent k).state) rfl rfl (by kernel_rfl) (by kernel_rfl) (by kernel_rfl) (fun _ _ _ h => h) (Or.inl ⟨by rfl, fun wx hx => by have cx := K0.out wx hx; go_simp⟩) hH ?_
          simp only [Act.put, List.setIfInBounds_toArray, List.set_cons_zero, List.set_cons_succ]
          refine wpAnyH_takeD (i := 9) (d := some 25) (v := .bool true) rfl rfl (by kernel_rfl) (by kernel_rfl) (by kernel_rfl) (fun _ _ _ h => h) (Or.inl ⟨by rfl, fun _ _ => by go_simp⟩) hH ?_
          simp only [Act.put, List.setIfInBounds_toArray, List.set_cons_zero, List.set_cons_succ]
          refine wpAnyH_takeD (i := 10) (d := some 26) (v := .bool true) rfl rfl (by kernel_rfl) (by kernel_rfl) (by kernel_rfl) (fun _ _ _ h => h) (Or.inl ⟨by rfl, fun _ _ => by go_simp⟩) hH ?_
          simp only [Act.put, List.setIfInBounds_toArray, List.set_cons_zero, List.set_cons_succ]
          refine wpAnyH_takeD (i := 11) (d := some 27) (v := .bool true) rfl rfl (by kernel_rfl) (by kernel_rfl) (by kernel_rfl) (fun _ _ _ h => h) (Or.inl ⟨by rfl, fun _ _ => by go_simp⟩) hH ?_
          simp only [Act.put, List.setIfInBounds_toArray, List.set_cons_zero, List.set_cons_succ]
          refine wpAnyH_takeD (i := 12) (d := some 28) (v := .pointer (some ⟨c, k * 6, none⟩)) rfl rfl (by kernel_rfl) (by kernel_rfl) (by kernel_rfl) (fun _ _ _ h => h) (Or.inl ⟨by rfl, fun _ _ => by go_simp⟩) hH ?_
          simp only [Act.put, List.setIfInBounds_toArray, List.set_cons_zero, List.set_cons_succ]
          refine wpAnyH_takeD (i := 13) (d := some 29) (v := .pointer (some ⟨c, k * 6, none⟩)) rfl rfl (by kernel_rfl) (by kernel_rfl) (by kernel_rfl) (fun _ _ _ h => h) (Or.inl ⟨by rfl, fun _ _ => by go_simp⟩) hH ?_
          simp only [Act.put, List.setIfInBounds_toArray, List.set_cons_zero, List.set_cons_succ]
          refine wpAnyH_takeD (i := 14) (d := some 30) (v := .pointer (some ⟨c, k * 6 + 1, none⟩)) rfl rfl (by kernel_rfl) (by kernel_rfl) (by kernel_rfl) (fun _ _ _ h => h) (Or.inl ⟨by rfl, fun _ _ => by go_simp⟩) hH ?_
          simp only [Act.put, List.setIfInBounds_toArray, List.set_cons_zero, List.set_cons_succ]
          refine wpAnyH_takeD (i := 15) (d := some 31) (v := .slice ak (s.ent k).ops.length ck) rfl rfl (by kernel_rfl) (by kernel_rfl) (by kernel_rfl) (fun _ _ _ h => h) (Or.inl ⟨by rfl, fun wx hx => by have cx := K1.out wx hx; go_simp⟩) hH ?_
          simp only [Act.put, List.setIfInBounds_toArray, List.set_cons_zero, List.set_cons_succ]
          refine wpAnyH_takeD (i := 16) (d := some 32) (v := .pointer (some ⟨w.heap.size, 3, none⟩)) rfl rfl (by kernel_rfl) (by kernel_rfl) (by kernel_rfl) (fun _ _ _ h => h) (Or.inl ⟨by rfl, fun _ _ => by go_simp⟩) hH ?_
          simp only [Act.put, List.setIfInBounds_toArray, List.set_cons_zero, List.set_cons_succ]
          refine wpAnyH_takeD (i := 17) (d := some 33) (v := .slice a3 f.ops.length c3) rfl rfl (by kernel_rfl) (by kernel_rfl) (by kernel_rfl) (fun _ _ _ h => h) (Or.inl ⟨by rfl, fun wx hx => by have cx := K3.out wx hx; go_simp⟩) hH ?_
          simp only [Act.put, List.setIfInBounds_toArray, List.set_cons_zero, List.set_cons_succ]
          refine wpAnyH_takeD (i := 18) (d := some 34) (v := .pointer (some ⟨w.heap.size, 1, none⟩)) rfl rfl (by kernel_rfl) (by kernel_rfl) (by kernel_rfl) (fun _ _ _ h => h) (Or.inl ⟨by rfl, fun _ _ => by go_simp⟩) hH ?_
          simp only [Act.put, List.setIfInBounds_toArray, List.set_cons_zero, List.set_cons_succ]
          refine wpAnyH_takeD (i := 19) (d := some 35) (v := .int .i64 f.node) rfl rfl (by kernel_rfl) (by kernel_rfl) (by kernel_rfl) (fun _ _ _ h => h) (Or.inl ⟨by rfl, fun wx hx => by have cx := K4.out wx hx; go_simp⟩) hH ?_
          simp only [Act.put, List.setIfInBounds_toArray, List.set_cons_zero, List.set_cons_succ]
          refine wpAnyH_ready (rs := [20]) (by kernel_rfl) (by simp) ?_
          refine AllReadyH.cons rfl (fun K hK => ?_) AllReadyH.nil
          go_simp
          refine (of_any _ _).mono ?_
          rintro e w' ⟨rfl, hw⟩
          subst hw
          go_wp2_with fail
          refine hK.out _ _ (hH) (fun hH2 => ?_)
          clear hK K hH
          have hH := hH2
          clear hH2
          refine wpAnyH_ready (rs := [21]) (by kernel_rfl) (by simp) ?_
          refine AllReadyH.cons rfl (fun K hK => ?_) AllReadyH.nil
          go_simp
          refine (conflict_any ak ck (s.ent k).ops a3 c3 f.ops (ofL f.node) _ HO.out.2.1 (HO.out.later hH).1 H3'.out.2.1 (H3'.out.later hH).1).mono ?_
          rintro e w3 ⟨rfl, hb3⟩
          go_wp2_with fail
          refine hK.out _ _ (HK.out w3 (hH.trans hb3)) (fun hH2 => ?_)
          clear hK K hH
          have hH := hH2
          clear hH2
          generalize hcf : conflictL (s.ent k).ops f.ops (ofL f.node) = cf at PE ⊢
          refine wpAnyH_takeD (i := 22) (d := some 38) (v := .bool cf) rfl rfl (by kernel_rfl) (by kernel_rfl) (by kernel_rfl) (fun _ _ _ h => h) (Or.inl ⟨by rfl, fun _ _ => by go_simp⟩) hH ?_
          simp only [Act.put, List.setIfInBounds_toArray, List.set_cons_zero, List.set_cons_succ]
          refine wpAnyH_done (by kernel_rfl) ?_ _
          have hb4 : Below (w.heap.size + 1) W w3 := hB.trans (hH.mono (by omega))
          have own3 : w3.ownsRow (w.heap.size + 1) 3 1 u5 (unionTo p k).length (intCells (unionTo p k)) := own_same hown (fun j hj => hH.block j (World.ownsRow.lt hown j hj).2)
          have hz3 : wr.heap.size ≤ w3.heap.size := hH.size
          clear hH hb3 hcf hown
          cases cf
          · have PF : Hid (p k = false) := PE
            go_wp2
            go_roundw
            case rel => exact ⟨k + 1, by omega, by go_num, by rw [unionTo_miss PF.out]; exact own3, hb4⟩
            case measure => simp [intOf]; omega
          · have HM : Hid (unionTo p (k + 1) = unionTo p k ++ [(k : Int)]) := unionTo_hit PE.out
            go_wp2_with (first
              | (at_builtin; refine wpList_append_own _ rfl _ _ 23 rfl (w.heap.size + 1) 3 i0 (.int .i64 0) 1 8 Try.underlying23 hi hz0 hz1 hz2 rfl (by decide) _ _ _ rfl (own3.alloc _) ⟨w3.heap.size, 0, none⟩ 1 1 [.int .i64 k] rfl rfl ?c1 ?c2 ?c3 ?c4 ?c5 ?_)
              | go_in)
            case c1 => exact World.news_of_block (cs := #[.int .i64 k]) (t := 3) (fr := (0, 0)) (heap_new w3 _)
            case c2 => exact one_int _
            case c3 => unfold maxLen; omega
            case c4 => omega
            case c5 => rw [size_push]; omega
            · intro v' w5 hown' hgrow _
              have hB' : Below (w.heap.size + 1) W w5 := (hb4.alloc (by omega) _).grown hgrow (by rw [size_push]; omega) (owns_block own3)
              clear hgrow own3
              go_wp2
              go_roundw
              case rel => exact ⟨k + 1, by omega, by go_num, by rw [HM.out, intCells_snoc, List.length_append]; exact hown', hB'⟩
              case measure => simp [intOf]; omega
    · obtain rfl : k = 32 := by omega
      go_wp2
      go_ret
      exact ⟨_, rfl, own_mono hown (by omega), hbw⟩

end Go.Proofs.Ytgdkjjmnoikhdab

namespace Go.Proofs.Ytgdkjjmnoikhdab
open Go.RowKit

def Okb (c : Nat) (nv : Nat → Value) (b : Nat) : Prop := c + 2 < b ∧ (nv 192).ownBlock ≠ some b
structure NodeAt (c : Nat) (w : World) (nv : Nat → Value) (s : NodeL) : Prop where
  blk : BlkAt 201 w c nv
  node : NodeE (Okb c nv) w nv s
  room : c + 2 < w.heap.size
  order : w.ownsRow (c + 3) 3 1 (nv 192) s.order.length (intCells s.order)
  hot : ∀ i, i < 32 → ∀ f, f = 4 ∨ f = 5 → ∀ a cap, nv (i * 6 + f) = .slice a 0 cap → cap = 0
theorem NodeAt.lt {c : Nat} {w : World} {nv : Nat → Value} {s : NodeL} (h : NodeAt c w nv s) : c < w.heap.size := h.blk.lt
theorem NodeAt.later {c : Nat} {w w' : World} {nv : Nat → Value} {s : NodeL} (h : NodeAt c w nv s) (hb : Below w.heap.size w w') : NodeAt c w' nv s :=
  ⟨h.blk.later hb h.lt, h.node.later (SameOn.of_size hb), Nat.lt_of_lt_of_le h.room hb.size, own_same h.order (fun k hk => hb.block k (World.ownsRow.lt h.order k hk).2), h.hot⟩
theorem NodeAt.drew {c : Nat} {w : World} {nv : Nat → Value} {s : NodeL} (h : NodeAt c w nv s) : NodeAt c w.drew nv s := h.later (Below.refl _ _).drew
theorem NodeAt.cState {c : Nat} {w : World} {nv : Nat → Value} {s : NodeL} (h : NodeAt c w nv s) {m : Nat} (hm : m < 32) : w.cell? ⟨c, m * 6, none⟩ = some (.int .i64 (s.ent m).state) := by
  rw [h.blk.cell (by omega), (h.node.ent m hm).state]
theorem NodeAt.cI {c : Nat} {w : World} {nv : Nat → Value} {s : NodeL} (h : NodeAt c w nv s) {m : Nat} (hm : m < 32) (f : Nat) (h2 : 2 ≤ f) (hf : f < 6) :
    ∃ a cap, w.cell? ⟨c, m * 6 + f, none⟩ = some (.slice a ((s.ent m).nums f).length cap) ∧ SlInts w a cap ((s.ent m).nums f) ∧ ((s.ent m).nums f).length * 8 ≤ 140737488355328 := by
  have hv := (h.node.ent m hm).get f hf
  unfold fieldOK at hv
  rw [if_neg (by omega), if_neg (by omega)] at hv
  obtain ⟨a, cap, e, hs⟩ := hv.sl
  refine ⟨a, cap, by rw [h.blk.cell (by omega), e], hs, ?_⟩
  obtain ⟨_, _, _, _, hl, _⟩ := hv
  exact hl
theorem NodeAt.cO {c : Nat} {w : World} {nv : Nat → Value} {s : NodeL} (h : NodeAt c w nv s) {m : Nat} (hm : m < 32) :
    ∃ a cap, w.cell? ⟨c, m * 6 + 1, none⟩ = some (.slice a (s.ent m).ops.length cap) ∧ SlOps w a cap (s.ent m).ops ∧ (s.ent m).ops.length * 24 ≤ 140737488355328 := by
  have hv := (h.node.ent m hm).ops
  obtain ⟨a, cap, e, hs⟩ := hv.sl
  refine ⟨a, cap, by rw [h.blk.cell (by omega), e], hs, ?_⟩
  obtain ⟨_, _, _, _, hl, _⟩ := hv
  exact hl
theorem NodeAt.fr {c : Nat} {w : World} {nv : Nat → Value} {s : NodeL} (h : NodeAt c w nv s) (i : Nat) : w.frozen? ⟨c, i, none⟩ = false := h.blk.frozen i
theorem NodeAt.notC {c : Nat} {w : World} {nv : Nat → Value} {s : NodeL} (h : NodeAt c w nv s) {k : Nat} (hk : (nv 192).ownBlock = some k) : c < k := by have := (World.ownsRow.lt h.order k hk).1; omega

theorem okb_put (c : Nat) (nv : Nat → Value) {m f : Nat} (hm : m < 32) (hf : f < 6) (v : Value) : Okb c (fun i => if i = m * 6 + f then v else nv i) = Okb c nv := by
  funext b
  unfold Okb
  show (c + 2 < b ∧ (if 192 = m * 6 + f then v else nv 192).ownBlock ≠ some b) = _
  rw [if_neg (by omega)]
/-- All up to the two boxes behind a node's is as it was, but its own. -/
structure Near (c : Nat) (w w' : World) : Prop where
  os : w'.os = w.os
  tape : w'.tape = w.tape
  output : w'.output = w.output
  size : w.heap.size ≤ w'.heap.size
  block : ∀ k, k < c + 3 → k ≠ c → w'.heap[k]? = w.heap[k]?
theorem Near.trans {c : Nat} {a b d : World} (h : Near c a b) (k : Near c b d) : Near c a d :=
  ⟨k.os.trans h.os, k.tape.trans h.tape, k.output.trans h.output, Nat.le_trans h.size k.size, fun i hi hc => (k.block i hi hc).trans (h.block i hi hc)⟩
theorem near_of {c B : Nat} {w w' : World} (h : Below B w w') (hB : c + 3 ≤ B) : Near c w w' := ⟨h.os, h.tape, h.output, h.size, fun k hk _ => h.block k (by omega)⟩
theorem Near.setCell {c : Nat} {a w : World} (h : Near c a w) {o : Nat} (u : Value) : Near c a (w.setCell ⟨c, o, none⟩ u) :=
  h.trans ⟨rfl, rfl, rfl, by simp [World.setCell], fun k _ hc => Below.heap_setCell _ _ _ _ hc⟩
theorem Near.drew {c : Nat} {a w : World} (h : Near c a w) : Near c a w.drew := ⟨h.os, h.tape, h.output, h.size, h.block⟩
theorem Near.below {c : Nat} {w w' : World} (h : Near c w w') : Below c w w' := ⟨h.os, h.tape, h.output, h.size, fun k hk => h.block k (by omega) (by omega)⟩
/-- One cell of one entry is written. -/
theorem NodeAt.put {c : Nat} {w : World} {nv : Nat → Value} {s : NodeL} (h : NodeAt c w nv s) {m f : Nat} (hm : m < 32) (hf : f < 6) {v : Value} (e' : EntryL) (hv : fieldOK (Okb c nv) w e' f v) (hh : f = 4 ∨ f = 5 → ∀ a cap, v = .slice a 0 cap → cap = 0)
    (hag : ∀ g, g < 6 → g ≠ f → fieldOK (Okb c nv) w (s.ent m) g (nv (m * 6 + g)) → fieldOK (Okb c nv) w e' g (nv (m * 6 + g))) :
    NodeAt c (w.setCell ⟨c, m * 6 + f, none⟩ v) (fun i => if i = m * 6 + f then v else nv i) ⟨upd s.ent m e', s.order, s.vals⟩ := by
  have e192 : (if 192 = m * 6 + f then v else nv 192) = nv 192 := if_neg (by omega)
  have hok : Okb c (fun i => if i = m * 6 + f then v else nv i) = Okb c nv := by
    funext b
    unfold Okb
    show (c + 2 < b ∧ (if 192 = m * 6 + f then v else nv 192).ownBlock ≠ some b) = _
    rw [e192]
  refine ⟨h.blk.put _ _, ?_, by simp [World.setCell]; exact h.room, ?_, ?_⟩
  · rw [hok]
    have h1 : NodeE (Okb c nv) w (fun i => if i = m * 6 + f then v else nv i) ⟨upd s.ent m e', s.order, s.vals⟩ := by
      refine h.node.change (fun g hg => ?_) (fun i _ hi _ => ?_) hm s.order
      · show fieldOK (Okb c nv) w e' g (if m * 6 + g = m * 6 + f then v else nv (m * 6 + g))
        by_cases e : g = f
        · subst e; rw [if_pos rfl]; exact hv
        · rw [if_neg (by omega)]; exact hag g hg e ((h.node.ent m hm).get g hg)
      · show (if i = m * 6 + f then v else nv i) = nv i
        rw [if_neg (by omega)]
    exact h1.later (fun b _ hb => Below.heap_setCell _ _ _ _ (show b ≠ c by have := hb.1; omega))
  · show World.ownsRow _ _ _ _ (if 192 = m * 6 + f then v else nv 192) _ _
    rw [e192]
    exact own_put h.order (by omega)
  · intro i hi g hg a cap e
    have e' : (if i * 6 + g = m * 6 + f then v else nv (i * 6 + g)) = .slice a 0 cap := e
    by_cases e2 : i * 6 + g = m * 6 + f
    · rw [if_pos e2] at e'
      exact hh (by omega) a cap e'
    · rw [if_neg e2] at e'
      exact h.hot i hi g hg a cap e'

/-- A node's lists behind B, as separate leaves them, put into a block ahead of them. -/
theorem Apart.at {B c : Nat} {w : World} {nv : Nat → Value} {s : NodeL} (h : Apart B w nv s) (hc : c + 2 < B) (hB : B ≤ w.heap.size) (hb : BlkAt 201 w c nv) : NodeAt c w nv s :=
  ⟨hb, h.node.mono (fun b _ hb => ⟨by omega, hb.2⟩), by omega, own_mono h.order (by omega), fun i hi f hf a cap e => h.hot (i * 6 + f) (by omega) (by omega) a cap e⟩

/-- A frame whose lists lie below B. -/
def FrameB (B : Nat) (w : World) (v : Value) (f : FrameL) : Prop := ∃ a3 c3 a4 c4 a5 c5 a6 c6,
  v = .agg #[.int .i64 f.kind, .int .i64 f.node, .int .i64 f.id, .slice a3 f.ops.length c3, .slice a4 f.deps.length c4, .slice a5 f.ats.length c5, .slice a6 f.vals.length c6] ∧
  (SlOps w a3 c3 f.ops ∧ OpsIn (· < B) w a3 f.ops) ∧ (SlInts w a4 c4 f.deps ∧ IntsIn (· < B) w a4 f.deps) ∧ (SlInts w a5 c5 f.ats ∧ IntsIn (· < B) w a5 f.ats) ∧ (SlInts w a6 c6 f.vals ∧ IntsIn (· < B) w a6 f.vals)
theorem FrameV.b {w : World} {v : Value} {f : FrameL} (h : FrameV w v f) : FrameB w.heap.size w v f := by
  obtain ⟨a3, c3, a4, c4, a5, c5, a6, c6, e, h3, h4, h5, h6⟩ := h
  exact ⟨a3, c3, a4, c4, a5, c5, a6, c6, e, ⟨h3, h3.1⟩, ⟨h4, h4.1⟩, ⟨h5, h5.1⟩, ⟨h6, h6.1⟩⟩
theorem FrameB.v {B : Nat} {w : World} {v : Value} {f : FrameL} (h : FrameB B w v f) : FrameV w v f := by
  obtain ⟨a3, c3, a4, c4, a5, c5, a6, c6, e, h3, h4, h5, h6⟩ := h
  exact ⟨a3, c3, a4, c4, a5, c5, a6, c6, e, h3.1, h4.1, h5.1, h6.1⟩
theorem slI_later {B : Nat} {w w' : World} {a : Option Addr} {cap : Nat} {zs : List Int} (h : SlInts w a cap zs ∧ IntsIn (· < B) w a zs) (hb : Below B w w') : SlInts w' a cap zs ∧ IntsIn (· < B) w' a zs := by
  have h2 := h.2.later (w' := w') (fun k _ hk => hb.block k hk)
  exact ⟨⟨h2.at, h.1.2⟩, h2⟩
theorem slO_later {B : Nat} {w w' : World} {a : Option Addr} {cap : Nat} {zs : List OpL} (h : SlOps w a cap zs ∧ OpsIn (· < B) w a zs) (hb : Below B w w') : SlOps w' a cap zs ∧ OpsIn (· < B) w' a zs := by
  have h2 := h.2.later (w' := w') (fun k _ hk => hb.block k hk)
  exact ⟨⟨h2.at, h.1.2⟩, h2⟩
theorem FrameB.later {B : Nat} {w w' : World} {v : Value} {f : FrameL} (h : FrameB B w v f) (hb : Below B w w') : FrameB B w' v f := by
  obtain ⟨a3, c3, a4, c4, a5, c5, a6, c6, e, h3, h4, h5, h6⟩ := h
  exact ⟨a3, c3, a4, c4, a5, c5, a6, c6, e, slO_later h3 hb, slI_later h4 hb, slI_later h5 hb, slI_later h6 hb⟩
/-- A frame whose lists lie from B on. -/
def FrameG (B : Nat) (w : World) (v : Value) (f : FrameL) : Prop := ∃ a3 c3 a4 c4 a5 c5 a6 c6,
  v = .agg #[.int .i64 f.kind, .int .i64 f.node, .int .i64 f.id, .slice a3 f.ops.length c3, .slice a4 f.deps.length c4, .slice a5 f.ats.length c5, .slice a6 f.vals.length c6] ∧
  (SlOps w a3 c3 f.ops ∧ OpsIn (B ≤ ·) w a3 f.ops) ∧ (SlInts w a4 c4 f.deps ∧ IntsIn (B ≤ ·) w a4 f.deps) ∧ (SlInts w a5 c5 f.ats ∧ IntsIn (B ≤ ·) w a5 f.ats) ∧ (SlInts w a6 c6 f.vals ∧ IntsIn (B ≤ ·) w a6 f.vals)
theorem slI_same {ok : Nat → Prop} {w w' : World} {a : Option Addr} {cap : Nat} {zs : List Int} (h : SlInts w a cap zs ∧ IntsIn ok w a zs) (hb : SameOn ok w w') : SlInts w' a cap zs ∧ IntsIn ok w' a zs := by
  have h2 := h.2.later hb
  exact ⟨⟨h2.at, h.1.2⟩, h2⟩
theorem slO_same {ok : Nat → Prop} {w w' : World} {a : Option Addr} {cap : Nat} {zs : List OpL} (h : SlOps w a cap zs ∧ OpsIn ok w a zs) (hb : SameOn ok w w') : SlOps w' a cap zs ∧ OpsIn ok w' a zs := by
  have h2 := h.2.later hb
  exact ⟨⟨h2.at, h.1.2⟩, h2⟩
theorem FrameG.same {B : Nat} {w w' : World} {v : Value} {f : FrameL} (h : FrameG B w v f) (hb : SameOn (B ≤ ·) w w') : FrameG B w' v f := by
  obtain ⟨a3, c3, a4, c4, a5, c5, a6, c6, e, h3, h4, h5, h6⟩ := h
  exact ⟨a3, c3, a4, c4, a5, c5, a6, c6, e, slO_same h3 hb, slI_same h4 hb, slI_same h5 hb, slI_same h6 hb⟩
theorem FrameG.mono {B B' : Nat} {w : World} {v : Value} {f : FrameL} (h : FrameG B w v f) (hB : B' ≤ B) : FrameG B' w v f := by
  obtain ⟨a3, c3, a4, c4, a5, c5, a6, c6, e, h3, h4, h5, h6⟩ := h
  have m : ∀ k, k < w.heap.size → B ≤ k → B' ≤ k := fun k _ (h : B ≤ k) => by omega
  exact ⟨a3, c3, a4, c4, a5, c5, a6, c6, e, ⟨h3.1, h3.2.mono m⟩, ⟨h4.1, h4.2.mono m⟩, ⟨h5.1, h5.2.mono m⟩, ⟨h6.1, h6.2.mono m⟩⟩
theorem slI_nil (ok : Nat → Prop) (w : World) : SlInts w none 0 [] ∧ IntsIn ok w none [] := ⟨⟨Or.inl rfl, Nat.zero_le _, Nat.le_refl _, fun _ => ⟨rfl, rfl⟩⟩, Or.inl rfl⟩
theorem slO_nil (ok : Nat → Prop) (w : World) : SlOps w none 0 [] ∧ OpsIn ok w none [] := ⟨⟨Or.inl rfl, Nat.zero_le _, Nat.le_refl _, fun _ => ⟨rfl, rfl⟩⟩, Or.inl rfl⟩
theorem slI_own {B b0 : Nat} {w : World} {a : Option Addr} {cap : Nat} {zs : List Int} (h : w.ownsRow b0 3 1 (.slice a zs.length cap) zs.length (intCells zs)) (hB : B ≤ b0) : SlInts w a cap zs ∧ IntsIn (B ≤ ·) w a zs := by
  have h1 := SlInts.of_owns h
  refine ⟨h1, ?_⟩
  rcases h1.1 with e | ⟨b, off, rfl, _, hc⟩
  · exact Or.inl e
  · exact Or.inr ⟨b, off, rfl, Nat.le_trans hB (World.ownsRow.lt h b rfl).1, hc⟩

/-- A list of frames that the call made. -/
def FramesV (B : Nat) (w : World) (v : Value) (fs : List FrameL) : Prop := ∃ css : List (List Value), css.length = fs.length ∧ w.ownsRow B 43 7 v fs.length css.flatten ∧
  (∀ i (h : i < fs.length), (css.getD i []).length = 7 ∧ FrameG B w (.agg (css.getD i []).toArray) fs[i])
theorem FramesV.same {B : Nat} {w w' : World} {v : Value} {fs : List FrameL} (h : FramesV B w v fs) (hb : SameOn (B ≤ ·) w w') : FramesV B w' v fs := by
  obtain ⟨css, h1, h2, h3⟩ := h
  exact ⟨css, h1, own_same h2 (fun k hk => hb k (World.ownsRow.lt h2 k hk).2 (World.ownsRow.lt h2 k hk).1), fun i hi => ⟨(h3 i hi).1, (h3 i hi).2.same hb⟩⟩
theorem FramesV.mono {B B' : Nat} {w : World} {v : Value} {fs : List FrameL} (h : FramesV B w v fs) (hB : B' ≤ B) : FramesV B' w v fs := by
  obtain ⟨css, h1, h2, h3⟩ := h
  exact ⟨css, h1, own_mono h2 hB, fun i hi => ⟨(h3 i hi).1, (h3 i hi).2.mono hB⟩⟩
theorem FramesV.nil (B : Nat) (w : World) : FramesV B w (.slice none 0 0) [] := ⟨[], rfl, World.ownsRow_nil _ _ _ _, fun _ h => by simp at h⟩

end Go.Proofs.Ytgdkjjmnoikhdab
