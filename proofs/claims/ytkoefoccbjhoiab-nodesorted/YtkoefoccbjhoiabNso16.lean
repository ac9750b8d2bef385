/-
  The walk of the statement NodeSorted.
-/
import Derived.Test.YtkoefoccbjhoiabNso6
import Derived.Test.YtkoefoccbjhoiabNso7
import Derived.Test.YtkoefoccbjhoiabNso15
import Derived.Deep.WholeRow
import Derived.Deep.QuietTactic
import Derived.BigQuiet
namespace Go.Proofs.Ytkoefoccbjhoiab
open Go.RowKit

set_option maxRecDepth 100000 in
set_option maxHeartbeats 2000000 in
theorem sorted_walk (p : Int) (a : Option Addr) (cap : Nat) (fs : List FrameL) (w : World) (_hl : fs.length ≤ maxLen) (hz : FrsIn w.heap.size w a fs) :
    Calls Try.prog 11 #[.int .i64 p, .slice a fs.length cap] w fun e w' => e = .returned (.bool true) ∧ Below w.heap.size w w' := by
  obtain ⟨zr, hzr⟩ : ∃ zr, zr = rowF 201 zv := ⟨_, rfl⟩
  have hz0 := Try.zeroNode
  rw [← hzr] at hz0
  have HZR : Hid (zr = rowF 201 zv) := hzr
  have HZ : Hid (FrsIn w.heap.size w a fs) := hz
  clear hzr hz
  obtain ⟨W, hW⟩ : ∃ W, W = w.alloc (.cells zr 41) := ⟨_, rfl⟩
  have r0 : W.heap[w.heap.size]? = some (.cells zr 41 (0, 0)) := by rw [hW]; exact heap_new _ _
  have hbW : Below w.heap.size w W := by rw [hW]; exact (Below.refl _ _).alloc (Nat.le_refl _) _
  have HW : Hid (W = w.alloc (.cells zr 41)) := hW
  clear hW
  go_enter Try.func11, Try.ntmps11
  go_wp2_with fail
  refine (keep_pick_any p 6 _ (by decide) (by decide)).mono ?_
  rintro e w' ⟨⟨q, hq, rfl⟩, hw⟩
  rw [hw]
  clear hw w'
  go_upto_region 4 with (first
    | (refine wpList_alloc_as rfl 41 rfl zr hz0 ?_))
  rw [← HW.out]
  clear HW
  go_loopw [6] (fun i wr => ∃ (k : Nat) (mv : Nat → Value) (s : NodeL), k ≤ fs.length ∧ i = .int .i64 k ∧ Hid (wr.heap[w.heap.size]? = some (.cells (rowF 201 mv) 41 (0, 0))) ∧
      Hid (NodeC (fun b => w.heap.size < b) wr mv s) ∧ Below w.heap.size w wr ∧ Hid (GoodN s ∧ SortN s)) (fun i _ => fs.length - (intOf i).toNat)
  case atStart => exact ⟨0, zv, zeroN, Nat.zero_le _, rfl, by rw [← HZR.out]; exact r0, zero_node _ _, hbW, good_zero, sort_zero⟩
  case round =>
    obtain ⟨k, mv, s, hk, rfl, q0, HN, hB, HS⟩ := hrel
    clear r0 hbW
    have hlt1 : w.heap.size < wr.heap.size := (Array.getElem?_eq_some_iff.1 q0.out).1
    obtain ⟨mr, hmr⟩ : ∃ mr, mr = rowF 201 mv := ⟨_, rfl⟩
    have q0r : wr.heap[w.heap.size]? = some (.cells mr 41 (0, 0)) := by rw [hmr]; exact q0.out
    have hsm : (Try.prog.info? 41).map (·.size) = some mr.size := by rw [hmr, rowF_size]; exact Try.infoNode
    have HMR : Hid (mr = rowF 201 mv) := hmr
    clear hmr q0
    by_cases hgo : k < fs.length ∧ k < 40
    · --ROUND
      obtain ⟨hlt, h40⟩ := hgo
      rcases HZ.out with e | ⟨b, off, rfl, hbb, hc⟩
      · rw [e] at hlt; simp at hlt
      obtain ⟨cs, h7, hra, hfv⟩ := hc k hlt
      clear hc
      obtain ⟨f, hf⟩ : ∃ f, f = fs.getD k zeroF := ⟨_, rfl⟩
      rw [← hf] at hfv
      clear hf
      have hfw := hfv.later hB
      have hrw := range_later hra hB hbb
      clear hra hfv
      obtain ⟨a3, c3, a4, c4, a5, c5, a6, c6, e7, hfl⟩ := hfw
      have HFV : Hid (FrameV wr (.agg #[.int .i64 f.kind, .int .i64 q, .int .i64 f.id, .slice a3 f.ops.length c3, .slice a4 f.deps.length c4, .slice a5 f.ats.length c5, .slice a6 f.vals.length c6]) ⟨f.kind, q, f.id, f.ops, f.deps, f.ats, f.vals⟩) := ⟨a3, c3, a4, c4, a5, c5, a6, c6, rfl, hfl⟩
      clear hfl
      obtain rfl : cs = [.int .i64 f.kind, .int .i64 f.node, .int .i64 f.id, .slice a3 f.ops.length c3, .slice a4 f.deps.length c4, .slice a5 f.ats.length c5, .slice a6 f.vals.length c6] := by
        have := congrArg (fun v => match v with | Value.agg x => x.toList | _ => []) e7
        simpa using this
      clear e7
      obtain ⟨X, hX⟩ : ∃ X, X = wr.alloc (.cells #[.int .i64 f.kind, .int .i64 q, .int .i64 f.id, .slice a3 f.ops.length c3, .slice a4 f.deps.length c4, .slice a5 f.ats.length c5, .slice a6 f.vals.length c6] 43) := ⟨_, rfl⟩
      have HX : Hid (X = wr.alloc (.cells #[.int .i64 f.kind, .int .i64 q, .int .i64 f.id, .slice a3 f.ops.length c3, .slice a4 f.deps.length c4, .slice a5 f.ats.length c5, .slice a6 f.vals.length c6] 43)) := hX
      have hbX : Below wr.heap.size wr X := by rw [hX]; exact (Below.refl _ _).alloc (Nat.le_refl _) _
      have hzX : X.heap.size = wr.heap.size + 1 := by rw [hX]; exact size_push _ _
      have fX : X.heap[wr.heap.size]? = some (.cells #[.int .i64 f.kind, .int .i64 q, .int .i64 f.id, .slice a3 f.ops.length c3, .slice a4 f.deps.length c4, .slice a5 f.ats.length c5, .slice a6 f.vals.length c6] 43 (0, 0)) := by rw [hX]; exact heap_new _ _
      clear hX
      have p0 : X.heap[w.heap.size]? = some (.cells mr 41 (0, 0)) := by rw [hbX.block _ (by omega)]; exact q0r
      go_wp2_with (first
        | (refine wpList_load_mid rfl 43 _ rfl b (off + k * 7) rfl _ _ hrw Try.underlying43 rfl Try.infoFrame7 ?_)
        | (refine wpList_load_row rfl 41 _ rfl w.heap.size rfl 41 mr (0, 0) _ (by rw [← HX.out]; exact p0) Try.underlying41 rfl hsm ?_))
      rw [← HX.out, HMR.out]
      have hto := take_new mv s q _ ⟨f.kind, q, f.id, f.ops, f.deps, f.ats, f.vals⟩ X (HN.out.any.below hbX) (HFV.out.later hbX)
      refine hto.mono ?_
      clear hto
      rintro r y ⟨nv', x, rfl, hn, _, hby⟩
      obtain ⟨fq, hfq⟩ : ∃ fq : FrameL, fq = ⟨f.kind, q, f.id, f.ops, f.deps, f.ats, f.vals⟩ := ⟨_, rfl⟩
      rw [← hfq] at hn ⊢
      have HFQ : Hid (fq = ⟨f.kind, q, f.id, f.ops, f.deps, f.ats, f.vals⟩) := hfq
      obtain ⟨s1, hs1⟩ : ∃ s1, s1 = (takeN s q fq).1 := ⟨_, rfl⟩
      obtain ⟨e1, he1⟩ : ∃ e1, e1 = (takeN s q fq).2.2 := ⟨_, rfl⟩
      rw [← hs1] at hn
      rw [← he1]
      have HS1 : Hid (s1 = (takeN s q fq).1) := hs1
      have HE1 : Hid (e1 = (takeN s q fq).2.2) := he1
      obtain ⟨er, her⟩ : ∃ er, er = rowF 201 nv' := ⟨_, rfl⟩
      rw [← her]
      have hse : (Try.prog.info? 41).map (·.size) = some er.size := by rw [her, rowF_size]; exact Try.infoNode
      have honee : er.all (·.oneCell') = true := by rw [her]; exact rowF_all hn.one
      have hze : mr.size = er.size := by rw [HMR.out, her, rowF_size, rowF_size]
      have hzz : zr.size = er.size := by rw [HZR.out, her, rowF_size, rowF_size]
      have HER : Hid (er = rowF 201 nv') := her
      obtain ⟨V, hV⟩ : ∃ V, V = y.alloc (.cells er 41) := ⟨_, rfl⟩
      have HV : Hid (V = y.alloc (.cells er 41)) := hV
      have hzy := hby.size
      have hbV : Below X.heap.size X V := by rw [hV]; exact hby.alloc hzy _
      have v0 : V.heap[w.heap.size]? = some (.cells mr 41 (0, 0)) := by rw [hbV.block _ (by omega)]; exact p0
      have v1 : V.heap[y.heap.size]? = some (.cells er 41 (0, 0)) := by rw [hV]; exact heap_new _ _
      have fV : V.heap[wr.heap.size]? = some (.cells #[.int .i64 f.kind, .int .i64 q, .int .i64 f.id, .slice a3 f.ops.length c3, .slice a4 f.deps.length c4, .slice a5 f.ats.length c5, .slice a6 f.vals.length c6] 43 (0, 0)) := by rw [hbV.block _ (by omega)]; exact fX
      have hzV : V.heap.size = y.heap.size + 1 := by rw [hV]; exact size_push _ _
      have HNV : Hid (NodeC (fun b => wr.heap.size < b) V nv' s1) := by
        rw [hV]
        exact (hn.mono (fun b _ hb => by omega)).later (SameOn.of_size ((Below.refl _ _).alloc (Nat.le_refl _) _))
      have hbVw : Below wr.heap.size wr V := hbX.trans (hbV.mono (by omega))
      clear hs1 he1 her hV hn hbX hby hbV q0r p0 fX HX hfq
      go_upto_region 9 with (first
        | (refine wpList_alloc_as rfl 41 rfl zr hz0 ?_)
        | (refine wpList_store_row rfl 41 _ _ rfl y.heap.size er rfl rfl 41 _ (heap_new _ _) hse hzz honee ?_))
      rw [World.setRow_alloc_new, ← HV.out]
      clear HV
      by_cases te : e1 = 0
      · have de : (e1 == 0) = true := by simpa using te
        have HTE : Hid (e1 = 0) := te
        obtain ⟨Y, hY⟩ : ∃ Y, Y = V.setRow w.heap.size er := ⟨_, rfl⟩
        have HY : Hid (Y = V.setRow w.heap.size er) := hY
        have z0 : Y.heap[w.heap.size]? = some (.cells er 41 (0, 0)) := by rw [hY]; exact heap_setRow v0
        have hYw : Below w.heap.size w Y := by rw [hY]; exact setRow_below (hB.trans (hbVw.mono (by omega))) (Nat.le_refl _) _
        have HNY : Hid (NodeC (fun b => w.heap.size < b) Y nv' s1) := by
          rw [hY]
          exact (HNV.out.mono (fun b _ hb => by omega)).later (fun b _ hb => setRow_other _ _ (by omega))
        have HGS : Hid (GoodN s1 ∧ SortN s1) := by
          unfold Hid
          rw [HS1.out]
          exact ⟨take_good (by rw [← HE1.out]; exact HTE.out), take_sort HS.out.2⟩
        clear te hY
        go_upto_region 5 with (first
          | (refine wpList_load_row rfl 41 _ rfl y.heap.size rfl 41 er (0, 0) _ v1 Try.underlying41 rfl hse ?_)
          | (refine wpList_store_row rfl 41 _ _ rfl w.heap.size er rfl rfl 41 _ v0 hse hze honee ?_))
        rw [← HY.out]
        go_wp2_with fail
        refine ⟨⟨k + 1, nv', s1, hlt, by rw [Int.natCast_add]; rfl, by rw [← HER.out]; exact z0, HNY, hYw, HGS⟩, by simp [intOf]; omega⟩
      · have de : (e1 == 0) = false := by simpa using te
        have hVw : Below w.heap.size w V := hB.trans (hbVw.mono (by omega))
        have HNW : Hid (NodeC (fun b => w.heap.size < b) V mv s) := HN.out.later (SameOn.of_size hbVw)
        clear te
        go_wp2_with fail
        refine ⟨⟨k + 1, mv, s, hlt, by rw [Int.natCast_add]; rfl, by rw [← HMR.out]; exact v0, HNW, hVw, HS⟩, by simp [intOf]; omega⟩
    · --OUT
      have hout : ¬ k < fs.length ∨ (k < fs.length ∧ ¬ k < 40) := by omega
      clear hgo
      rcases hout with ho | ⟨ho, ho2⟩
      · obtain ⟨wz, hwz⟩ : ∃ wz, wz = wr := ⟨_, rfl⟩
        subst hwz
        have HOL : Hid (s.order.length ≤ 32) := HS.out.1.len
        have HOR : Hid (∀ x ∈ s.order, 0 ≤ x ∧ x < 32) := HS.out.1.lt
        obtain ⟨ao, co, eo, hsl⟩ := HN.out.order.sl
        have HEO : Hid (mv 192 = .slice ao s.order.length co) := eo
        have HIO : Hid (IntsAt wz.heap.size wz ao s.order) := hsl.1
        have HGA : Hid (Calls Try.prog 33 #[.agg mr] wz fun r w' => ∃ gv, r = .returned (.agg (rowF 64 gv)) ∧ GraphIn (fun b => wz.heap.size ≤ b) w' gv s.graph ∧ Below wz.heap.size wz w') := by
          unfold Hid
          rw [HMR.out]
          exact graph_any mv s wz HN.out.any
        have HWw : Hid (Below w.heap.size w wz) := hB
        clear eo hsl hB
        go_upto_region 11 with fail
        go_wp2_with (first
          | (refine wpList_load_row rfl 41 _ rfl w.heap.size rfl 41 mr (0, 0) _ q0r Try.underlying41 rfl hsm ?_))
        refine HGA.out.mono ?_
        rintro r w1 ⟨gv, rfl, hgi, hb1⟩
        obtain ⟨gr, hgr⟩ : ∃ gr, gr = rowF 64 gv := ⟨_, rfl⟩
        rw [← hgr]
        have hsg : (Try.prog.info? 26).map (·.size) = some gr.size := by rw [hgr]; exact Try.sizeGraph gv
        have hong : gr.all (·.oneCell') = true := by rw [hgr]; exact rowF_all hgi.one
        obtain ⟨zg0, hzg⟩ : ∃ zg0, zg0 = rowF 64 zg := ⟨_, rfl⟩
        have hzg0 := Try.zeroGraph
        rw [← hzg] at hzg0
        have hzzg : zg0.size = gr.size := by rw [hzg, hgr, rowF_size, rowF_size]
        have HGR : Hid (gr = rowF 64 gv) := hgr
        clear hzg hgr
        go_upto_region 13 with (first
          | (refine wpList_alloc_as rfl 26 rfl zg0 hzg0 ?_)
          | (refine wpList_store_row rfl 26 _ _ rfl w1.heap.size gr rfl rfl 26 _ (heap_new _ _) hsg hzzg hong ?_))
        have hz66 : #[.int .i64 0, .int .i64 0, .int .i64 0, .int .i64 0, .int .i64 0, .int .i64 0, .int .i64 0, .int .i64 0, .int .i64 0, .int .i64 0, .int .i64 0, .int .i64 0, .int .i64 0, .int .i64 0, .int .i64 0, .int .i64 0, .int .i64 0, .int .i64 0, .int .i64 0, .int .i64 0, .int .i64 0, .int .i64 0, .int .i64 0, .int .i64 0, .int .i64 0, .int .i64 0, .int .i64 0, .int .i64 0, .int .i64 0, .int .i64 0, .int .i64 0, .int .i64 0] = rowF 32 (fun _ => Value.int .i64 0) := rfl
        rw [World.setRow_alloc_new, hz66]
        clear hz66
        obtain ⟨W3, hW3⟩ : ∃ W3, W3 = (w1.alloc (.cells gr 26)).alloc (.cells (rowF 32 (fun _ => Value.int .i64 0)) 66) := ⟨_, rfl⟩
        obtain ⟨g1, g2⟩ := two_rows w1 (.cells gr 26) (.cells (rowF 32 (fun _ => Value.int .i64 0)) 66)
        rw [← hW3] at g1 g2 ⊢
        have hz1 := hb1.size
        have hb13 : Below w1.heap.size w1 W3 := by rw [hW3]; exact ((Below.refl _ _).alloc (Nat.le_refl _) _).alloc (by rw [size_push]; omega) _
        have hz3 : W3.heap.size = w1.heap.size + 2 := by rw [hW3, size_push, size_push]
        have hb3 : Below wz.heap.size wz W3 := hb1.trans (hb13.mono hz1)
        have HBX : Hid (GBox w1.heap.size W3 gv s.graph gr) := ⟨g1, HGR.out, (hgi.c.later hb13).mono hb13.size⟩
        have hat : BlkAt 32 W3 (w1.heap.size + 1) (fun m => .int .i64 (placeL (s.did.take 0) m)) := by
          refine BlkAt.congr ⟨66, g2⟩ (fun i _ => ?_)
          rw [List.take_zero, place_nil]
          rfl
        have c192 : W3.cell? ⟨w.heap.size, 192, none⟩ = some (.slice ao s.order.length co) := by
          have hn0 : BlkAt 201 wz w.heap.size mv := ⟨41, by rw [← HMR.out]; exact q0r⟩
          rw [(hn0.later hb3 hlt1).cell (by decide), HEO.out]
        have HIO3 : Hid (IntsAt wz.heap.size W3 ao s.order) := HIO.out.later hb3
        have HB3 : Hid (Below w.heap.size w W3) := HWw.out.trans (hb3.mono (by omega))
        have HDL : Hid (s.did.length = s.order.length) := by unfold Hid NodeL.did; rw [List.length_map]
        have hol := HOL.out
        have h64 : ((s.order.length : Nat) : Int) ≤ 9223372036854775807 := by omega
        have HGI : Hid (GraphC w1.heap.size w1 gv s.graph) := hgi.c
        have HB13 : Hid (Below w1.heap.size w1 W3) := hb13
        clear hW3 g1 g2 hb1 hb13 hb3 hgi HGA HIO HWw q0r HOL
        go_wp2_with fail
        go_loopw [53] (fun i wo => ∃ j : Nat, j ≤ s.order.length ∧ i = .int .i64 j ∧ Hid (BlkAt 32 wo (w1.heap.size + 1) (fun m => .int .i64 (placeL (s.did.take j) m))) ∧ Hid (W3.grownBy wo (some (w1.heap.size + 1)))) (fun i _ => s.order.length - (intOf i).toNat)
        case atStart => exact ⟨0, Nat.zero_le _, rfl, hat, World.grownBy.refl _ _⟩
        case round =>
          obtain ⟨j, hj, rfl, HAT, HG⟩ := hrel
          clear hat c192
          by_cases hjl : j < s.order.length
          · rcases HIO3.out with e | ⟨b, off, rfl, hbb, hc⟩
            · rw [e] at hjl; simp at hjl
            obtain ⟨x, Hx⟩ : ∃ x : Nat, Hid (s.order.getD j 0 = (x : Int) ∧ s.did.getD j 0 = x ∧ x < 32) := by
              have hm : s.order.getD j 0 ∈ s.order := by
                rw [List.getD, List.getElem?_eq_getElem hjl]
                exact List.getElem_mem hjl
              obtain ⟨h1, h2⟩ := HOR.out _ hm
              refine ⟨(s.order.getD j 0).toNat, by omega, ?_, by omega⟩
              unfold NodeL.did
              simp [List.getD, hjl]
            have e0 : wr.cell? ⟨b, off + j, none⟩ = some (.int .i64 x) := by
              rw [World.grownBy.cell HG.out (hc j hjl) (by simp; omega), Hx.out.1]
            have hx32 := Hx.out.2.2
            have x1 : (0 : Int) ≤ (x : Int) ∧ (x : Int) < 32 := by omega
            have f0 := HAT.out.cell hx32
            have f1 := HAT.out.frozen x
            clear hc
            go_wp2_with fail
            go_roundw
            case rel =>
              refine ⟨j + 1, hjl, by go_num, (HAT.out.put x _).congr (fun i _ => ?_), grown_put_same HG.out _ _⟩
              have hdl := HDL.out
              have hjd : j < s.did.length := by omega
              have ex : s.did[j] = x := by rw [← Hx.out.2.1]; simp [List.getD, hjd]
              have et : s.did.take (j + 1) = s.did.take j ++ [x] := by rw [List.take_succ_eq_append_getElem hjd, ex]
              have hnd := HS.out.2.sorted.nodup
              have hnx : x ∉ s.did.take j := by
                intro hx
                have e2 : s.did = s.did.take (j + 1) ++ s.did.drop (j + 1) := (List.take_append_drop _ _).symm
                rw [e2, et] at hnd
                have := (List.nodup_append.1 (List.nodup_append.1 hnd).1).2.2 x hx x (by simp)
                exact this rfl
              rw [et, place_snoc hnx]
              have el : (s.did.take j).length = j := by rw [List.length_take]; omega
              rw [el]
              by_cases e : i = x
              · rw [if_pos e, if_pos e]; rfl
              · rw [if_neg e, if_neg e]
            case measure => simp [intOf]; omega
          · obtain ⟨V, hV⟩ : ∃ V, V = wr := ⟨_, rfl⟩
            subst hV
            have hje : s.did.take j = s.did := List.take_of_length_le (by have := HDL.out; omega)
            have HATV : Hid (BlkAt 32 V (w1.heap.size + 1) (fun m => .int .i64 (placeL s.did m))) := by have := HAT.out; rw [hje] at this; exact this
            have hgV := HG.out
            have hzV := hgV.size
            have hbV : Below w1.heap.size w1 V := HB13.out.grown hgV (by omega) (by intro k hk; cases hk; omega)
            have HBV : Hid (GBox w1.heap.size V gv s.graph gr) := ⟨by rw [hgV.block _ (by omega) (by simp)]; exact HBX.out.row, HGR.out, (HGI.out.later hbV).mono hbV.size⟩
            have HVw : Hid (Below w.heap.size w V) := HB3.out.grown hgV (by omega) (by intro k hk; cases hk; omega)
            clear hje HAT HG hgV hbV HB13 HGI HBX HB3
            go_wp2_with fail
            go_loopw [63] (fun i wo => ∃ n : Nat, n ≤ 32 ∧ i = .int .i64 n ∧ Hid (Below V.heap.size V wo)) (fun i _ => 32 - (intOf i).toNat)
            case atStart => exact ⟨0, Nat.zero_le _, rfl, Below.refl _ _⟩
            case round =>
              obtain ⟨n, hn, rfl, HBn⟩ := hrel
              obtain ⟨wn, hwn⟩ : ∃ wn, wn = wr := ⟨_, rfl⟩
              subst hwn
              have hzn := HBn.out.size
              by_cases hnl : n < 32
              · have n1 : (0 : Int) ≤ (n : Int) ∧ (n : Int) < 32 := by omega
                have HATn : Hid (BlkAt 32 wn (w1.heap.size + 1) (fun m => .int .i64 (placeL s.did m))) := HATV.out.later HBn.out (by omega)
                have cn := HATn.out.cell hnl
                obtain ⟨pn, hpn⟩ : ∃ pn, pn = placeL s.did n := ⟨_, rfl⟩
                rw [← hpn] at cn
                have HPN : Hid (pn = placeL s.did n) := hpn
                clear hpn
                by_cases tp : pn = 0
                · have dp : ((pn : Int) == 0) = true := by simp [tp]
                  clear tp
                  go_wp2_with fail
                  go_roundw
                  case rel => exact ⟨n + 1, by omega, by go_num, HBn⟩
                  case measure => simp [intOf]; omega
                · have dp : ((pn : Int) == 0) = false := by simp [tp]
                  have HTP : Hid (pn ≠ 0) := tp
                  clear tp
                  have hboxn := HBV.out.later HBn.out
                  have hrn := hboxn.row
                  have hrc := hboxn.reach (n : Int)
                  have hre : reachI s.graph (n : Int) = hangB s.graph n := by
                    funext j
                    unfold reachI
                    have : txnB' (n : Int) = true := by simp [txnB']; omega
                    rw [this]
                    rfl
                  rw [hre] at hrc
                  have HBXn : Hid (GBox w1.heap.size wn gv s.graph gr) := hboxn
                  obtain ⟨mine, hmine⟩ : ∃ mine, mine = hangB s.graph n := ⟨_, rfl⟩
                  rw [← hmine] at hrc
                  have HMI : Hid (mine = hangB s.graph n) := hmine
                  clear hre hboxn hmine
                  go_wp2_with (first
                    | (refine wpList_load_row rfl 26 _ rfl w1.heap.size rfl 26 gr (0, 0) _ hrn Try.underlying26 rfl hsg ?_))
                  refine hrc.mono ?_
                  rintro e w5 ⟨rfl, hb5⟩
                  have HBX5 : Hid (GBox w1.heap.size w5 gv s.graph gr) := HBXn.out.later hb5
                  have HB5 : Hid (Below V.heap.size V w5) := HBn.out.trans (hb5.mono hzn)
                  have hz5 := hb5.size
                  have HAT5 : Hid (BlkAt 32 w5 (w1.heap.size + 1) (fun m => .int .i64 (placeL s.did m))) := HATn.out.later hb5 (by omega)
                  clear hrc hrn hb5 HBXn HATn cn
                  go_wp2_with fail
                  go_loopw [73] (fun i wo => ∃ d : Nat, d ≤ 32 ∧ i = .int .i64 d ∧ Hid (Below w5.heap.size w5 wo)) (fun i _ => 32 - (intOf i).toNat)
                  case atStart => exact ⟨0, Nat.zero_le _, rfl, Below.refl _ _⟩
                  case round =>
                    obtain ⟨d, hd, rfl, HBd⟩ := hrel
                    have hzd := HBd.out.size
                    by_cases hdl : d < 32
                    · have hix := fun wx => run_index_bools Try.underlying22 Try.underlying4 Try.infoBool mine hdl wx
                      have d1 : (0 : Int) ≤ (d : Int) ∧ (d : Int) < 32 := by omega
                      cases tk : mine d
                      · rw [tk] at hix
                        go_wp2_with fail
                        go_roundw
                        case rel => exact ⟨d + 1, by omega, by go_num, HBd⟩
                        case measure => simp [intOf]; omega
                      · rw [tk] at hix
                        by_cases te : d = n
                        · have de : ((d : Int) == (n : Int)) = true := by simp [te]
                          clear te
                          go_wp2_with fail
                          go_roundw
                          case rel => exact ⟨d + 1, by omega, by go_num, HBd⟩
                          case measure => simp [intOf]; omega
                        · have de : ((d : Int) == (n : Int)) = false := by simp; omega
                          have HTE : Hid (d ≠ n) := te
                          clear te
                          have HASK : Hid _ := sorted_asks HS.out.2.sorted (n := n) (d := d) (by rw [← HPN.out]; exact HTP.out) hdl (by rw [← HMI.out]; exact tk) HTE.out
                          have hboxd := HBX5.out.later HBd.out
                          have hrd := hboxd.row
                          have hrc := hboxd.reach (d : Int)
                          have hre : reachI s.graph (d : Int) = hangB s.graph d := by
                            funext j
                            unfold reachI
                            have : txnB' (d : Int) = true := by simp [txnB']; omega
                            rw [this]
                            rfl
                          rw [hre] at hrc
                          have hix2 := fun wx => run_index_bools Try.underlying22 Try.underlying4 Try.infoBool (hangB s.graph d) hnl wx
                          obtain ⟨back, hback⟩ : ∃ back, back = hangB s.graph d n := ⟨_, rfl⟩
                          rw [← hback] at hix2
                          have HBK : Hid (back = hangB s.graph d n) := hback
                          clear hre hback hboxd
                          go_wp2_with (first
                            | (refine wpList_load_row rfl 26 _ rfl w1.heap.size rfl 26 gr (0, 0) _ hrd Try.underlying26 rfl hsg ?_))
                          refine hrc.mono ?_
                          rintro e w10 ⟨rfl, hb10⟩
                          have HB10 : Hid (Below w5.heap.size w5 w10) := HBd.out.trans (hb10.mono hzd)
                          have hz10 := hb10.size
                          have HAT10 : Hid (BlkAt 32 w10 (w1.heap.size + 1) (fun m => .int .i64 (placeL s.did m))) := HAT5.out.later HB10.out (by omega)
                          have cd := HAT10.out.cell hdl
                          have cn := HAT10.out.cell hnl
                          obtain ⟨pd, hpd⟩ : ∃ pd, pd = placeL s.did d := ⟨_, rfl⟩
                          rw [← HPN.out] at cn
                          rw [← hpd] at cd
                          have HPD : Hid (pd = placeL s.did d) := hpd
                          have dd : ((pd : Int) == 0) = false := by have := HASK.out.1; rw [← hpd] at this; simpa using this
                          clear hpd hb10 hrc hrd
                          have HA2 : Hid ((back = false → ¬ pn < pd) ∧ (back = true → (d < n ↔ pd < pn))) := by
                            have := HASK.out.2
                            rw [← HBK.out, ← HPN.out, ← HPD.out] at this
                            exact this
                          go_upto_region 27 with fail
                          cases tb : back
                          · have dg : decide ((pn : Int) < (pd : Int)) = false := by have := HA2.out.1 tb; simp; omega
                            have dg3 : decide (pn < pd) = false := by simpa using dg
                            clear tb hix2
                            go_quiet (fail)
                            go_wp2_with fail
                            refine ⟨⟨d + 1, by omega, by rw [Int.natCast_add]; rfl, below_drewN HB10.out _⟩, by simp [intOf]; omega⟩
                          · by_cases tl : d < n
                            · have dg : decide ((d : Int) < (n : Int)) = true := by simp; omega
                              have dg2 : decide ((pd : Int) < (pn : Int)) = true := by have := (HA2.out.2 tb).1 tl; simp; omega
                              have dg3 : decide (d < n) = true := by simpa using dg
                              have dg4 : decide (pd < pn) = true := by simpa using dg2
                              clear tb hix2 tl
                              go_quiet (fail)
                              go_wp2_with fail
                              refine ⟨⟨d + 1, by omega, by rw [Int.natCast_add]; rfl, below_drewN HB10.out _⟩, by simp [intOf]; omega⟩
                            · have dg : decide ((d : Int) < (n : Int)) = false := by simp; omega
                              have dg2 : decide ((pd : Int) < (pn : Int)) = false := by have := mt (HA2.out.2 tb).2 tl; simp; omega
                              have dg3 : decide (d < n) = false := by simpa using dg
                              have dg4 : decide (pd < pn) = false := by simpa using dg2
                              clear tb hix2 tl
                              go_quiet (fail)
                              go_wp2_with fail
                              refine ⟨⟨d + 1, by omega, by rw [Int.natCast_add]; rfl, below_drewN HB10.out _⟩, by simp [intOf]; omega⟩
                    · go_wp2_with fail
                      go_roundw
                      case rel => exact ⟨n + 1, by omega, by go_num, HB5.out.trans (HBd.out.mono (by have := HB5.out.size; omega))⟩
                      case measure => simp [intOf]; omega
              · go_wp2_with fail
                refine (keep_takes _).mono ?_
                rintro e w9 ⟨rfl, hb9⟩
                go_wp2_with fail
                go_ret
                exact ⟨rfl, HVw.out.trans ((HBn.out.trans (hb9.mono hzn)).mono (by have := HVw.out.size; omega))⟩
      · have ho3 : decide ((k : Int) < 40) = false := by simp; omega
        obtain ⟨wz, hwz⟩ : ∃ wz, wz = wr := ⟨_, rfl⟩
        subst hwz
        have HOL : Hid (s.order.length ≤ 32) := HS.out.1.len
        have HOR : Hid (∀ x ∈ s.order, 0 ≤ x ∧ x < 32) := HS.out.1.lt
        obtain ⟨ao, co, eo, hsl⟩ := HN.out.order.sl
        have HEO : Hid (mv 192 = .slice ao s.order.length co) := eo
        have HIO : Hid (IntsAt wz.heap.size wz ao s.order) := hsl.1
        have HGA : Hid (Calls Try.prog 33 #[.agg mr] wz fun r w' => ∃ gv, r = .returned (.agg (rowF 64 gv)) ∧ GraphIn (fun b => wz.heap.size ≤ b) w' gv s.graph ∧ Below wz.heap.size wz w') := by
          unfold Hid
          rw [HMR.out]
          exact graph_any mv s wz HN.out.any
        have HWw : Hid (Below w.heap.size w wz) := hB
        clear eo hsl hB
        go_upto_region 11 with fail
        go_wp2_with (first
          | (refine wpList_load_row rfl 41 _ rfl w.heap.size rfl 41 mr (0, 0) _ q0r Try.underlying41 rfl hsm ?_))
        refine HGA.out.mono ?_
        rintro r w1 ⟨gv, rfl, hgi, hb1⟩
        obtain ⟨gr, hgr⟩ : ∃ gr, gr = rowF 64 gv := ⟨_, rfl⟩
        rw [← hgr]
        have hsg : (Try.prog.info? 26).map (·.size) = some gr.size := by rw [hgr]; exact Try.sizeGraph gv
        have hong : gr.all (·.oneCell') = true := by rw [hgr]; exact rowF_all hgi.one
        obtain ⟨zg0, hzg⟩ : ∃ zg0, zg0 = rowF 64 zg := ⟨_, rfl⟩
        have hzg0 := Try.zeroGraph
        rw [← hzg] at hzg0
        have hzzg : zg0.size = gr.size := by rw [hzg, hgr, rowF_size, rowF_size]
        have HGR : Hid (gr = rowF 64 gv) := hgr
        clear hzg hgr
        go_upto_region 13 with (first
          | (refine wpList_alloc_as rfl 26 rfl zg0 hzg0 ?_)
          | (refine wpList_store_row rfl 26 _ _ rfl w1.heap.size gr rfl rfl 26 _ (heap_new _ _) hsg hzzg hong ?_))
        have hz66 : #[.int .i64 0, .int .i64 0, .int .i64 0, .int .i64 0, .int .i64 0, .int .i64 0, .int .i64 0, .int .i64 0, .int .i64 0, .int .i64 0, .int .i64 0, .int .i64 0, .int .i64 0, .int .i64 0, .int .i64 0, .int .i64 0, .int .i64 0, .int .i64 0, .int .i64 0, .int .i64 0, .int .i64 0, .int .i64 0, .int .i64 0, .int .i64 0, .int .i64 0, .int .i64 0, .int .i64 0, .int .i64 0, .int .i64 0, .int .i64 0, .int .i64 0, .int .i64 0] = rowF 32 (fun _ => Value.int .i64 0) := rfl
        rw [World.setRow_alloc_new, hz66]
        clear hz66
        obtain ⟨W3, hW3⟩ : ∃ W3, W3 = (w1.alloc (.cells gr 26)).alloc (.cells (rowF 32 (fun _ => Value.int .i64 0)) 66) := ⟨_, rfl⟩
        obtain ⟨g1, g2⟩ := two_rows w1 (.cells gr 26) (.cells (rowF 32 (fun _ => Value.int .i64 0)) 66)
        rw [← hW3] at g1 g2 ⊢
        have hz1 := hb1.size
        have hb13 : Below w1.heap.size w1 W3 := by rw [hW3]; exact ((Below.refl _ _).alloc (Nat.le_refl _) _).alloc (by rw [size_push]; omega) _
        have hz3 : W3.heap.size = w1.heap.size + 2 := by rw [hW3, size_push, size_push]
        have hb3 : Below wz.heap.size wz W3 := hb1.trans (hb13.mono hz1)
        have HBX : Hid (GBox w1.heap.size W3 gv s.graph gr) := ⟨g1, HGR.out, (hgi.c.later hb13).mono hb13.size⟩
        have hat : BlkAt 32 W3 (w1.heap.size + 1) (fun m => .int .i64 (placeL (s.did.take 0) m)) := by
          refine BlkAt.congr ⟨66, g2⟩ (fun i _ => ?_)
          rw [List.take_zero, place_nil]
          rfl
        have c192 : W3.cell? ⟨w.heap.size, 192, none⟩ = some (.slice ao s.order.length co) := by
          have hn0 : BlkAt 201 wz w.heap.size mv := ⟨41, by rw [← HMR.out]; exact q0r⟩
          rw [(hn0.later hb3 hlt1).cell (by decide), HEO.out]
        have HIO3 : Hid (IntsAt wz.heap.size W3 ao s.order) := HIO.out.later hb3
        have HB3 : Hid (Below w.heap.size w W3) := HWw.out.trans (hb3.mono (by omega))
        have HDL : Hid (s.did.length = s.order.length) := by unfold Hid NodeL.did; rw [List.length_map]
        have hol := HOL.out
        have h64 : ((s.order.length : Nat) : Int) ≤ 9223372036854775807 := by omega
        have HGI : Hid (GraphC w1.heap.size w1 gv s.graph) := hgi.c
        have HB13 : Hid (Below w1.heap.size w1 W3) := hb13
        clear hW3 g1 g2 hb1 hb13 hb3 hgi HGA HIO HWw q0r HOL
        go_wp2_with fail
        go_loopw [53] (fun i wo => ∃ j : Nat, j ≤ s.order.length ∧ i = .int .i64 j ∧ Hid (BlkAt 32 wo (w1.heap.size + 1) (fun m => .int .i64 (placeL (s.did.take j) m))) ∧ Hid (W3.grownBy wo (some (w1.heap.size + 1)))) (fun i _ => s.order.length - (intOf i).toNat)
        case atStart => exact ⟨0, Nat.zero_le _, rfl, hat, World.grownBy.refl _ _⟩
        case round =>
          obtain ⟨j, hj, rfl, HAT, HG⟩ := hrel
          clear hat c192
          by_cases hjl : j < s.order.length
          · rcases HIO3.out with e | ⟨b, off, rfl, hbb, hc⟩
            · rw [e] at hjl; simp at hjl
            obtain ⟨x, Hx⟩ : ∃ x : Nat, Hid (s.order.getD j 0 = (x : Int) ∧ s.did.getD j 0 = x ∧ x < 32) := by
              have hm : s.order.getD j 0 ∈ s.order := by
                rw [List.getD, List.getElem?_eq_getElem hjl]
                exact List.getElem_mem hjl
              obtain ⟨h1, h2⟩ := HOR.out _ hm
              refine ⟨(s.order.getD j 0).toNat, by omega, ?_, by omega⟩
              unfold NodeL.did
              simp [List.getD, hjl]
            have e0 : wr.cell? ⟨b, off + j, none⟩ = some (.int .i64 x) := by
              rw [World.grownBy.cell HG.out (hc j hjl) (by simp; omega), Hx.out.1]
            have hx32 := Hx.out.2.2
            have x1 : (0 : Int) ≤ (x : Int) ∧ (x : Int) < 32 := by omega
            have f0 := HAT.out.cell hx32
            have f1 := HAT.out.frozen x
            clear hc
            go_wp2_with fail
            go_roundw
            case rel =>
              refine ⟨j + 1, hjl, by go_num, (HAT.out.put x _).congr (fun i _ => ?_), grown_put_same HG.out _ _⟩
              have hdl := HDL.out
              have hjd : j < s.did.length := by omega
              have ex : s.did[j] = x := by rw [← Hx.out.2.1]; simp [List.getD, hjd]
              have et : s.did.take (j + 1) = s.did.take j ++ [x] := by rw [List.take_succ_eq_append_getElem hjd, ex]
              have hnd := HS.out.2.sorted.nodup
              have hnx : x ∉ s.did.take j := by
                intro hx
                have e2 : s.did = s.did.take (j + 1) ++ s.did.drop (j + 1) := (List.take_append_drop _ _).symm
                rw [e2, et] at hnd
                have := (List.nodup_append.1 (List.nodup_append.1 hnd).1).2.2 x hx x (by simp)
                exact this rfl
              rw [et, place_snoc hnx]
              have el : (s.did.take j).length = j := by rw [List.length_take]; omega
              rw [el]
              by_cases e : i = x
              · rw [if_pos e, if_pos e]; rfl
              · rw [if_neg e, if_neg e]
            case measure => simp [intOf]; omega
          · obtain ⟨V, hV⟩ : ∃ V, V = wr := ⟨_, rfl⟩
            subst hV
            have hje : s.did.take j = s.did := List.take_of_length_le (by have := HDL.out; omega)
            have HATV : Hid (BlkAt 32 V (w1.heap.size + 1) (fun m => .int .i64 (placeL s.did m))) := by have := HAT.out; rw [hje] at this; exact this
            have hgV := HG.out
            have hzV := hgV.size
            have hbV : Below w1.heap.size w1 V := HB13.out.grown hgV (by omega) (by intro k hk; cases hk; omega)
            have HBV : Hid (GBox w1.heap.size V gv s.graph gr) := ⟨by rw [hgV.block _ (by omega) (by simp)]; exact HBX.out.row, HGR.out, (HGI.out.later hbV).mono hbV.size⟩
            have HVw : Hid (Below w.heap.size w V) := HB3.out.grown hgV (by omega) (by intro k hk; cases hk; omega)
            clear hje HAT HG hgV hbV HB13 HGI HBX HB3
            go_wp2_with fail
            go_loopw [63] (fun i wo => ∃ n : Nat, n ≤ 32 ∧ i = .int .i64 n ∧ Hid (Below V.heap.size V wo)) (fun i _ => 32 - (intOf i).toNat)
            case atStart => exact ⟨0, Nat.zero_le _, rfl, Below.refl _ _⟩
            case round =>
              obtain ⟨n, hn, rfl, HBn⟩ := hrel
              obtain ⟨wn, hwn⟩ : ∃ wn, wn = wr := ⟨_, rfl⟩
              subst hwn
              have hzn := HBn.out.size
              by_cases hnl : n < 32
              · have n1 : (0 : Int) ≤ (n : Int) ∧ (n : Int) < 32 := by omega
                have HATn : Hid (BlkAt 32 wn (w1.heap.size + 1) (fun m => .int .i64 (placeL s.did m))) := HATV.out.later HBn.out (by omega)
                have cn := HATn.out.cell hnl
                obtain ⟨pn, hpn⟩ : ∃ pn, pn = placeL s.did n := ⟨_, rfl⟩
                rw [← hpn] at cn
                have HPN : Hid (pn = placeL s.did n) := hpn
                clear hpn
                by_cases tp : pn = 0
                · have dp : ((pn : Int) == 0) = true := by simp [tp]
                  clear tp
                  go_wp2_with fail
                  go_roundw
                  case rel => exact ⟨n + 1, by omega, by go_num, HBn⟩
                  case measure => simp [intOf]; omega
                · have dp : ((pn : Int) == 0) = false := by simp [tp]
                  have HTP : Hid (pn ≠ 0) := tp
                  clear tp
                  have hboxn := HBV.out.later HBn.out
                  have hrn := hboxn.row
                  have hrc := hboxn.reach (n : Int)
                  have hre : reachI s.graph (n : Int) = hangB s.graph n := by
                    funext j
                    unfold reachI
                    have : txnB' (n : Int) = true := by simp [txnB']; omega
                    rw [this]
                    rfl
                  rw [hre] at hrc
                  have HBXn : Hid (GBox w1.heap.size wn gv s.graph gr) := hboxn
                  obtain ⟨mine, hmine⟩ : ∃ mine, mine = hangB s.graph n := ⟨_, rfl⟩
                  rw [← hmine] at hrc
                  have HMI : Hid (mine = hangB s.graph n) := hmine
                  clear hre hboxn hmine
                  go_wp2_with (first
                    | (refine wpList_load_row rfl 26 _ rfl w1.heap.size rfl 26 gr (0, 0) _ hrn Try.underlying26 rfl hsg ?_))
                  refine hrc.mono ?_
                  rintro e w5 ⟨rfl, hb5⟩
                  have HBX5 : Hid (GBox w1.heap.size w5 gv s.graph gr) := HBXn.out.later hb5
                  have HB5 : Hid (Below V.heap.size V w5) := HBn.out.trans (hb5.mono hzn)
                  have hz5 := hb5.size
                  have HAT5 : Hid (BlkAt 32 w5 (w1.heap.size + 1) (fun m => .int .i64 (placeL s.did m))) := HATn.out.later hb5 (by omega)
                  clear hrc hrn hb5 HBXn HATn cn
                  go_wp2_with fail
                  go_loopw [73] (fun i wo => ∃ d : Nat, d ≤ 32 ∧ i = .int .i64 d ∧ Hid (Below w5.heap.size w5 wo)) (fun i _ => 32 - (intOf i).toNat)
                  case atStart => exact ⟨0, Nat.zero_le _, rfl, Below.refl _ _⟩
                  case round =>
                    obtain ⟨d, hd, rfl, HBd⟩ := hrel
                    have hzd := HBd.out.size
                    by_cases hdl : d < 32
                    · have hix := fun wx => run_index_bools Try.underlying22 Try.underlying4 Try.infoBool mine hdl wx
                      have d1 : (0 : Int) ≤ (d : Int) ∧ (d : Int) < 32 := by omega
                      cases tk : mine d
                      · rw [tk] at hix
                        go_wp2_with fail
                        go_roundw
                        case rel => exact ⟨d + 1, by omega, by go_num, HBd⟩
                        case measure => simp [intOf]; omega
                      · rw [tk] at hix
                        by_cases te : d = n
                        · have de : ((d : Int) == (n : Int)) = true := by simp [te]
                          clear te
                          go_wp2_with fail
                          go_roundw
                          case rel => exact ⟨d + 1, by omega, by go_num, HBd⟩
                          case measure => simp [intOf]; omega
                        · have de : ((d : Int) == (n : Int)) = false := by simp; omega
                          have HTE : Hid (d ≠ n) := te
                          clear te
                          have HASK : Hid _ := sorted_asks HS.out.2.sorted (n := n) (d := d) (by rw [← HPN.out]; exact HTP.out) hdl (by rw [← HMI.out]; exact tk) HTE.out
                          have hboxd := HBX5.out.later HBd.out
                          have hrd := hboxd.row
                          have hrc := hboxd.reach (d : Int)
                          have hre : reachI s.graph (d : Int) = hangB s.graph d := by
                            funext j
                            unfold reachI
                            have : txnB' (d : Int) = true := by simp [txnB']; omega
                            rw [this]
                            rfl
                          rw [hre] at hrc
                          have hix2 := fun wx => run_index_bools Try.underlying22 Try.underlying4 Try.infoBool (hangB s.graph d) hnl wx
                          obtain ⟨back, hback⟩ : ∃ back, back = hangB s.graph d n := ⟨_, rfl⟩
                          rw [← hback] at hix2
                          have HBK : Hid (back = hangB s.graph d n) := hback
                          clear hre hback hboxd
                          go_wp2_with (first
                            | (refine wpList_load_row rfl 26 _ rfl w1.heap.size rfl 26 gr (0, 0) _ hrd Try.underlying26 rfl hsg ?_))
                          refine hrc.mono ?_
                          rintro e w10 ⟨rfl, hb10⟩
                          have HB10 : Hid (Below w5.heap.size w5 w10) := HBd.out.trans (hb10.mono hzd)
                          have hz10 := hb10.size
                          have HAT10 : Hid (BlkAt 32 w10 (w1.heap.size + 1) (fun m => .int .i64 (placeL s.did m))) := HAT5.out.later HB10.out (by omega)
                          have cd := HAT10.out.cell hdl
                          have cn := HAT10.out.cell hnl
                          obtain ⟨pd, hpd⟩ : ∃ pd, pd = placeL s.did d := ⟨_, rfl⟩
                          rw [← HPN.out] at cn
                          rw [← hpd] at cd
                          have HPD : Hid (pd = placeL s.did d) := hpd
                          have dd : ((pd : Int) == 0) = false := by have := HASK.out.1; rw [← hpd] at this; simpa using this
                          clear hpd hb10 hrc hrd
                          have HA2 : Hid ((back = false → ¬ pn < pd) ∧ (back = true → (d < n ↔ pd < pn))) := by
                            have := HASK.out.2
                            rw [← HBK.out, ← HPN.out, ← HPD.out] at this
                            exact this
                          go_upto_region 27 with fail
                          cases tb : back
                          · have dg : decide ((pn : Int) < (pd : Int)) = false := by have := HA2.out.1 tb; simp; omega
                            have dg3 : decide (pn < pd) = false := by simpa using dg
                            clear tb hix2
                            go_quiet (fail)
                            go_wp2_with fail
                            refine ⟨⟨d + 1, by omega, by rw [Int.natCast_add]; rfl, below_drewN HB10.out _⟩, by simp [intOf]; omega⟩
                          · by_cases tl : d < n
                            · have dg : decide ((d : Int) < (n : Int)) = true := by simp; omega
                              have dg2 : decide ((pd : Int) < (pn : Int)) = true := by have := (HA2.out.2 tb).1 tl; simp; omega
                              have dg3 : decide (d < n) = true := by simpa using dg
                              have dg4 : decide (pd < pn) = true := by simpa using dg2
                              clear tb hix2 tl
                              go_quiet (fail)
                              go_wp2_with fail
                              refine ⟨⟨d + 1, by omega, by rw [Int.natCast_add]; rfl, below_drewN HB10.out _⟩, by simp [intOf]; omega⟩
                            · have dg : decide ((d : Int) < (n : Int)) = false := by simp; omega
                              have dg2 : decide ((pd : Int) < (pn : Int)) = false := by have := mt (HA2.out.2 tb).2 tl; simp; omega
                              have dg3 : decide (d < n) = false := by simpa using dg
                              have dg4 : decide (pd < pn) = false := by simpa using dg2
                              clear tb hix2 tl
                              go_quiet (fail)
                              go_wp2_with fail
                              refine ⟨⟨d + 1, by omega, by rw [Int.natCast_add]; rfl, below_drewN HB10.out _⟩, by simp [intOf]; omega⟩
                    · go_wp2_with fail
                      go_roundw
                      case rel => exact ⟨n + 1, by omega, by go_num, HB5.out.trans (HBd.out.mono (by have := HB5.out.size; omega))⟩
                      case measure => simp [intOf]; omega
              · go_wp2_with fail
                refine (keep_takes _).mono ?_
                rintro e w9 ⟨rfl, hb9⟩
                go_wp2_with fail
                go_ret
                exact ⟨rfl, HVw.out.trans ((HBn.out.trans (hb9.mono hzn)).mono (by have := HVw.out.size; omega))⟩

end Go.Proofs.Ytkoefoccbjhoiab
