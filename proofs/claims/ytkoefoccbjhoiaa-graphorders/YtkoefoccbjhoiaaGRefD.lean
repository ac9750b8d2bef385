/-
  The contract of the document's own ReadyIn.
-/
import Derived.Test.YtkoefoccbjhoiaaGRefR
import Derived.Deep.WholeRow
set_option linter.unusedVariables false
set_option linter.unusedSimpArgs false
namespace Go.Proofs.Ytkoefoccbjhoiaa
open Go.RowKit

theorem ready_known {g : GraphL} {n : Int} : readyI g n = (txnB n && knowsB g (reachI g n) 32) := by
  have e : txnB n = txnB' n := rfl
  rw [e]
  unfold readyI
  cases h : txnB' n
  · rfl
  · rw [Bool.true_and, Bool.true_and]
    congr 1
    funext j
    unfold reachI
    rw [h]
    rfl

set_option maxRecDepth 100000 in
set_option maxHeartbeats 1000000 in
theorem readyIn_any (gv : Nat → Value) (g : GraphL) (n : Int) (w : World) (hg : GraphC w.heap.size w gv g) :
    Calls Try.prog 59 #[.agg (rowF 64 gv), .int .i64 n] w fun e w' => e = .returned (.bool (readyI g n)) ∧ Below w.heap.size w w' := by
  obtain ⟨gr, hgr⟩ : ∃ gr, gr = rowF 64 gv := ⟨_, rfl⟩
  rw [← hgr]
  have hsg := Try.sizeGraph gv
  rw [← hgr] at hsg
  have HGR : Hid (gr = rowF 64 gv) := hgr
  clear hgr
  have hb : Below w.heap.size w (w.alloc (.cells gr 63)) := (Below.refl _ _).alloc (Nat.le_refl _) _
  have hr1 : (w.alloc (.cells gr 63)).heap[w.heap.size]? = some (.cells gr 63 (0, 0)) := heap_new _ _
  have hz : (w.alloc (.cells gr 63)).heap.size = w.heap.size + 1 := size_push _ _
  go_enter Try.func59, Try.ntmps59
  go_upto_region 1 with fail
  obtain ⟨W, hW⟩ : ∃ W, W = w.alloc (.cells gr 63) := ⟨_, rfl⟩
  rw [← hW] at hr1 hb hz ⊢
  clear hW
  have hre := reaches_any gv g n W ((hg.later hb).mono (by omega))
  rw [← HGR.out] at hre
  have ER : Hid (readyI g n = (txnB n && knowsB g (reachI g n) 32)) := ready_known
  have HK : Hid (∀ i, i < 32 → W.cell? ⟨w.heap.size, i, none⟩ = some (.bool (g.known i))) := by
    intro i hi
    rw [cell_of_row W _ i _ _ _ hr1, HGR.out, rowF_get gv (by omega), hg.known i hi]
  obtain ⟨S, hS⟩ : ∃ S, S = reachI g n := ⟨_, rfl⟩
  rw [← hS] at hre ER
  clear hS hg
  go_wp2_with (first
    | (refine wpList_load_row rfl 63 _ rfl w.heap.size rfl 63 gr (0, 0) _ hr1 Try.underlying63 rfl hsg ?_))
  refine hre.mono ?_
  rintro e w1 ⟨rfl, hb1⟩
  have HB1 : Hid (Below w.heap.size w w1) := hb.trans (hb1.mono (by omega))
  have HK1 : Hid (∀ i, i < 32 → w1.cell? ⟨w.heap.size, i, none⟩ = some (.bool (g.known i))) := fun i hi => by rw [hb1.cell (p := ⟨w.heap.size, i, none⟩) (by show w.heap.size < W.heap.size; omega)]; exact HK.out i hi
  clear hre hb hb1 hr1 hz HK
  go_wp2_with fail
  go_loop [10] (fun v => ∃ k : Nat, k ≤ 32 ∧ v = .int .i64 k ∧ knowsB g S k = true) (fun v => 32 - (intOf v).toNat)
  case atStart => exact ⟨0, Nat.zero_le _, rfl, rfl⟩
  case round =>
    obtain ⟨k, hk, rfl, hko⟩ := hrel
    by_cases hlt : k < 32
    · have hix := fun wx => run_index_bools Try.underlying60 Try.underlying4 Try.infoBool S hlt wx
      have c0 := HK1.out k hlt
      have k1 : (0 : Int) ≤ (k : Int) ∧ (k : Int) < 32 := by omega
      have HKO : Hid (knowsB g S k = true) := hko
      clear hko
      cases tk : S k
      · rw [tk] at hix
        go_wp2_with fail
        go_round
        case rel => exact ⟨k + 1, by omega, by go_num, knowsB_hit HKO.out (by rw [tk]; rfl)⟩
        case measure => simp [intOf]; omega
      · rw [tk] at hix
        cases tg : g.known k
        · rw [tg] at c0
          have HF : Hid (readyI g n = false) := by unfold Hid; rw [ER.out, knowsB_miss hlt (by rw [tk, tg]; rfl), Bool.and_false]
          go_wp2_with fail
          go_ret
          exact ⟨ret_bool HF.out.symm, HB1.out⟩
        · rw [tg] at c0
          go_wp2_with fail
          go_round
          case rel => exact ⟨k + 1, by omega, by go_num, knowsB_hit HKO.out (by rw [tk, tg]; rfl)⟩
          case measure => simp [intOf]; omega
    · have e : k = 32 := by omega
      subst e
      have HKO : Hid (readyI g n = txnB n) := by unfold Hid; rw [ER.out, hko, Bool.and_true]
      clear hko
      go_wp2_with (first
        | (go_at_call 67; refine (isTxn_any _ _).mono ?_; rintro e w' ⟨rfl, rfl⟩))
      go_ret
      exact ⟨ret_bool HKO.out.symm, HB1.out⟩

end Go.Proofs.Ytkoefoccbjhoiaa
