/-
  For all lists of numbers, Rising and Union answer exactly what the document says (P1.5): TxnLists answers true at every input, and its arguments read as before. No condition.
-/
import Derived.Test.YtkoefoccbjhoiaaTLists
namespace Go.Proofs.Ytkoefoccbjhoiaa
open Go.ChangeShapes Go.WideShapes Go.ChangeAt Go.RowKit
set_option linter.unusedVariables false

set_option maxRecDepth 100000 in
theorem txnLists_lifted (os : Os) (started : os.Started) (H : Type) (enc : TypeId × Value → H) :
    ReturnsInHanded {} Try.checked os 4 .any (Rows.txnListsSpec.pre6 enc Try.prog Try.f4 Rows.txnListsRow.domain false) (Rows.txnListsSpec.post enc Try.prog Try.f4 false true false false) := by
  refine returnsInHanded_of_change_sized (C := Try.checked) own started (by kernel_rfl) Try.func4
    (ChangeSpec.witness6 (enc := enc) (C := Try.checked) false ⟨#[], #[.slice none 0 0, .slice none 0 0], []⟩ 8 (by kernel_rfl) (by kernel_rfl) (by kernel_rfl) (by kernel_rfl)) ?_
  intro W base args ds gs before hval0 hW hcnd hsz0 _
  have hval : ∀ (j : Nat) t v, Try.f4.params[j]? = some t → args[j]? = some v → Value.okWide Try.prog W .any base t v := hval0
  have hsz : (DataW.weightsEach Try.prog (Try.f4.params.toList ++ Rows.txnListsSpec.plain.varTypes Try.prog) (ds ++ gs)).all (· ≤ reachBytes) = true := hsz0
  have hW' := hW
  obtain ⟨p, q, hA0, hV, rfl, hfz, hnd⟩ := hW
  have hA : DataW.TrodAll enc Try.prog W 0 (fun _ => true) true Try.f4.params.toList args.toList ds p := hA0
  rw [Try.params4] at hA hval hsz
  obtain ⟨v0, vs0, d0, ds0, p0, q0, hargs, rfl, rfl, h0, r0⟩ := trodAll_cons hA
  obtain ⟨v1, vs1, d1, ds1, p1, q1, rfl, rfl, rfl, h1, r1⟩ := trodAll_cons r0
  obtain ⟨rfl, rfl, rfl⟩ := trodAll_nil r1
  obtain rfl : args = #[v0, v1] := by cases args; simp_all
  obtain ⟨rfl, rfl⟩ := trodVars_none hV
  obtain ⟨a0, len0, cap0, rfl⟩ := okWide_slice Try.underlying32 (hval 0 32 v0 rfl rfl)
  have k0 := h0
  have lt0 : ∀ x ∈ p0, x.block < W.heap.size := by obtain ⟨m, hm⟩ := k0; exact DataW.trod_lt m _ _ _ hm
  obtain ⟨fu0, hf0⟩ : ∃ fuel, DataW.trod enc Try.prog W 0 (fun _ => true) true fuel 32 [.slice a0 len0 cap0] = some (d0, p0) := by obtain ⟨m, hm⟩ := h0; exact ⟨m, by simpa [Value.cells] using hm⟩
  obtain ⟨hl0, z0, rfl, hz0, hw0, hn0, hc0⟩ := open_intsAt Try.underlying32 Try.underlying3 Try.cellsInt hf0
  have s0 : z0.length * 8 ≤ 140737488351232 := by
    rcases slice_datum Try.underlying32 hf0 with hq | ⟨el, sp, hd, hel⟩
    · omega
    · have hq := sized_slice hsz (j := 0) (t := 32) (e := 3) rfl (by rw [hd]; rfl) Try.underlying32
      rw [Try.bytesInt] at hq
      unfold reachBytes at hq
      omega
  obtain ⟨a1, len1, cap1, rfl⟩ := okWide_slice Try.underlying32 (hval 1 32 v1 rfl rfl)
  have k1 := h1
  have lt1 : ∀ x ∈ p1, x.block < W.heap.size := by obtain ⟨m, hm⟩ := k1; exact DataW.trod_lt m _ _ _ hm
  obtain ⟨fu1, hf1⟩ : ∃ fuel, DataW.trod enc Try.prog W 0 (fun _ => true) true fuel 32 [.slice a1 len1 cap1] = some (d1, p1) := by obtain ⟨m, hm⟩ := h1; exact ⟨m, by simpa [Value.cells] using hm⟩
  obtain ⟨hl1, z1, rfl, hz1, hw1, hn1, hc1⟩ := open_intsAt Try.underlying32 Try.underlying3 Try.cellsInt hf1
  have s1 : z1.length * 8 ≤ 140737488351232 := by
    rcases slice_datum Try.underlying32 hf1 with hq | ⟨el, sp, hd, hel⟩
    · omega
    · have hq := sized_slice hsz (j := 1) (t := 32) (e := 3) rfl (by rw [hd]; rfl) Try.underlying32
      rw [Try.bytesInt] at hq
      unfold reachBytes at hq
      omega
  clear hA0 hval0
  refine (lists_walk a0 cap0 z0 a1 cap1 z1 W hl0 hz0 hw0 hn0 s0 hl1 hz1 hw1 hn1 s1).mono fun e W' ⟨he, bel⟩ => ?_
  subst he
  exact ⟨_, rfl, _, _, _, [], _, [], hW', trodAll_mk1 (shut_bool Try.underlying4 _), (trodAll_cons_mk (Below.trod laidOut (by kernel_rfl) (of_decide_eq_true (by kernel_rfl)) k0 bel lt0) (trodAll_cons_mk (Below.trod laidOut (by kernel_rfl) (of_decide_eq_true (by kernel_rfl)) k1 bel lt1) trodAll_mk0)), rfl, bel.frame _, fun h => by cases h⟩

/-- THE STATEMENT. -/
theorem txnLists_holds : Rows.TxnListsSaid :=
  OpenClaim.holds_of_wide 4 Try.f4 rfl rfl rfl rfl rfl rfl rfl ⟨rfl, rfl, rfl, rfl, rfl⟩ rfl rfl rfl rfl rfl (by kernel_rfl) Try.func4 (by kernel_rfl)
    (of_decide_eq_true (by kernel_rfl)) (by unfold Func.isWrapper; first | (rw [if_pos (by decide +kernel)]; kernel_rfl) | (rw [if_neg (by decide +kernel)]; exact ⟨rfl, rfl⟩))
    (fun os started H enc _ => txnLists_lifted os started H enc)

#print axioms txnLists_holds
end Go.Proofs.Ytkoefoccbjhoiaa
