/-
  A law for the walk, of our own: 'append([]int(nil), xs...)' copies xs into new memory, guarded or not.
-/
import Derived.Test.YtkoefoccbjhoiaaUnion
import Derived.Laws.AppendOwnNone
set_option linter.unusedVariables false
set_option linter.unusedSimpArgs false
namespace Go.Proofs.Ytkoefoccbjhoiaa
open Go.RowKit

theorem wpList_copy_ints {P : Program} {w : World} {ops : Array Oper} {rest : List Oper} {o : Oper} {a : Act} {Q : Exit → Act → World → Prop} (hw : Region.wanted o (yielded ops a.tmps) = true) (s x : Operand) (t : TypeId)
    (ho : o.op = .call { callee := .builtin .append, args := #[s, x], argTypes := #[t, t] })
    (e : TypeId) (i : TypeInfo) (ht : P.underlying t = some (.slice e)) (hi : P.info? e = some i) (hz : i.zero = some (.int .i64 0)) (hsize : i.size = 1) (hby : i.bytes = 8)
    (hs : a.eval s = .slice none 0 0) (ad : Option Addr) (cap : Nat) (zs : List Int) (hx : a.eval x = .slice ad zs.length cap) (hnil : ad = none → zs.length = 0 ∧ cap = 0) (hzs : IntsAt w.heap.size w ad zs) (hbytes : zs.length * 8 ≤ 140737488355328)
    (h : ∀ v' w', w'.ownsRow w.heap.size e 1 v' zs.length (zs.map (Value.int .i64)) → Below w.heap.size w w' → wpList P ops Q rest (a.put o.dst v') w') : wpList P ops Q (o :: rest) a w := by
  refine wpList_wanted hw fun K hK => ?_
  cases ad with
  | none =>
    obtain ⟨h1, rfl⟩ := hnil rfl
    obtain rfl := List.eq_nil_of_length_eq_zero h1
    have hrun := run_append_owned_none (P := P) (w := w) w.heap.size t o.type e i 1 ht hi (.slice none 0 0) 0 [] (World.ownsRow_nil _ _ _ _)
    simp at hx
    unfold Oper.wp
    simp [execOp, ho, resolve, invoke, builtin, hs, hx, hrun, Result.andThen]
    exact hK _ _ (h _ _ (World.ownsRow_nil _ _ _ _) (Below.refl _ _))
  | some ad =>
    refine wp_append_own w s x t ho w.heap.size e i (.int .i64 0) 1 8 ht hi hz hsize hby rfl (by decide) (.slice none 0 0) 0 [] hs (World.ownsRow_nil _ _ _ _) ad zs.length cap (zs.map (Value.int .i64)) hx (by simp) ?_ ?_ ?_ ?_ (Nat.le_refl _) ?_
    · intro j u hu
      rcases hzs with rfl | ⟨b, off, hb, _, hc⟩
      · simp at hu
      · obtain rfl : ad = ⟨b, off, none⟩ := by simpa using hb
        have hj : j < zs.length := by
          have := List.getElem?_eq_some_iff.1 hu
          obtain ⟨hj, _⟩ := this
          simpa using hj
        have ha : (⟨b, off, none⟩ : Addr).add j = ⟨b, off + j, none⟩ := by
          unfold Addr.add
          split
          · subst_vars; simp
          · simp
        rw [ha, hc j hj]
        simp [hj] at hu
        simp [List.getD, hj, hu]
    · intro u hu
      obtain ⟨n, _, rfl⟩ := List.mem_map.1 hu
      rfl
    · unfold maxLen; omega
    · omega
    · intro v' w' h2 h3 _
      refine hK _ _ (h v' w' ?_ ?_)
      · simpa using h2
      · exact (Below.refl _ _).grown h3 (Nat.le_refl _) (by simp [Value.ownBlock])

end Go.Proofs.Ytkoefoccbjhoiaa
