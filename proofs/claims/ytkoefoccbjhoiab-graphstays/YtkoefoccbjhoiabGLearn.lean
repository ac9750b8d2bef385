/-
  Plain mathematics: what comes to be known of what one does not hang on changes nothing for it.
-/
import Derived.Test.YtkoefoccbjhoiabGLink
set_option linter.unusedVariables false
set_option linter.unusedSimpArgs false
namespace Go.Proofs.Ytkoefoccbjhoiab
open Go.RowKit

/-- What comes to be known of m. -/
def GraphL.learn (g : GraphL) (m : Nat) (zs : List Int) : GraphL := ⟨upd g.known m true, upd g.deps m zs⟩
theorem learn_adj {g : GraphL} {m : Nat} {zs : List Int} {x : Nat} (hx : x ≠ m) (y : Nat) : (g.learn m zs).adj x y = g.adj x y := by
  unfold GraphL.adj GraphL.learn
  simp only [upd_other _ _ hx]
theorem hangs_learn {g : GraphL} {m : Nat} {zs : List Int} {x y : Nat} (h : Hangs g.adj x y) (hm : ¬ Hangs g.adj x m) : Hangs (g.learn m zs).adj x y := by
  induction h using Hangs.ind with
  | refl => exact .refl _
  | step a h ih =>
    rename_i x z y
    have hx : x ≠ m := fun e => hm (e ▸ .refl _)
    exact .step (by rw [learn_adj hx]; exact a) (ih (fun h => hm (.step a h)))
theorem hangs_unlearn {g : GraphL} {m : Nat} {zs : List Int} {x y : Nat} (h : Hangs (g.learn m zs).adj x y) (hm : ¬ Hangs g.adj x m) : Hangs g.adj x y := by
  induction h using Hangs.ind with
  | refl => exact .refl _
  | step a h ih =>
    rename_i x z y
    have hx : x ≠ m := fun e => hm (e ▸ .refl _)
    rw [learn_adj hx] at a
    exact .step a (ih (fun h => hm (.step a h)))
theorem learn_row {g : GraphL} {m : Nat} {zs : List Int} {x : Nat} (hx : x < 32) (hm : hangB g x m = false) (y : Nat) : hangB g x y = hangB (g.learn m zs) x y := by
  have hm' : ¬ Hangs g.adj x m := fun h => by rw [(hangB_iff g hx m).2 h] at hm; cases hm
  rw [Bool.eq_iff_iff, hangB_iff g hx y, hangB_iff (g.learn m zs) hx y]
  exact ⟨fun h => hangs_learn h hm', fun h => hangs_unlearn h hm'⟩
/-- Whatever comes to be known of what n does not hang on, n is ready, and its order stays. -/
theorem stays_math {g : GraphL} {n m : Nat} {zs : List Int} (hn : n < 32) (hr : knowsB g (hangB g n) 32 = true) (hm : hangB g n m = false) :
    knowsB (g.learn m zs) (hangB (g.learn m zs) n) 32 = true ∧ orderNat (g.learn m zs) n = orderNat g n := by
  have rows : ∀ x, hangB g n x = true → ∀ y, y < 32 → hangB g x y = hangB (g.learn m zs) x y := by
    intro x hx y _
    have hc := clo_hang g hn
    refine learn_row (hc.lt x hx) ?_ y
    cases hxm : hangB g x m
    · rfl
    · rw [hc.closed x m hx hxm] at hm; cases hm
  refine ⟨knowsB_iff.2 fun i hi h => ?_, ?_⟩
  · rw [← learn_row hn hm] at h
    have := knowsB_iff.1 hr i hi h
    show upd g.known m true i = true
    unfold upd
    split
    · rfl
    · exact this
  · rw [order_spec g hn, order_spec _ hn]
    exact (outS_congr (clo_hang g hn) (fun x _ => learn_row hn hm x) rows 32).symm

end Go.Proofs.Ytkoefoccbjhoiab
