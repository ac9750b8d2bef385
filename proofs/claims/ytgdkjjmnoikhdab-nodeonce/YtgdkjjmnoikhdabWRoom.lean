/-
  The room that a list down in a datum takes.
-/
import Derived.Test.YtgdkjjmnoikhdabWOpen
import Derived.SizedLaws
namespace Go.Proofs.Ytgdkjjmnoikhdab
open Go.ChangeShapes Go.WideShapes Go.ChangeAt Go.RowKit Go.Deep

section
variable {H : Type} {enc : TypeId × Value → H} {w : World} {base : Nat} {spare : Nat → Bool} {held : Bool}

theorem room_ints {n : Nat} {a : Option Addr} {len cap : Nat} {y : DataW H × List MemPlace} (h : DataW.trod enc Try.prog w base spare held n 23 [.slice a len cap] = some y) (hw : ∀ m ∈ y.1.weights Try.prog 23, m ≤ reachBytes) : len * 8 ≤ 140737488355328 := by
  obtain ⟨d, p⟩ := y
  rcases slice_datum Try.underlying23 h with hq | ⟨el, sp, rfl, hel⟩
  · omega
  · have := hw ((el.length + sp.length) * Try.prog.bytesOf 3) (by simp [DataW.weights, Try.underlying23])
    rw [Try.bytesInt] at this
    unfold reachBytes at this
    omega
theorem room_ops {n : Nat} {a : Option Addr} {len cap : Nat} {y : DataW H × List MemPlace} (h : DataW.trod enc Try.prog w base spare held n 35 [.slice a len cap] = some y) (hw : ∀ m ∈ y.1.weights Try.prog 35, m ≤ reachBytes) : len * 24 ≤ 140737488355328 := by
  obtain ⟨d, p⟩ := y
  rcases slice_datum Try.underlying35 h with hq | ⟨el, sp, rfl, hel⟩
  · omega
  · have := hw ((el.length + sp.length) * Try.prog.bytesOf 88) (by simp [DataW.weights, Try.underlying35])
    rw [Try.bytesOp] at this
    unfold reachBytes at this
    omega
end

end Go.Proofs.Ytgdkjjmnoikhdab
