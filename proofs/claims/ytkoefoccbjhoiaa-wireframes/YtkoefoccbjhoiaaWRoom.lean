/-
  The room that a list down in a datum takes.
-/
import Derived.Test.YtkoefoccbjhoiaaWOpen
import Derived.SizedLaws
set_option linter.unusedVariables false
set_option linter.unusedSimpArgs false
namespace Go.Proofs.Ytkoefoccbjhoiaa
open Go.ChangeShapes Go.WideShapes Go.ChangeAt Go.RowKit Go.Deep

/-- The lists take no more bytes than memory has. -/
def Room (f : FrameL) : Prop := f.ops.length * 24 ≤ 140737488355328 ∧ f.deps.length * 8 ≤ 140737488355328 ∧ f.ats.length * 8 ≤ 140737488355328 ∧ f.vals.length * 8 ≤ 140737488355328

section
variable {H : Type} {enc : TypeId × Value → H} {w : World} {base : Nat} {spare : Nat → Bool} {held : Bool}

theorem room_ints {n : Nat} {a : Option Addr} {len cap : Nat} {y : DataW H × List MemPlace} (h : DataW.trod enc Try.prog w base spare held n 32 [.slice a len cap] = some y) (hw : ∀ m ∈ y.1.weights Try.prog 32, m ≤ reachBytes) : len * 8 ≤ 140737488355328 := by
  obtain ⟨d, p⟩ := y
  rcases slice_datum Try.underlying32 h with hq | ⟨el, sp, rfl, hel⟩
  · omega
  · have := hw ((el.length + sp.length) * Try.prog.bytesOf 3) (by simp [DataW.weights, Try.underlying32])
    rw [Try.bytesInt] at this
    unfold reachBytes at this
    omega
theorem room_ops {n : Nat} {a : Option Addr} {len cap : Nat} {y : DataW H × List MemPlace} (h : DataW.trod enc Try.prog w base spare held n 22 [.slice a len cap] = some y) (hw : ∀ m ∈ y.1.weights Try.prog 22, m ≤ reachBytes) : len * 24 ≤ 140737488355328 := by
  obtain ⟨d, p⟩ := y
  rcases slice_datum Try.underlying22 h with hq | ⟨el, sp, rfl, hel⟩
  · omega
  · have := hw ((el.length + sp.length) * Try.prog.bytesOf 28) (by simp [DataW.weights, Try.underlying22])
    rw [Try.bytesOp] at this
    unfold reachBytes at this
    omega
end

end Go.Proofs.Ytkoefoccbjhoiaa
