/-
  One frame that a node that is nothing takes.
-/
import Derived.Test.YtgdkjjmnoikhdabNTake
namespace Go.Proofs.Ytgdkjjmnoikhdab
open Go.RowKit

def takesF : FrameL := ⟨3, 3, 4, [(2, 1, 9)], [], [], []⟩
theorem takes_ok : (takeN zeroN 3 takesF).2.2 = 0 := by decide +kernel
theorem takes_len : (takeN zeroN 3 takesF).2.1.length = 2 := by decide +kernel
theorem takes_val : (takeN zeroN 3 takesF).1.vals 1 = 9 := by decide +kernel
theorem takes_ord : (takeN zeroN 3 takesF).1.order.length = 1 := by decide +kernel
theorem Try.zcNode : Try.zeroCells41 = rowF 201 zv := by kernel_rfl

theorem takes_call (W : World) (cs : Array Value) (h : FrameV W (.agg cs) takesF) : ∃ T : NodeL × List FrameL × Int, T.2.2 = 0 ∧ T.2.1.length = 2 ∧ T.1.vals 1 = 9 ∧ T.1.order.length = 1 ∧
    Calls Try.prog 20 #[.agg (rowF 201 zv), .int .i64 3, .agg cs] W fun r w' => ∃ nv' x, r = .returned (.tuple #[.agg (rowF 201 nv'), x, .int .i64 T.2.2]) ∧ NodeC (· < w'.heap.size) w' nv' T.1 ∧ FramesV W.heap.size w' x T.2.1 ∧ Below W.heap.size W w' :=
  ⟨takeN zeroN 3 takesF, takes_ok, takes_len, takes_val, takes_ord, take_any zv zeroN 3 _ takesF W (zero_node _ _) h⟩

end Go.Proofs.Ytgdkjjmnoikhdab
