/-
  The walk of BookWrites: it answers true at every log, record and number, and writes nothing that was there.
-/
import Derived.Test.YtkoefoccbjhoiaaBRefW
import Derived.Test.YtkoefoccbjhoiaaBTexts
set_option linter.unusedVariables false
set_option linter.unusedSimpArgs false
namespace Go.Proofs.Ytkoefoccbjhoiaa
open Go.RowKit

set_option maxRecDepth 100000 in
set_option maxHeartbeats 1000000 in
theorem writes_walk (l s : List UInt8) (n : Int) (w : World) (hl : (str l).size ≤ maxLen) (hs : (str s).size ≤ maxLen) :
    Calls Try.prog 11 #[.string (str l), .string (str s), .int .i64 n] w fun e w' => e = .returned (.bool true) ∧ Below w.heap.size w w' := by
  rw [str_size] at hl hs
  go_enter Try.func11, Try.ntmps11
  go_wp2_with fail
  refine (write_any l s _ hl hs).mono ?_
  rintro e w1 ⟨rfl, hb1⟩
  go_wp2_with fail
  refine (writeLog_any l s _ hl hs).mono ?_
  rintro e w2 ⟨rfl, hc⟩
  have hb2 := hb1.trans (hc.mono hb1.size)
  clear hc hb1
  generalize wErr l s = x
  generalize wOut l s = y
  have tx : (x == x) = true := by simp
  go_wp2_with fail
  refine (tear_any l s n _ hl hs).mono ?_
  rintro e w3 ⟨rfl, hc⟩
  have hb3 := hb2.trans (hc.mono hb2.size)
  clear hc hb2
  go_wp2_with fail
  refine (tearLog_any l s n _ hl hs).mono ?_
  rintro e w4 ⟨rfl, hc⟩
  have hb4 := hb3.trans (hc.mono hb3.size)
  clear hc hb3
  generalize tearL l s n = z
  go_wp2_with fail
  refine (januspostlaw_books_any _).mono ?_
  rintro e w5 ⟨rfl, hc⟩
  have hb5 := hb4.trans (hc.mono hb4.size)
  go_wp2_with fail
  go_ret
  exact ⟨rfl, hb5⟩

end Go.Proofs.Ytkoefoccbjhoiaa
