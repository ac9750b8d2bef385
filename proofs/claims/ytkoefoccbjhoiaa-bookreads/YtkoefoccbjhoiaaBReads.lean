/-
  The walk of BookReads: it answers true at every log, and writes nothing that was there.
-/
import Derived.Test.YtkoefoccbjhoiaaBRefR
import Derived.Test.YtkoefoccbjhoiaaBTexts
set_option linter.unusedVariables false
set_option linter.unusedSimpArgs false
namespace Go.Proofs.Ytkoefoccbjhoiaa
open Go.RowKit

set_option maxRecDepth 100000 in
set_option maxHeartbeats 1000000 in
theorem bookReads_walk (l : List UInt8) (w : World) (hl : (str l).size ≤ maxLen) :
    Calls Try.prog 12 #[.string (str l)] w fun e w' => e = .returned (.bool true) ∧ Below w.heap.size w w' := by
  have z := str_size l
  rw [z] at hl
  unfold maxLen at hl
  by_cases h : 65536 < l.length
  · go_enter Try.func12, Try.ntmps12
    go_wp2_with fail
    refine (januspostlaw_books_any _).mono ?_
    rintro e w1 ⟨rfl, hb1⟩
    go_wp2_with fail
    go_ret
    exact ⟨rfl, hb1⟩
  · obtain ⟨rs, t, hr, hn, he⟩ := recs_of l.length l (Nat.le_refl _)
    have H1 := fun wx => read_any rs t wx hr hn (by rw [← he]; omega)
    have H2 := fun wx => readLog_any rs t wx hr hn (by rw [← he]; omega)
    have hm := recs_much rs
    have hm2 : (recs rs).length ≤ l.length := by rw [he]; simp
    rw [← he] at H1 H2
    clear he hr hn
    go_enter Try.func12, Try.ntmps12
    go_wp2_with fail
    refine (H1 _).mono ?_
    rintro e w1 ⟨v1, rfl, hown1, hb1⟩
    obtain ⟨a1, cap1, rfl, ht1⟩ := TxAt.of_owns hown1
    go_wp2_with fail
    refine (H2 _).mono ?_
    rintro e w2 ⟨v2, rfl, hown2, hc⟩
    have hb2 := hb1.trans (hc.mono hb1.size)
    obtain ⟨a2, cap2, rfl, ht2⟩ := TxAt.of_owns hown2
    have ht1' := (ht1.later hc).mono hc.size
    clear hc hb1 ht1 hown1 hown2 H1 H2
    go_wp2_with fail
    refine (sameTexts_any a1 cap1 rs a2 cap2 _ (by unfold maxLen; omega) ht1' ht2).mono ?_
    rintro e w3 ⟨rfl, hc⟩
    have hb3 := hb2.trans (hc.mono hb2.size)
    clear hc hb2
    generalize (recs rs).length = p at *
    have tx : ((p : Int) == (p : Int)) = true := by simp
    go_wp2_with fail
    refine (januspostlaw_books_any _).mono ?_
    rintro e w4 ⟨rfl, hc⟩
    have hb4 := hb3.trans (hc.mono hb3.size)
    go_wp2_with fail
    go_ret
    exact ⟨rfl, hb4⟩

end Go.Proofs.Ytkoefoccbjhoiaa
