/-
  The contracts of the document's own byteOf and sixBytes.
-/
import Derived.Test.YtkoefoccbjhoiaaWEncode
set_option linter.unusedVariables false
set_option linter.unusedSimpArgs false
namespace Go.Proofs.Ytkoefoccbjhoiaa
open Go.RowKit

theorem str_cat (l m : List UInt8) : str l ++ str m = str (l ++ m) := by
  apply ByteArray.ext
  simp [str]

set_option maxRecDepth 100000 in
set_option maxHeartbeats 400000 in
theorem byteOf_any (n : Int) (w : World) (h0 : 0 ≤ n) (h1 : n < 256) :
    Calls Try.prog 71 #[.int .i64 n] w fun e w' => e = .returned (.string (str [byt n])) ∧ Below w.heap.size w w' := by
  have hown := World.ownsRow_lit (base := w.heap.size) (e := 5) (size := 1) w #[.int .u8 n] 1 (Nat.le_refl _) (by decide) rfl
  have e1 : byCells [byt n] = [.int .u8 n] := by simp [byCells, byt_nat h0 h1]
  have hown' : (w.alloc (.cells #[.int .u8 n] 5)).ownsRow w.heap.size 5 1 (.slice (some ⟨w.heap.size, 0, none⟩) 1 1) 1 (byCells [byt n]) := by rw [e1]; exact hown
  have hcv := conv_bytes hown'
  clear hown hown' e1
  go_enter Try.func71, Try.ntmps71
  go_wp2
  go_ret
  exact ⟨rfl, (Below.refl _ _).alloc (Nat.le_refl _) _⟩

/-- the last k bytes of q, in front of l -/
def lastOf : Nat → Int → List UInt8 → List UInt8
  | 0, _, l => l
  | k + 1, q, l => lastOf k (q / 256) (byt (q % 256) :: l)
theorem last_six (q : Int) : lastOf 6 q [] = sixAt q := by
  simp only [lastOf, sixAt, byt_mod]
  have e2 : q / 256 / 256 = q / 65536 := by omega
  have e3 : q / 256 / 256 / 256 = q / 16777216 := by omega
  have e4 : q / 256 / 256 / 256 / 256 = q / 4294967296 := by omega
  have e5 : q / 256 / 256 / 256 / 256 / 256 = q / 1099511627776 := by omega
  rw [e5, e4, e3, e2]

set_option maxRecDepth 100000 in
set_option maxHeartbeats 400000 in
theorem sixBytes_any (n : Int) (w : World) (h0 : -140737488355328 ≤ n) (h1 : n < 140737488355328) :
    Calls Try.prog 72 #[.int .i64 n] w fun e w' => e = .returned (.string (str (six n))) ∧ Below w.heap.size w w' := by
  obtain ⟨q, hq⟩ : ∃ q, q = n + 140737488355328 := ⟨_, rfl⟩
  have q0 : 0 ≤ q := by omega
  have q1 : q < 281474976710656 := by omega
  have HS : Hid (six n = sixAt q) := by unfold Hid six; rw [hq]
  have HQ : Hid (n + 140737488355328 = q) := hq.symm
  clear hq
  go_enter Try.func72, Try.ntmps72
  go_wp2
  rw [HQ.out]
  go_loopw [0, 3, 6] (fun u s i wr => ∃ (k : Nat) (p : Int) (l : List UInt8), k ≤ 6 ∧ i = .int .i64 k ∧ u = .int .i64 p ∧ s = .string (str l) ∧ l.length = k ∧ 0 ≤ p ∧ p < 281474976710656 ∧ Hid (sixAt q = lastOf (6 - k) p l) ∧ Below w.heap.size w wr) (fun _ _ i _ => 6 - (intOf i).toNat)
  case atStart => exact ⟨0, q, [], by omega, rfl, rfl, rfl, rfl, q0, q1, (last_six q).symm, Below.refl _ _⟩
  case round =>
    obtain ⟨k, p, l, hk, rfl, rfl, rfl, hl, p0, p1, HR, hB⟩ := hrel
    by_cases hlt : k < 6
    · have hsz := str_size l
      have em : p.tmod 256 = p % 256 := Int.tmod_eq_emod_of_nonneg p0
      have ed : p.tdiv 256 = p / 256 := Int.tdiv_eq_ediv_of_nonneg p0
      go_wp2_with fail
      refine (byteOf_any (p % 256) _ (by omega) (by omega)).mono ?_
      rintro e w1 ⟨rfl, hc⟩
      have hb1 := hB.trans (hc.mono hB.size)
      have ea := str_cat [byt (p % 256)] l
      have e1 := str_size [byt (p % 256)]
      clear hc
      go_wp2
      go_roundw
      case rel =>
        refine ⟨k + 1, p / 256, byt (p % 256) :: l, by omega, by go_num, rfl, rfl, by simp [hl], by omega, by omega, ?_, hb1⟩
        obtain ⟨j, hj⟩ : ∃ j, 6 - k = j + 1 := ⟨5 - k, by omega⟩
        have hj' : 6 - (k + 1) = j := by omega
        unfold Hid at *
        rw [hj', HR, hj]
        rfl
      case measure => simp [intOf]; omega
    · have ek : k = 6 := by omega
      have HF : Hid (six n = l) := by
        unfold Hid
        rw [HS.out, HR.out, show 6 - k = 0 by omega]
        rfl
      go_wp2
      go_ret
      exact ⟨by rw [HF.out]; rfl, hB⟩

end Go.Proofs.Ytkoefoccbjhoiaa
