/-
  The contracts of package wire's reader: small and wide, behind a pointer.
-/
import Derived.Test.YtkoefoccbjhoiaaCodec
import Derived.Lib.Strings
import Derived.Laws.BitsLemmas
set_option linter.unusedVariables false
set_option linter.unusedSimpArgs false
namespace Go.Proofs.Ytkoefoccbjhoiaa
open Go.RowKit

/-- All but block c is as it was. -/
structure Beside (c : Nat) (w w' : World) : Prop where
  os : w'.os = w.os
  tape : w'.tape = w.tape
  output : w'.output = w.output
  size : w'.heap.size = w.heap.size
  block : ∀ k, k ≠ c → w'.heap[k]? = w.heap[k]?

theorem Beside.refl (c : Nat) (w : World) : Beside c w w := ⟨rfl, rfl, rfl, rfl, fun _ _ => rfl⟩
theorem Beside.trans {c : Nat} {a b d : World} (h : Beside c a b) (k : Beside c b d) : Beside c a d :=
  ⟨k.os.trans h.os, k.tape.trans h.tape, k.output.trans h.output, k.size.trans h.size, fun i hi => (k.block i hi).trans (h.block i hi)⟩
theorem Beside.setCell {c : Nat} {a w : World} (h : Beside c a w) (o : Nat) (u : Value) : Beside c a (w.setCell ⟨c, o, none⟩ u) :=
  h.trans ⟨rfl, rfl, rfl, by simp [World.setCell], fun k hk => Below.heap_setCell _ _ _ _ hk⟩
theorem Beside.drew {c : Nat} {a w : World} (h : Beside c a w) : Beside c a w.drew := ⟨h.os, h.tape, h.output, h.size, h.block⟩
theorem Beside.below {c B : Nat} {w w' : World} (h : Beside c w w') (hB : B ≤ c) : Below B w w' := ⟨h.os, h.tape, h.output, by rw [h.size]; exact Nat.le_refl _, fun k hk => h.block k (by omega)⟩
theorem Beside.cell {c : Nat} {w w' : World} (h : Beside c w w') {p : Addr} (hp : p.block ≠ c) : w'.cell? p = w.cell? p := World.cell?_of_block (w := w) (h.block p.block hp)
theorem Beside.frozen {c : Nat} {w w' : World} (h : Beside c w w') {p : Addr} (hp : p.block ≠ c) : w'.frozen? p = w.frozen? p := World.frozen?_of_block (w := w) (h.block p.block hp)
theorem Beside.grown {c : Nat} {w w' : World} (h : Beside c w w') : w.grownBy w' (some c) := ⟨h.os, h.tape, h.output, by rw [h.size]; exact Nat.le_refl _, fun k _ hk => h.block k (by intro e; exact hk (by rw [e]))⟩

def str (l : List UInt8) : ByteArray := ⟨l.toArray⟩
theorem str_size (l : List UInt8) : (str l).size = l.length := by show l.toArray.size = _; simp
theorem str_data (l : List UInt8) : (str l).data.toList = l := rfl
theorem str_empty (l : List UInt8) : (str l).toList.isEmpty = l.isEmpty := by
  rw [show (str l).toList = l from by rw [Lib.toList_data]; rfl]
theorem str_cut (c : UInt8) (t : List UInt8) : (str (c :: t)).extract 1 (t.length + 1) = str t := by
  apply ByteArray.ext
  apply Array.toList_inj.1
  rw [Lib.extract_data]
  simp [str]
theorem wrap_byte (c : UInt8) : wrap64 (c.toNat : Int) = (c.toNat : Int) := by
  have := c.toNat_lt
  unfold wrap64
  omega

/-- A reader at block c. -/
def RdAt (w : World) (c : Nat) (r : Rd) : Prop := ∃ t, w.heap[c]? = some (.cells #[.string (str r.rest), .bool r.short] t (0, 0))
theorem RdAt.rest {w : World} {c : Nat} {r : Rd} (h : RdAt w c r) : w.cell? ⟨c, 0, none⟩ = some (.string (str r.rest)) := by
  obtain ⟨t, h⟩ := h
  rw [cell_of_row w c 0 _ t _ h]
  rfl
theorem RdAt.short {w : World} {c : Nat} {r : Rd} (h : RdAt w c r) : w.cell? ⟨c, 1, none⟩ = some (.bool r.short) := by
  obtain ⟨t, h⟩ := h
  rw [cell_of_row w c 1 _ t _ h]
  rfl
theorem RdAt.frozen {w : World} {c : Nat} {r : Rd} (h : RdAt w c r) (i : Nat) : w.frozen? ⟨c, i, none⟩ = false := by
  obtain ⟨t, h⟩ := h
  exact frozen_of_row w c i _ t h
theorem RdAt.putShort {w : World} {c : Nat} {r : Rd} (h : RdAt w c r) (b : Bool) : RdAt (w.setCell ⟨c, 1, none⟩ (.bool b)) c ⟨r.rest, b⟩ := by
  obtain ⟨t, h⟩ := h
  exact ⟨t, by rw [heap_setCell_same w c 1 _ t _ h]; rfl⟩
theorem RdAt.putRest {w : World} {c : Nat} {r : Rd} (h : RdAt w c r) (l : List UInt8) : RdAt (w.setCell ⟨c, 0, none⟩ (.string (str l))) c ⟨l, r.short⟩ := by
  obtain ⟨t, h⟩ := h
  exact ⟨t, by rw [heap_setCell_same w c 0 _ t _ h]; rfl⟩

set_option maxRecDepth 100000 in
set_option maxHeartbeats 400000 in
theorem small_any (c : Nat) (r : Rd) (w : World) (hr : RdAt w c r) :
    Calls Try.prog 91 #[.pointer (some ⟨c, 0, none⟩)] w fun e w' => e = .returned (.int .i64 r.one) ∧ RdAt w' c r.next ∧ Beside c w w' := by
  obtain ⟨l, b⟩ := r
  have c0 := hr.rest
  have f0 := hr.frozen 0
  have f1 := hr.frozen 1
  have c1 := hr.short
  cases l with
  | nil =>
    have H : Hid (RdAt w c ⟨[], b⟩) := hr
    have e0 := str_empty []
    clear hr
    go_enter Try.func91, Try.ntmps91
    go_wp2
    go_ret
    exact ⟨rfl, H.out.putShort true, (Beside.refl _ _).setCell _ _⟩
  | cons x t =>
    have H : Hid (RdAt w c ⟨x :: t, b⟩) := hr
    have e0 := str_empty (x :: t)
    have e1 := str_size (x :: t)
    clear hr
    go_enter Try.func91, Try.ntmps91
    go_wp2
    go_ret
    rw [str_cut]
    exact ⟨ret_int (wrap_byte x), H.out.putRest t, (Beside.refl _ _).setCell _ _⟩

theorem wraps_i64 (n : Int) (h₀ : 0 ≤ n) (h₁ : n < 2 ^ 63) : IntKind.i64.wrap n = n := by rw [IntKind.wrap_i64]; omega
theorem or_byte {n c : Int} (h : 0 ≤ n) (h' : n < 1099511627776) (h0 : 0 ≤ c) (h1 : c < 256) : bits .or .i64 (n * 256) c = n * 256 + c :=
  bits_join .i64 63 (by decide) wraps_i64 8 (n * 256) c (by omega) (by omega) (by omega) h0 (by omega) (by omega)
theorem pow_five : ∀ k : Nat, k < 6 → (256 : Int) ^ k ≤ 1099511627776 := by decide

set_option maxRecDepth 100000 in
set_option maxHeartbeats 400000 in
theorem wide_any (c : Nat) (r : Rd) (w : World) (hr : RdAt w c r) :
    Calls Try.prog 92 #[.pointer (some ⟨c, 0, none⟩)] w fun e w' => e = .returned (.int .i64 r.wide) ∧ RdAt w' c r.next6 ∧ Beside c w w' := by
  go_enter Try.func92, Try.ntmps92
  go_wp2
  go_loopw [3, 4] (fun v i wr => ∃ (k : Nat) (n : Int) (rk : Rd), k ≤ 6 ∧ i = .int .i64 k ∧ v = .int .i64 n ∧ 0 ≤ n ∧ n < 256 ^ k ∧ Hid (Rd.num 6 0 r = Rd.num (6 - k) n rk) ∧ Hid (Rd.after 6 r = Rd.after (6 - k) rk) ∧ RdAt wr c rk ∧ Beside c w wr) (fun _ i _ => 6 - (intOf i).toNat)
  case atStart => exact ⟨0, 0, r, by omega, rfl, rfl, by omega, by omega, rfl, rfl, hr, Beside.refl _ _⟩
  case round =>
    obtain ⟨k, n, rk, hk, rfl, rfl, hn0, hn1, H1, H2, hrk, hB⟩ := hrel
    by_cases hlt : k < 6
    · have hp := pow_five k hlt
      go_wp2_with fail
      refine (small_any c rk wr hrk).mono ?_
      rintro e w1 ⟨rfl, hr1, hb1⟩
      go_wp2
      go_roundw
      case rel =>
        rw [or_byte hn0 (by omega) rk.one_lo rk.one_hi]
        have o1 := rk.one_lo
        have o2 := rk.one_hi
        refine ⟨k + 1, n * 256 + rk.one, rk.next, by omega, by go_num, rfl, by omega, by rw [Int.pow_succ]; omega, ?_, ?_, hr1, hB.trans hb1⟩
        · obtain ⟨j, hj⟩ : ∃ j, 6 - k = j + 1 := ⟨5 - k, by omega⟩
          have hj' : 6 - (k + 1) = j := by omega
          unfold Hid at *
          rw [hj', H1, hj]
          rfl
        · obtain ⟨j, hj⟩ : ∃ j, 6 - k = j + 1 := ⟨5 - k, by omega⟩
          have hj' : 6 - (k + 1) = j := by omega
          unfold Hid at *
          rw [hj', H2, hj]
          rfl
      case measure => simp [intOf]; omega
    · go_wp2
      go_ret
      obtain rfl : k = 6 := by omega
      have e1 : Rd.num 6 0 r = n := H1.out
      have e2 : Rd.after 6 r = rk := H2.out
      refine ⟨ret_int ?_, by unfold Rd.next6; rw [e2]; exact hrk, hB⟩
      unfold Rd.wide wrap64
      rw [e1]
      omega

end Go.Proofs.Ytkoefoccbjhoiaa
