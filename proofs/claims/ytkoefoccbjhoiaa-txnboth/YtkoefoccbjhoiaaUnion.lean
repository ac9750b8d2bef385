/-
  The contract of package txn's Union.
-/
import Derived.Test.YtkoefoccbjhoiaaInts
set_option linter.unusedVariables false
set_option linter.unusedSimpArgs false
namespace Go.Proofs.Ytkoefoccbjhoiaa
open Go.RowKit

def unionB (a b : List Int) (i : Nat) : Bool := a.contains (i : Int) || b.contains (i : Int)
def unionL (a b : List Int) : List Int := unionTo (unionB a b) 32

set_option maxRecDepth 100000 in
set_option maxHeartbeats 400000 in
theorem union_any (a : Option Addr) (cap : Nat) (zs : List Int) (a' : Option Addr) (cap' : Nat) (ys : List Int) (w : World) (hl : zs.length ≤ maxLen) (hz : IntsAt w.heap.size w a zs) (hl' : ys.length ≤ maxLen) (hy : IntsAt w.heap.size w a' ys) :
    Calls Try.prog 31 #[.slice a zs.length cap, .slice a' ys.length cap'] w fun e w' => ∃ v, e = .returned v ∧ w'.ownsRow w.heap.size 3 1 v (unionL zs ys).length ((unionL zs ys).map (Value.int .i64)) ∧ Below w.heap.size w w' := by
  obtain ⟨i0, hi, hz0, hz1, hz2⟩ := info_parts Try.infoInt
  go_enter Try.func31, Try.ntmps31
  go_wp2_with fail
  have hb0 : Below w.heap.size w (w.alloc (.cells (bools 32 (fun _ => false)) 60)) := (Below.refl _ _).alloc (Nat.le_refl _) _
  have hS0 : SetAt 32 (w.alloc (.cells (bools 32 (fun _ => false)) 60)) w.heap.size (fun _ => false) := ⟨60, heap_new _ _⟩
  rw [← Try.zero60]
  refine (include_any w.heap.size (fun _ => false) a cap zs _ hl (hz.later hb0) hS0).mono ?_
  rintro e w1 ⟨rfl, hS1, hb1⟩
  have hb2 := hb0.trans hb1
  clear hb0 hS0 hb1
  go_wp2_with fail
  refine (include_any w.heap.size _ a' cap' ys _ hl' (hy.later hb2) hS1).mono ?_
  rintro e w2 ⟨rfl, hS2, hb3⟩
  have hb4 := hb2.trans hb3
  have hS : SetAt 32 w2 w.heap.size (unionB zs ys) := hS2.congr (fun i _ => by simp [unionB])
  clear hb2 hS1 hb3 hS2
  obtain ⟨t, ht⟩ := hS
  go_wp2_with (refine wpList_load_row rfl 60 _ rfl w.heap.size rfl t _ (0, 0) _ ht Try.underlying60 rfl (by rw [bools_size]; exact Try.infoSet) ?_)
  have hsz := hb4.size
  clear ht
  go_loopw [6, 14] (fun v i wr => ∃ k : Nat, k ≤ 32 ∧ i = .int .i64 k ∧ wr.ownsRow w.heap.size 3 1 v (unionTo (unionB zs ys) k).length ((unionTo (unionB zs ys) k).map (Value.int .i64)) ∧ Below w.heap.size w wr) (fun _ i _ => 32 - (intOf i).toNat)
  case atStart => exact ⟨0, Nat.zero_le _, rfl, World.ownsRow_nil _ _ _ _, hb4⟩
  case round =>
    obtain ⟨k, hk, rfl, hown, hB⟩ := hrel
    have hsz1 := hB.size
    by_cases hlt : k < 32
    · have hix := fun wx => run_index_bools Try.underlying60 Try.underlying4 Try.infoBool (unionB zs ys) hlt wx
      have hlen := unionTo_len (unionB zs ys) k
      cases tk : unionB zs ys k
      · rw [tk] at hix
        have HM : Hid (unionTo (unionB zs ys) (k + 1) = unionTo (unionB zs ys) k) := unionTo_miss tk
        go_wp2
        go_roundw
        case rel => exact ⟨k + 1, by omega, by go_num, by rw [HM.out]; exact hown, hB⟩
        case measure => simp [intOf]; omega
      · rw [tk] at hix
        have HM : Hid (unionTo (unionB zs ys) (k + 1) = unionTo (unionB zs ys) k ++ [(k : Int)]) := unionTo_hit tk
        go_wp2_with (first
          | (at_builtin; refine wpList_append_own _ rfl _ _ 32 rfl w.heap.size 3 i0 (.int .i64 0) 1 8 Try.underlying32 hi hz0 hz1 hz2 rfl (by decide) _ _ _ rfl (hown.alloc _) ⟨wr.heap.size, 0, none⟩ 1 1 [.int .i64 k] rfl rfl ?c1 ?c2 ?c3 ?c4 ?c5 ?_)
          | go_in)
        case c1 =>
          intro j u hj
          match j, hj with
          | 0, hj => simp at hj; subst hj; simp [Addr.add]
        case c2 => intro u hu; simp at hu; subst hu; rfl
        case c3 => unfold maxLen; omega
        case c4 => omega
        case c5 => simp; omega
        · intro v' w3 hown' hgrow _
          have hB' : Below w.heap.size w w3 := (hB.alloc hsz1 _).grown hgrow (by simp; omega) (owns_block hown)
          clear hgrow hown hix
          go_wp2
          go_roundw
          case rel => exact ⟨k + 1, by omega, by go_num, by rw [HM.out]; simpa using hown', hB'⟩
          case measure => simp [intOf]; omega
    · have e : k = 32 := by omega
      subst e
      go_wp2
      go_ret
      exact ⟨_, rfl, hown, hB⟩

end Go.Proofs.Ytkoefoccbjhoiaa
