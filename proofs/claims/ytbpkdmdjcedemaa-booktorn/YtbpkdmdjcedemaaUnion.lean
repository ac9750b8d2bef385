/-
  The contract of package txn's Union.
-/
import Derived.Test.YtbpkdmdjcedemaaInts
namespace Go.Proofs.Ytbpkdmdjcedemaa
open Go.RowKit

theorem run_index_bools {P : Program} {t e : TypeId} {n : Nat} (ht : P.underlying t = some (.array n e)) (he : P.underlying e = some .bool) (hi : (P.info? e).map (·.size) = some 1) (S : Nat → Bool) {k : Nat} (hk : k < n) (w : World) :
    (Instr.index t (.agg (bools n S)) (.int .i64 (k : Int))).run P w = .ok (.bool (S k)) w := by
  have h1 : (0 : Int) ≤ (k : Int) ∧ (k : Int) < (n : Int) := by omega
  cases hq : P.info? e with
  | none => simp [hq] at hi
  | some i =>
    have hs : i.size = 1 := by simpa [hq] using hi
    have hg := bools_get S hk
    simp [Instr.index, run_underlying ht, run_underlying he, asIntOf, h1, part, isAgg, sizeOf, typeInfo, hq, hs, hg, go_sem]
    intro h
    omega

theorem owns_block {w : World} {base : Nat} {e : TypeId} {size : Nat} {v : Value} {n : Nat} {xs : List Value} (h : w.ownsRow base e size v n xs) : ∀ k, v.ownBlock = some k → base ≤ k := by
  intro k hk
  rcases h.2 with ⟨rfl, _⟩ | ⟨g, cap, cur, rfl, hg, _⟩
  · simp [Value.ownBlock] at hk
  · simp [Value.ownBlock] at hk
    omega

/-- What the call made for itself, as a slice of ints. -/
theorem IntsAt.of_owns {w : World} {base : Nat} {e : TypeId} {v : Value} {zs : List Int} (h : w.ownsRow base e 1 v zs.length (zs.map (Value.int .i64))) : ∃ a cap, v = .slice a zs.length cap ∧ IntsAt w.heap.size w a zs := by
  rcases h.2 with ⟨rfl, hn⟩ | ⟨g, cap, cur, rfl, hg, hh, hc, hm, hcur, hx⟩
  · exact ⟨none, 0, by rw [hn], Or.inl (List.eq_nil_of_length_eq_zero hn)⟩
  · have hlt : g < w.heap.size := by
      by_cases hq : g < w.heap.size
      · exact hq
      · rw [Array.getElem?_eq_none (by omega)] at hh
        cases hh
    refine ⟨some ⟨g, 0, none⟩, cap, rfl, Or.inr ⟨g, 0, rfl, hlt, fun i hi => ?_⟩⟩
    rw [cell_of_row w g (0 + i) cur e _ hh]
    have h1 : (cur.toList.take (zs.length * 1))[i]? = (zs.map (Value.int .i64))[i]? := by rw [hx]
    rw [List.getElem?_take_of_lt (by omega)] at h1
    simp only [Array.getElem?_toList] at h1
    rw [Nat.zero_add, h1]
    simp [List.getD, hi]

def unionB (a b : List Int) (i : Nat) : Bool := a.contains (i : Int) || b.contains (i : Int)
def unionTo (p : Nat → Bool) (k : Nat) : List Int := ((List.range k).filter p).map Int.ofNat
def unionL (a b : List Int) : List Int := unionTo (unionB a b) 32

theorem unionTo_hit {p : Nat → Bool} {k : Nat} (h : p k = true) : unionTo p (k + 1) = unionTo p k ++ [(k : Int)] := by
  unfold unionTo
  rw [List.range_succ, List.filter_append, List.map_append]
  simp [h]
theorem unionTo_miss {p : Nat → Bool} {k : Nat} (h : p k = false) : unionTo p (k + 1) = unionTo p k := by
  unfold unionTo
  rw [List.range_succ, List.filter_append, List.map_append]
  simp [h]
theorem unionTo_len (p : Nat → Bool) (k : Nat) : (unionTo p k).length ≤ k := by
  unfold unionTo
  have := List.length_filter_le p (List.range k)
  simpa using this

theorem Try.zero64 : bools 32 (fun _ => false) = #[.bool false, .bool false, .bool false, .bool false, .bool false, .bool false, .bool false, .bool false, .bool false, .bool false, .bool false, .bool false, .bool false, .bool false, .bool false, .bool false, .bool false, .bool false, .bool false, .bool false, .bool false, .bool false, .bool false, .bool false, .bool false, .bool false, .bool false, .bool false, .bool false, .bool false, .bool false, .bool false] := by rfl
theorem Try.infoInt : (Try.prog.info? 3).map (fun i => (i.zero, i.size, i.bytes)) = some (some (.int .i64 0), 1, 8) := by kernel_rfl
theorem Try.infoBool : (Try.prog.info? 4).map (·.size) = some 1 := by kernel_rfl
theorem Try.infoSet : (Try.prog.info? 64).map (·.size) = some 32 := by kernel_rfl

set_option maxHeartbeats 400000 in
theorem union_any (a : Option Addr) (cap : Nat) (zs : List Int) (a' : Option Addr) (cap' : Nat) (ys : List Int) (w : World) (hl : zs.length ≤ maxLen) (hz : IntsAt w.heap.size w a zs) (hl' : ys.length ≤ maxLen) (hy : IntsAt w.heap.size w a' ys) :
    Calls Try.prog 30 #[.slice a zs.length cap, .slice a' ys.length cap'] w fun e w' => ∃ v, e = .returned v ∧ w'.ownsRow w.heap.size 3 1 v (unionL zs ys).length ((unionL zs ys).map (Value.int .i64)) ∧ Below w.heap.size w w' := by
  obtain ⟨i0, hi, hz0, hz1, hz2⟩ := info_parts Try.infoInt
  go_enter Try.func30, Try.ntmps30
  go_wp2_with fail
  have hb0 : Below w.heap.size w (w.alloc (.cells (bools 32 (fun _ => false)) 64)) := (Below.refl _ _).alloc (Nat.le_refl _) _
  have hS0 : SetAt 32 (w.alloc (.cells (bools 32 (fun _ => false)) 64)) w.heap.size (fun _ => false) := ⟨64, heap_new _ _⟩
  rw [← Try.zero64]
  refine (include_any w.heap.size (fun _ => false) a cap zs _ hl (hz.later hb0) hS0).mono ?_
  rintro e w1 ⟨rfl, hS1, hb1⟩
  have hb2 := hb0.trans hb1
  clear hb0 hS0 hb1
  go_wp2_with fail
  refine (include_any w.heap.size _ a' cap' ys _ hl' (hy.later hb2) hS1).mono ?_
  rintro e w2 ⟨rfl, hS2, hb3⟩
  have hb4 := hb2.trans hb3
  have hS : SetAt 32 w2 w.heap.size (unionB zs ys) := hS2.congr (fun i _ => by simp [unionB])
  clear hb2 hS1 hb3 hS2
  obtain ⟨t, ht⟩ := hS
  go_wp2_with (refine wpList_load_row rfl 64 _ rfl w.heap.size rfl t _ (0, 0) _ ht Try.underlying64 rfl (by rw [bools_size]; exact Try.infoSet) ?_)
  have hsz := hb4.size
  clear ht
  go_loopw [6, 14] (fun v i wr => ∃ k : Nat, k ≤ 32 ∧ i = .int .i64 k ∧ wr.ownsRow w.heap.size 3 1 v (unionTo (unionB zs ys) k).length ((unionTo (unionB zs ys) k).map (Value.int .i64)) ∧ Below w.heap.size w wr) (fun _ i _ => 32 - (intOf i).toNat)
  case atStart => exact ⟨0, Nat.zero_le _, rfl, World.ownsRow_nil _ _ _ _, hb4⟩
  case round =>
    obtain ⟨k, hk, rfl, hown, hB⟩ := hrel
    have hsz1 := hB.size
    by_cases hlt : k < 32
    · have hix := fun wx => run_index_bools Try.underlying64 Try.underlying4 Try.infoBool (unionB zs ys) hlt wx
      have hlen := unionTo_len (unionB zs ys) k
      cases tk : unionB zs ys k
      · rw [tk] at hix
        have HM : Hid (unionTo (unionB zs ys) (k + 1) = unionTo (unionB zs ys) k) := unionTo_miss tk
        go_wp2
        go_roundw
        case rel => exact ⟨k + 1, by omega, by go_num, by rw [HM.out]; exact hown, hB⟩
        case measure => simp [intOf]; omega
      · rw [tk] at hix
        have HM : Hid (unionTo (unionB zs ys) (k + 1) = unionTo (unionB zs ys) k ++ [(k : Int)]) := unionTo_hit tk
        go_wp2_with (first
          | (at_builtin; refine wpList_append_own _ rfl _ _ 32 rfl w.heap.size 3 i0 (.int .i64 0) 1 8 Try.underlying32 hi hz0 hz1 hz2 rfl (by decide) _ _ _ rfl (hown.alloc _) ⟨wr.heap.size, 0, none⟩ 1 1 [.int .i64 k] rfl rfl ?c1 ?c2 ?c3 ?c4 ?c5 ?_)
          | go_in)
        case c1 =>
          intro j u hj
          match j, hj with
          | 0, hj => simp at hj; subst hj; simp [Addr.add]
        case c2 => intro u hu; simp at hu; subst hu; rfl
        case c3 => unfold maxLen; omega
        case c4 => omega
        case c5 => simp; omega
        · intro v' w3 hown' hgrow _
          have hB' : Below w.heap.size w w3 := (hB.alloc hsz1 _).grown hgrow (by simp; omega) (owns_block hown)
          clear hgrow hown hix
          go_wp2
          go_roundw
          case rel => exact ⟨k + 1, by omega, by go_num, by rw [HM.out]; simpa using hown', hB'⟩
          case measure => simp [intOf]; omega
    · have e : k = 32 := by omega
      subst e
      go_wp2
      go_ret
      exact ⟨_, rfl, hown, hB⟩

end Go.Proofs.Ytbpkdmdjcedemaa
