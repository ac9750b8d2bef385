/-
  The contract of the document's own UnionOf.
-/
import Derived.Test.YtkoefoccbjhoiaaRefRise
import Derived.Test.YtkoefoccbjhoiaaUnion
set_option linter.unusedVariables false
set_option linter.unusedSimpArgs false
namespace Go.Proofs.Ytkoefoccbjhoiaa
open Go.RowKit

set_option maxRecDepth 100000 in
set_option maxHeartbeats 400000 in
theorem unionOf_any (a : Option Addr) (cap : Nat) (zs : List Int) (a' : Option Addr) (cap' : Nat) (ys : List Int) (w : World) (hl : zs.length ≤ maxLen) (hz : IntsAt w.heap.size w a zs) (hl' : ys.length ≤ maxLen) (hy : IntsAt w.heap.size w a' ys) :
    Calls Try.prog 32 #[.slice a zs.length cap, .slice a' ys.length cap'] w fun e w' => ∃ v, e = .returned v ∧ w'.ownsRow w.heap.size 3 1 v (unionL zs ys).length ((unionL zs ys).map (Value.int .i64)) ∧ Below w.heap.size w w' := by
  obtain ⟨i0, hi, hz0, hz1, hz2⟩ := info_parts Try.infoInt
  go_enter Try.func32, Try.ntmps32
  go_wp2
  go_loopw [5, 7] (fun v i wr => ∃ k : Nat, k ≤ 32 ∧ i = .int .i64 k ∧ wr.ownsRow w.heap.size 3 1 v (unionTo (unionB zs ys) k).length ((unionTo (unionB zs ys) k).map (Value.int .i64)) ∧ Below w.heap.size w wr) (fun _ i _ => 32 - (intOf i).toNat)
  case atStart => exact ⟨0, Nat.zero_le _, rfl, World.ownsRow_nil _ _ _ _, Below.refl _ _⟩
  case round =>
    obtain ⟨k, hk, rfl, hown, hB⟩ := hrel
    have hsz1 := hB.size
    by_cases hlt : k < 32
    · have hlen := unionTo_len (unionB zs ys) k
      have hzr : IntsAt wr.heap.size wr a zs := (hz.later hB).mono hsz1
      have hyr : IntsAt wr.heap.size wr a' ys := (hy.later hB).mono hsz1
      have HU : Hid (unionB zs ys k = (hasL zs k || hasL ys k)) := by unfold Hid unionB; rw [has_contains, has_contains]
      go_wp2_with fail
      refine (ref_has _ _ _ _ _ hl hzr).mono ?_
      rintro e wx ⟨rfl, hw⟩
      subst hw
      cases ta : hasL zs k
      · go_wp2_with fail
        refine (ref_has _ _ _ _ _ hl' hyr).mono ?_
        rintro e wx ⟨rfl, hw⟩
        subst hw
        cases tb : hasL ys k
        · have HM : Hid (unionTo (unionB zs ys) (k + 1) = unionTo (unionB zs ys) k) := unionTo_miss (by rw [HU.out, ta, tb]; rfl)
          clear ta tb
          go_wp2
          go_roundw
          case rel => exact ⟨k + 1, by omega, by go_num, by rw [HM.out]; exact hown, hB⟩
          case measure => simp [intOf]; omega
        · have HM : Hid (unionTo (unionB zs ys) (k + 1) = unionTo (unionB zs ys) k ++ [(k : Int)]) := unionTo_hit (by rw [HU.out, ta, tb]; rfl)
          clear ta tb
          go_wp2_with (first
            | (at_builtin; refine wpList_append_own _ rfl _ _ 32 rfl w.heap.size 3 i0 (.int .i64 0) 1 8 Try.underlying32 hi hz0 hz1 hz2 rfl (by decide) _ _ _ rfl (hown.alloc _) ⟨wx.heap.size, 0, none⟩ 1 1 [.int .i64 k] rfl rfl ?c1 ?c2 ?c3 ?c4 ?c5 ?_)
            | go_in)
          case c1 =>
            intro j u hj
            match j, hj with
            | 0, hj => simp at hj; subst hj; simp [Addr.add]
          case c2 => intro u hu; simp at hu; subst hu; rfl
          case c3 => unfold maxLen; omega
          case c4 => omega
          case c5 => simp; omega
          · intro v' w3 hown' hgrow _
            have hB' : Below w.heap.size w w3 := (hB.alloc hsz1 _).grown hgrow (by simp; omega) (owns_block hown)
            clear hgrow hown
            go_wp2
            go_roundw
            case rel => exact ⟨k + 1, by omega, by go_num, by rw [HM.out]; simpa using hown', hB'⟩
            case measure => simp [intOf]; omega
      · have HM : Hid (unionTo (unionB zs ys) (k + 1) = unionTo (unionB zs ys) k ++ [(k : Int)]) := unionTo_hit (by rw [HU.out, ta]; rfl)
        clear ta
        go_wp2_with (first
          | (at_builtin; refine wpList_append_own _ rfl _ _ 32 rfl w.heap.size 3 i0 (.int .i64 0) 1 8 Try.underlying32 hi hz0 hz1 hz2 rfl (by decide) _ _ _ rfl (hown.alloc _) ⟨wx.heap.size, 0, none⟩ 1 1 [.int .i64 k] rfl rfl ?c1 ?c2 ?c3 ?c4 ?c5 ?_)
          | go_in)
        case c1 =>
          intro j u hj
          match j, hj with
          | 0, hj => simp at hj; subst hj; simp [Addr.add]
        case c2 => intro u hu; simp at hu; subst hu; rfl
        case c3 => unfold maxLen; omega
        case c4 => omega
        case c5 => simp; omega
        · intro v' w3 hown' hgrow _
          have hB' : Below w.heap.size w w3 := (hB.alloc hsz1 _).grown hgrow (by simp; omega) (owns_block hown)
          clear hgrow hown
          go_wp2
          go_roundw
          case rel => exact ⟨k + 1, by omega, by go_num, by rw [HM.out]; simpa using hown', hB'⟩
          case measure => simp [intOf]; omega
    · have e : k = 32 := by omega
      subst e
      go_wp2
      go_ret
      exact ⟨_, rfl, hown, hB⟩

end Go.Proofs.Ytkoefoccbjhoiaa
