/-
  The contract of the document's own ReadLog.
-/
import Derived.Test.YtkoefoccbjhoiaaBRead
set_option linter.unusedVariables false
set_option linter.unusedSimpArgs false
namespace Go.Proofs.Ytkoefoccbjhoiaa
open Go.RowKit

def strLen : Value → Nat
  | .string b => b.size
  | _ => 0

theorem str_mid (a b : UInt8) (s x : List UInt8) : (str (a :: b :: (s ++ x))).extract 2 (2 + s.length) = str s := by
  apply ByteArray.ext
  apply Array.toList_inj.1
  rw [Lib.extract_data, str_data, str_data, Nat.add_comm]
  simp
theorem str_rest (a b : UInt8) (s x : List UInt8) : (str (a :: b :: (s ++ x))).extract (2 + s.length) ((s ++ x).length + 1 + 1) = str x := by
  have := str_drop0 (a :: b :: (s ++ x)) (2 + s.length)
  simp only [List.length_cons] at this
  rw [this, Nat.add_comm]
  simp

set_option maxRecDepth 100000 in
set_option maxHeartbeats 1000000 in
theorem readLog_any (rs : List (List UInt8)) (t : List UInt8) (w : World) (hr : ∀ s ∈ rs, RecOk s) (hn : NoRec t) (hl : (recs rs ++ t).length ≤ 100000) :
    Calls Try.prog 53 #[.string (str (recs rs ++ t))] w fun e w' => ∃ v, e = .returned (.tuple #[v, .int .i64 (recs rs).length]) ∧ w'.ownsRow w.heap.size 9 1 v rs.length (txs rs) ∧ Below w.heap.size w w' := by
  obtain ⟨i0, hi, hz0, hz1, hz2⟩ := info_parts Try.infoString
  obtain ⟨l, hL⟩ : ∃ l, l = recs rs ++ t := ⟨_, rfl⟩
  have HL : Hid (l = recs rs ++ t) := hL
  have hl1 := recs_much rs
  have hl2 : l.length = (recs rs).length + t.length := by rw [hL]; simp
  rw [← hL] at hl ⊢
  clear hL
  have zl := str_size l
  go_enter Try.func53, Try.ntmps53
  go_wp2_with fail
  go_loopw [4, 5] (fun v u wr => ∃ (k : Nat) (m : List UInt8), k ≤ rs.length ∧ u = .string (str m) ∧ Hid (m = recs (rs.drop k) ++ t) ∧ m.length ≤ l.length ∧ wr.ownsRow w.heap.size 9 1 v k (txs (rs.take k)) ∧ Below w.heap.size w wr) (fun _ u _ => strLen u)
  case atStart => exact ⟨0, l, Nat.zero_le _, rfl, HL, Nat.le_refl _, World.ownsRow_nil _ _ _ _, Below.refl _ _⟩
  case round =>
    obtain ⟨k, m, hk, rfl, HM, hml, hown, hB⟩ := hrel
    have hsz1 := hB.size
    have zm := str_size m
    by_cases hlt : k < rs.length
    · obtain ⟨s, hs⟩ : ∃ s, rs[k] = s := ⟨_, rfl⟩
      have hok := hr s (hs ▸ List.getElem_mem hlt)
      have H2 : Hid (txs (rs.take (k + 1)) = txs (rs.take k) ++ [.string (str s)]) := txs_take hlt hs
      obtain ⟨k1, k2⟩ := hok
      obtain ⟨a, b, e, he⟩ := hd_get s k2
      obtain ⟨x, hx⟩ : ∃ x, x = recs (rs.drop (k + 1)) ++ t := ⟨_, rfl⟩
      have em : m = a :: b :: (s ++ x) := by rw [HM.out, recs_next hlt hs, hx]; unfold rc; rw [e]; simp
      have HX : Hid (x = recs (rs.drop (k + 1)) ++ t) := hx
      subst em
      clear hx e hs HM
      have zs := str_size s
      have zx := str_size x
      have mid := str_mid a b s x
      have rst := str_rest a b s x
      have en : 256 * (a.toNat : Int) + b.toNat = s.length := by omega
      simp only [List.length_cons, List.length_append] at zm hml rst
      have n0 : (0 : Int) < (s.length : Int) + x.length + 1 + 1 := by omega
      have n1 : (1 : Int) < (s.length : Int) + x.length + 1 + 1 := by omega
      have x0 : ∀ h : 0 < (str (a :: b :: (s ++ x))).size, ((str (a :: b :: (s ++ x)))[0]'h) = a := fun _ => rfl
      have x1 : ∀ h : 1 < (str (a :: b :: (s ++ x))).size, ((str (a :: b :: (s ++ x)))[1]'h) = b := fun _ => rfl
      have ta := a.toNat_lt
      have tb := b.toNat_lt
      have w0 : IntKind.i64.wrap (a.toNat : Int) = a.toNat := wraps_i64 _ (by omega) (by omega)
      have w1 : IntKind.i64.wrap (b.toNat : Int) = b.toNat := wraps_i64 _ (by omega) (by omega)
      have w2 : IntKind.i64.wrap (256 * (a.toNat : Int)) = 256 * (a.toNat : Int) := wraps_i64 _ (by omega) (by omega)
      have w3 : IntKind.i64.wrap (s.length : Int) = s.length := wraps_i64 _ (by omega) (by clear w0 w1 w2 en; omega)
      have k1' : ((s.length : Int) == 0) = false := beq_eq_false_iff_ne.2 (by omega)
      clear he
      go_wp2_with fail
      go_region
      all_goals
        have hown1 := hown.drew
        go_wp2_with (first
          | (at_builtin; refine wpList_append_lies _ (by rfl) _ _ 55 (by rfl) w.heap.size 9 i0 (.string ⟨#[]⟩) 1 16 Try.underlying55 hi hz0 hz1 hz2 rfl (by decide) _ _ _ (by rfl) (hown1.alloc _) ⟨wr.heap.size, 0, none⟩ 1 1 [_] (by rfl) (by rfl) (World.news_of_block (cs := #[_]) (fr := (0, 0)) (heap_new wr.drew _)) ?c2 (by decide) ?c3 ?c4 ?c5 (wr.heap.size + 1) ?c6 ?_)
          | fail)
        case c2 => exact one_any _ rfl
        case c3 => unfold maxLen; omega
        case c4 => omega
        case c5 => exact Nat.le_trans hsz1 (by show _ ≤ (wr.alloc _).heap.size; rw [alloc_size]; omega)
        case c6 => exact alloc_size _ _
        intro g cap w3 hown' hgrow hat hlt'
        have hB' : Below w.heap.size w w3 := ((below_drewN hB 1).alloc hsz1 _).grown hgrow (by rw [alloc_size]; exact Nat.le_succ_of_le hsz1) (owns_block hown)
        clear hgrow hat hown1 hown
        go_wp2_with fail
        rw [rst]
        exact ⟨⟨k + 1, x, by omega, rfl, HX, by omega, by rw [H2.out]; exact hown', hB'⟩, by show (str x).size < (str (a :: b :: (s ++ x))).size; omega⟩
    · have HT : Hid (txs (rs.take k) = txs rs) := by unfold Hid; rw [List.take_of_length_le (by omega)]
      have hk' : k = rs.length := by omega
      have em : m = t := by rw [HM.out, List.drop_of_length_le (by omega)]; rfl
      subst em
      by_cases h2 : m.length < 2
      · go_wp2_with fail
        go_ret2
        exact ⟨_, rfl, by rw [← HT.out, ← hk']; exact hown, hB⟩
      · obtain ⟨a, b, x, rfl⟩ : ∃ a b x, m = a :: b :: x := by
          match m, h2 with
          | [], h2 => simp at h2
          | [_], h2 => simp at h2
          | a :: b :: x, _ => exact ⟨a, b, x, rfl⟩
        have h3 := no_two hn
        have ta := a.toNat_lt
        have tb := b.toNat_lt
        obtain ⟨n, hn'⟩ : ∃ n : Nat, n = a.toNat * 256 + b.toNat := ⟨_, rfl⟩
        have en : 256 * (a.toNat : Int) + b.toNat = n := by omega
        rw [← hn'] at h3
        have hnb : n < 65536 := by omega
        clear hn' HM HL h2
        simp only [List.length_cons] at zm hml hl2
        have n0 : (0 : Int) < (x.length : Int) + 1 + 1 := by omega
        have n1 : (1 : Int) < (x.length : Int) + 1 + 1 := by omega
        have x0 : ∀ h : 0 < (str (a :: b :: x)).size, ((str (a :: b :: x))[0]'h) = a := fun _ => rfl
        have x1 : ∀ h : 1 < (str (a :: b :: x)).size, ((str (a :: b :: x))[1]'h) = b := fun _ => rfl
        have w0 : IntKind.i64.wrap (a.toNat : Int) = a.toNat := wraps_i64 _ (by omega) (by omega)
        have w1 : IntKind.i64.wrap (b.toNat : Int) = b.toNat := wraps_i64 _ (by omega) (by omega)
        have w2 : IntKind.i64.wrap (256 * (a.toNat : Int)) = 256 * (a.toNat : Int) := wraps_i64 _ (by omega) (by omega)
        have w3 : IntKind.i64.wrap (n : Int) = n := by rw [IntKind.wrap_i64]; omega
        by_cases c1 : n = 0
        · have c1' : ((n : Int) == 0) = true := by simp; omega
          clear h3
          go_wp2_with fail
          go_region
          all_goals
            go_wp2_with fail
            go_ret2
            exact ⟨_, rfl, by rw [← HT.out, ← hk']; exact hown, below_drewN hB 1⟩
        · have c1' : ((n : Int) == 0) = false := by simp; omega
          by_cases c2 : 400 < n
          · clear h3
            go_wp2_with fail
            go_region
            all_goals
              go_wp2_with fail
              go_ret2
              exact ⟨_, rfl, by rw [← HT.out, ← hk']; exact hown, below_drewN hB 1⟩
          · have c3 : x.length < n := by omega
            clear h3
            go_wp2_with fail
            go_region
            all_goals
              go_wp2_with fail
              go_ret2
              exact ⟨_, rfl, by rw [← HT.out, ← hk']; exact hown, below_drewN hB 1⟩

end Go.Proofs.Ytkoefoccbjhoiaa
