/-
  The contract of package book's Read.
-/
import Derived.Test.YtkoefoccbjhoiaaBFirst
set_option linter.unusedVariables false
set_option linter.unusedSimpArgs false
namespace Go.Proofs.Ytkoefoccbjhoiaa
open Go.RowKit

theorem str_drop0 (l : List UInt8) (p : Nat) : (str l).extract p l.length = str (l.drop p) := by
  apply ByteArray.ext
  apply Array.toList_inj.1
  rw [Lib.extract_data, str_data, List.take_of_length_le (by simp), str_data]

theorem own_below {w w1 : World} {b : Nat} {e : TypeId} {size : Nat} {v : Value} {n : Nat} {xs : List Value} (h : w.ownsRow b e size v n xs) (hc : Below w.heap.size w w1) : w1.ownsRow b e size v n xs :=
  h.kept (row := none) ⟨hc.os, hc.tape, hc.output, hc.size, fun k hk _ => hc.block k hk⟩ (by cases v.ownBlock <;> simp)

/-- texts, as cells -/
def txs (l : List (List UInt8)) : List Value := l.map fun s => .string (str s)
theorem txs_app (l m : List (List UInt8)) : txs (l ++ m) = txs l ++ txs m := by simp [txs]
theorem Try.infoString : (Try.prog.info? 9).map (fun i => (i.zero, i.size, i.bytes)) = some (some (.string ⟨#[]⟩), 1, 16) := by kernel_rfl

theorem recs_take {rs : List (List UInt8)} {k : Nat} {s : List UInt8} (hk : k < rs.length) (hs : rs[k] = s) : recs (rs.take (k + 1)) = recs (rs.take k) ++ rc s := by
  rw [List.take_succ_eq_append_getElem hk, recs_app, recs_one, hs]
theorem txs_take {rs : List (List UInt8)} {k : Nat} {s : List UInt8} (hk : k < rs.length) (hs : rs[k] = s) : txs (rs.take (k + 1)) = txs (rs.take k) ++ [.string (str s)] := by
  rw [List.take_succ_eq_append_getElem hk, txs_app, hs]; rfl
theorem recs_split {rs : List (List UInt8)} {t : List UInt8} (k : Nat) : (recs rs ++ t).drop (recs (rs.take k)).length = recs (rs.drop k) ++ t := by
  have e : recs rs = recs (rs.take k) ++ recs (rs.drop k) := by rw [← recs_app, List.take_append_drop]
  rw [e, List.append_assoc, List.drop_left]
theorem recs_next {rs : List (List UInt8)} {k : Nat} {s : List UInt8} (hk : k < rs.length) (hs : rs[k] = s) : recs (rs.drop k) = rc s ++ recs (rs.drop (k + 1)) := by
  rw [List.drop_eq_getElem_cons hk, recs_cons, hs]
theorem recs_much (rs : List (List UInt8)) : 2 * rs.length ≤ (recs rs).length := by
  induction rs with
  | nil => simp
  | cons s rs ih => rw [recs_cons, List.length_append, rc_len, List.length_cons]; omega
theorem recs_part (rs : List (List UInt8)) (k : Nat) : (recs (rs.take k)).length ≤ (recs rs).length := by
  have e : recs rs = recs (rs.take k) ++ recs (rs.drop k) := by rw [← recs_app, List.take_append_drop]
  rw [e, List.length_append]
  omega

set_option maxRecDepth 100000 in
set_option maxHeartbeats 1000000 in
theorem read_any (rs : List (List UInt8)) (t : List UInt8) (w : World) (hr : ∀ s ∈ rs, RecOk s) (hn : NoRec t) (hl : (recs rs ++ t).length ≤ 100000) :
    Calls Try.prog 52 #[.string (str (recs rs ++ t))] w fun e w' => ∃ v, e = .returned (.tuple #[v, .int .i64 (recs rs).length]) ∧ w'.ownsRow w.heap.size 9 1 v rs.length (txs rs) ∧ Below w.heap.size w w' := by
  obtain ⟨i0, hi, hz0, hz1, hz2⟩ := info_parts Try.infoString
  obtain ⟨l, hL⟩ : ∃ l, l = recs rs ++ t := ⟨_, rfl⟩
  have HL : Hid (l = recs rs ++ t) := hL
  have hl1 := recs_much rs
  have hl2 : (recs rs).length ≤ l.length := by rw [hL]; simp
  rw [← hL] at hl ⊢
  clear hL
  have zl := str_size l
  go_enter Try.func52, Try.ntmps52
  go_wp2_with fail
  go_loopw [4, 5] (fun v i wr => ∃ k : Nat, k ≤ rs.length ∧ i = .int .i64 ((recs (rs.take k)).length : Nat) ∧ wr.ownsRow w.heap.size 9 1 v k (txs (rs.take k)) ∧ Below w.heap.size w wr) (fun _ i _ => l.length - (intOf i).toNat)
  case atStart => exact ⟨0, Nat.zero_le _, rfl, World.ownsRow_nil _ _ _ _, Below.refl _ _⟩
  case round =>
    obtain ⟨k, hk, rfl, hown, hB⟩ := hrel
    have hsz1 := hB.size
    obtain ⟨p, hp⟩ : ∃ p, p = (recs (rs.take k)).length := ⟨_, rfl⟩
    have hp1 : p ≤ (recs rs).length := by rw [hp]; exact recs_part rs k
    have hd : Hid (l.drop p = recs (rs.drop k) ++ t) := by unfold Hid; rw [HL.out, hp, recs_split]
    have HP : Hid (p = (recs (rs.take k)).length) := hp
    rw [← hp]
    clear hp
    have hex := str_drop0 l p
    have hpi : (p : Int) ≤ (l.length : Int) := by omega
    by_cases hlt : k < rs.length
    · obtain ⟨s, hs⟩ : ∃ s, rs[k] = s := ⟨_, rfl⟩
      have hok := hr s (hs ▸ List.getElem_mem hlt)
      have H1 : Hid (recs (rs.take (k + 1)) = recs (rs.take k) ++ rc s) := recs_take hlt hs
      have H2 : Hid (txs (rs.take (k + 1)) = txs (rs.take k) ++ [.string (str s)]) := txs_take hlt hs
      have H3 : Hid (l.drop p = rc s ++ (recs (rs.drop (k + 1)) ++ t)) := by unfold Hid; rw [hd.out, recs_next hlt hs, List.append_assoc]
      have H4 : (rc s ++ (recs (rs.drop (k + 1)) ++ t)).length ≤ l.length := by rw [← H3.out]; simp
      have H5 : p + s.length + 2 ≤ l.length := by
        have := congrArg List.length H3.out
        rw [List.length_drop, List.length_append, rc_len] at this
        obtain ⟨k0, _⟩ := hok
        omega
      have zs := str_size s
      clear hs hd
      go_wp2_with fail
      rw [H3.out]
      refine (first_some _ (by unfold maxLen; omega) hok).mono ?_
      rintro e w1 ⟨rfl, hc⟩
      have hB1 := hB.trans (hc.mono hB.size)
      have hown1 := own_below hown hc
      have hsz2 := hB1.size
      go_wp2_with (first
        | (at_builtin; refine wpList_append_lies _ (by rfl) _ _ 55 (by rfl) w.heap.size 9 i0 (.string ⟨#[]⟩) 1 16 Try.underlying55 hi hz0 hz1 hz2 rfl (by decide) _ _ _ (by rfl) (hown1.alloc _) ⟨w1.heap.size, 0, none⟩ 1 1 [_] (by rfl) (by rfl) (World.news_of_block (cs := #[_]) (fr := (0, 0)) (heap_new w1 _)) ?c2 (by decide) ?c3 ?c4 ?c5 (w1.heap.size + 1) ?c6 ?_)
        | fail)
      case c2 => exact one_any _ rfl
      case c3 => unfold maxLen; omega
      case c4 => omega
      case c5 => rw [alloc_size]; omega
      case c6 => exact alloc_size _ _
      intro g cap w3 hown' hgrow hat hlt'
      have hB' : Below w.heap.size w w3 := (hB1.alloc hsz2 _).grown hgrow (by simp; omega) (owns_block hown1)
      clear hgrow hat hown1 hown
      go_wp2_with fail
      go_roundw
      case rel => exact ⟨k + 1, by omega, by rw [H1.out, List.length_append, ← HP.out, rc_len]; go_num, by rw [H2.out]; exact hown', hB'⟩
      case measure => simp [intOf]; omega
    · have hk' : k = rs.length := by omega
      have H3 : Hid (l.drop p = t) := by unfold Hid; rw [hd.out, List.drop_of_length_le (by omega)]; rfl
      have H4 : t.length ≤ l.length := by rw [← H3.out]; simp
      have HE : Hid (p = (recs rs).length) := by unfold Hid; rw [HP.out, List.take_of_length_le (by omega)]
      have HT : Hid (txs (rs.take k) = txs rs) := by unfold Hid; rw [List.take_of_length_le (by omega)]
      clear hd
      go_wp2_with fail
      rw [H3.out]
      refine (first_none _ (by unfold maxLen; omega) hn).mono ?_
      rintro e w1 ⟨rfl, hc⟩
      have hB1 := hB.trans (hc.mono hB.size)
      have hown1 := own_below hown hc
      go_wp2_with fail
      go_ret2
      rw [← HE.out]
      refine ⟨_, rfl, ?_, hB1⟩
      rw [← HT.out, ← hk']
      exact hown1

end Go.Proofs.Ytkoefoccbjhoiaa
