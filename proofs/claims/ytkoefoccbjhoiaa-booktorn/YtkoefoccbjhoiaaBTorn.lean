/-
  The walk of BookTorn: it answers true at every list of records, record and number, and writes nothing that was there.
-/
import Derived.Test.YtkoefoccbjhoiaaBTornL
set_option linter.unusedVariables false
set_option linter.unusedSimpArgs false
namespace Go.Proofs.Ytkoefoccbjhoiaa
open Go.RowKit

set_option maxRecDepth 100000 in
set_option maxHeartbeats 4000000 in
theorem torn_walk (a : Option Addr) (cap : Nat) (zs : List (List UInt8)) (s : List UInt8) (n : Int) (w : World) (hl : zs.length ≤ maxLen) (hz : TxAt w.heap.size w a zs) (hzs : ∀ q ∈ zs, q.length ≤ maxLen) (hs : (str s).size ≤ maxLen) :
    Calls Try.prog 13 #[.slice a zs.length cap, .string (str s), .int .i64 n] w fun e w' => e = .returned (.bool true) ∧ Below w.heap.size w w' := by
  obtain ⟨i0, hi, hz0, hz1, hz2⟩ := info_parts Try.infoString
  have zsz := str_size s
  rw [zsz] at hs
  have hl2 : zs.length ≤ 2 ^ 63 - 1 := hl
  clear hl
  go_enter Try.func13, Try.ntmps13
  go_wp2_with fail
  go_loopw [7, 8, 9] (fun u v i wr => ∃ k : Nat, k ≤ zs.length ∧ k ≤ 60 ∧ i = .int .i64 k ∧ u = .string (str (recs (wnt zs k))) ∧ wr.ownsRow w.heap.size 9 1 v (wnt zs k).length (txs (wnt zs k)) ∧ Below w.heap.size w wr) (fun _ _ i _ => 60 - (intOf i).toNat)
  case atStart => exact ⟨0, Nat.zero_le _, Nat.zero_le _, rfl, rfl, World.ownsRow_nil _ _ _ _, Below.refl _ _⟩
  case round =>
    obtain ⟨k, hk, hk6, rfl, rfl, hown, hB⟩ := hrel
    have hsz1 := hB.size
    have hm1 := recs_most (wnt_ok (zs := zs) (k := k))
    have hm2 := wnt_len zs k
    by_cases hlt : k < zs.length ∧ k < 60
    · obtain ⟨hlt, hlt6⟩ := hlt
      obtain ⟨q, Hq, b, off, rfl, e0⟩ := TxAt.get hz hB hlt
      have hq : q.length ≤ maxLen := hzs q (getD_mem hlt Hq.out)
      have hi' : (k : Int) < (zs.length : Int) := by omega
      have hi6 : (k : Int) < 60 := by omega
      go_wp2_with fail
      refine (write_any (recs (wnt zs k)) q _ (by unfold maxLen; omega) hq).mono ?_
      rintro e w1 ⟨rfl, hc⟩
      have hB1 := hB.trans (hc.mono hB.size)
      have hown1 := own_below hown hc
      have hsz2 := hB1.size
      obtain ⟨q', Hq', b', off', hbb, e1⟩ := TxAt.get hz hB1 hlt
      obtain rfl : q = q' := Hq.out.symm.trans Hq'.out
      simp only [Option.some.injEq, Addr.mk.injEq, and_true] at hbb
      obtain ⟨rfl, rfl⟩ := hbb
      clear hc hown e0 Hq'
      cases tk : okB q
      · have H1 : Hid (wnt zs (k + 1) = wnt zs k) := wnt_miss hlt Hq.out tk
        rw [wErr_miss (by omega) tk]
        go_wp2_with fail
        go_roundw
        case rel => exact ⟨k + 1, by omega, by omega, by go_num, by rw [H1.out], by rw [H1.out]; exact hown1, hB1⟩
        case measure => simp [intOf]; omega
      · have H1 : Hid (wnt zs (k + 1) = wnt zs k ++ [q]) := wnt_hit hlt Hq.out tk
        have H0 := wErr_hit (l := recs (wnt zs k)) (by omega) tk
        rw [wOut_hit H0, H0]
        clear H0
        go_wp2_with (first
          | (at_builtin; refine wpList_append_lies _ (by rfl) _ _ 55 (by rfl) w.heap.size 9 i0 (.string ⟨#[]⟩) 1 16 Try.underlying55 hi hz0 hz1 hz2 rfl (by decide) _ _ _ (by rfl) (hown1.alloc _) ⟨w1.heap.size, 0, none⟩ 1 1 [_] (by rfl) (by rfl) (World.news_of_block (cs := #[_]) (fr := (0, 0)) (heap_new w1 _)) ?c2 (by decide) ?c3 ?c4 ?c5 (w1.heap.size + 1) ?c6 ?_)
          | fail)
        case c2 => exact one_any _ rfl
        case c3 => unfold maxLen; omega
        case c4 => omega
        case c5 => rw [alloc_size]; omega
        case c6 => exact alloc_size _ _
        intro g cap' w3 hown' hgrow hat hlt'
        have hB' : Below w.heap.size w w3 := (hB1.alloc hsz2 _).grown hgrow (by simp; omega) (owns_block hown1)
        clear hgrow hat hown1
        go_wp2_with fail
        go_roundw
        case rel => exact ⟨k + 1, by omega, by omega, by go_num, by rw [H1.out, recs_app, recs_one], by rw [H1.out, txs_app, List.length_append]; exact hown', hB'⟩
        case measure => simp [intOf]; omega
    · obtain ⟨a8, cap8, rfl, ht8⟩ := TxAt.of_owns hown
      have hr := wnt_ok (zs := zs) (k := k)
      have hw6 : (wnt zs k).length ≤ 60 := by omega
      obtain ⟨wo, hwo⟩ : ∃ wo, wo = wr := ⟨_, rfl⟩
      subst hwo
      generalize wnt zs k = ws at *
      clear hown hm2 hz hzs
      have zlog := str_size (recs ws)
      have H1 := fun wx => read_any ws [] wx hr (no_short (by decide)) (by rw [List.append_nil]; omega)
      rw [List.append_nil] at H1
      have hx : ¬ k < zs.length ∨ (k < zs.length ∧ ¬ k < 60) := by omega
      clear hlt
      rcases hx with hx | ⟨hx, hx6⟩
      all_goals
        go_wp2_with fail
        refine (H1 _).mono ?_
        rintro e w1 ⟨v1, rfl, hown1, hc⟩
        obtain ⟨a1, cap1, rfl, ht1⟩ := TxAt.of_owns hown1
        have hB1 := hB.trans (hc.mono hB.size)
        have ht8' := (ht8.later hc).mono hc.size
        have tl : ((ws.length : Int) != (ws.length : Int)) = false := by simp
        have tp : (((recs ws).length : Int) != ((recs ws).length : Int)) = false := by simp
        clear hc hown1
        go_wp2_with fail
        refine (januspostkeep_books_any _).mono ?_
        rintro e w2 ⟨rfl, hc⟩
        have hB2 := hB1.trans (hc.mono hB1.size)
        have hu8 := (ht8'.later hc).mono hc.size
        have hu1 := (ht1.later hc).mono hc.size
        clear hc ht8' ht1 hB1
        go_wp2_with fail
        go_loopw [73] (fun i wr => ∃ k : Nat, k ≤ ws.length ∧ i = .int .i64 k ∧ Below w2.heap.size w2 wr) (fun i _ => ws.length - (intOf i).toNat)
        case atStart => exact ⟨0, Nat.zero_le _, rfl, Below.refl _ _⟩
        case round =>
          obtain ⟨j, hj, rfl, hBj⟩ := hrel
          by_cases hjl : j < ws.length
          · obtain ⟨q, Hq, b, off, rfl, e0⟩ := TxAt.get hu1 hBj hjl
            obtain ⟨q', Hq', b', off', rfl, e1⟩ := TxAt.get hu8 hBj hjl
            obtain rfl : q = q' := Hq.out.symm.trans Hq'.out
            have hi' : (j : Int) < (ws.length : Int) := by omega
            clear Hq Hq'
            go_wp2_with fail
            go_quiet (fail)
            go_wp2_with fail
            go_roundw
            case rel => exact ⟨j + 1, by omega, by go_num, below_drewN hBj _⟩
            case measure => simp [intOf]; omega
          · obtain ⟨w3, hw3⟩ : ∃ w3, w3 = wr := ⟨_, rfl⟩
            subst hw3
            have hB3 := hB2.trans (hBj.mono hB2.size)
            have hv1 := (hu1.later hBj).mono hBj.size
            clear hu8 hu1 hBj
            go_wp2_with fail
            refine (write_any (recs ws) s _ (by unfold maxLen; omega) hs).mono ?_
            rintro e w4 ⟨rfl, hc⟩
            have hB4 := hB3.trans (hc.mono hB3.size)
            have hx1 := (hv1.later hc).mono hc.size
            clear hc hv1 hB3
            cases te : wErr (recs ws) s != 0
            · have te' : wErr (recs ws) s = 0 := by simpa using te
              obtain ⟨k1, k2, k3⟩ := wErr_ok te'
              go_wp2_with fail
              refine (tear_any (recs ws) s n _ (by unfold maxLen; omega) hs).mono ?_
              rintro e w5 ⟨rfl, hc⟩
              have hB5 := hB4.trans (hc.mono hB4.size)
              have hy1 := (hx1.later hc).mono hc.size
              have E5 : tearL (recs ws) s n = recs ws ++ (rc s).take n.toNat := by unfold tearL; rw [if_pos te']
              have RL := rc_len s
              rw [E5]
              clear hc hx1 hB4 E5 te H1
              by_cases hn : (s.length : Int) + 2 ≤ n
              · obtain ⟨vs, hvs⟩ : ∃ vs, vs = ws ++ [s] := ⟨_, rfl⟩
                have HV : Hid (vs = ws ++ [s]) := hvs
                have E6 : recs ws ++ (rc s).take n.toNat = recs vs := by rw [List.take_of_length_le (by omega), hvs, recs_app, recs_one]
                have L6 : (recs vs).length = (recs ws).length + s.length + 2 := by rw [← E6, List.length_append, List.take_of_length_le (by omega), RL]; omega
                have V6 : vs.length = ws.length + 1 := by rw [hvs]; simp
                have H2 := fun wx => read_any vs [] wx (by intro x hx; rw [hvs] at hx; rcases List.mem_append.1 hx with hx | hx; exact hr x hx; simp at hx; subst hx; exact k2) (no_short (by decide)) (by rw [List.append_nil]; omega)
                rw [List.append_nil] at H2
                have zt := str_size (recs vs)
                rw [E6]
                clear E6 hvs
                go_wp2_with fail
                refine (H2 _).mono ?_
                rintro e w6 ⟨v6, rfl, hown6, hc⟩
                obtain ⟨a6, cap6, rfl, ht6⟩ := TxAt.of_owns hown6
                have hB6 := hB5.trans (hc.mono hB5.size)
                have hz1 := (hy1.later hc).mono hc.size
                clear hc hy1 hB5 hown6 H2
                have c1 : (ws.length : Int) < (ws.length : Int) + 1 := by omega
                have c2 : (2 : Int) + s.length ≤ n := by omega
                rw [V6, L6]
                rw [L6] at zt
                go_wp2_with fail
                go_loopw [134] (fun i wr => ∃ k : Nat, k ≤ ws.length ∧ i = .int .i64 k ∧ Below w6.heap.size w6 wr) (fun i _ => ws.length - (intOf i).toNat)
                case atStart => exact ⟨0, Nat.zero_le _, rfl, Below.refl _ _⟩
                case round =>
                  obtain ⟨m, hm, rfl, hBm⟩ := hrel
                  by_cases hml : m < ws.length
                  · obtain ⟨q, Hq, b, off, rfl, e0⟩ := TxAt.get hz1 hBm hml
                    obtain ⟨q', Hq', b', off', rfl, e1⟩ := TxAt.get ht6 hBm (k := m) (by omega)
                    obtain rfl : q = q' := by rw [← Hq.out, ← Hq'.out, HV.out, getD_app hml]
                    have hi' : (m : Int) < (ws.length : Int) := by omega
                    have hi2 : (m : Int) < (ws.length : Int) + 1 := by omega
                    clear Hq Hq'
                    go_wp2_with fail
                    go_quiet (fail)
                    go_wp2_with fail
                    go_roundw
                    case rel => exact ⟨m + 1, by omega, by go_num, below_drewN hBm _⟩
                    case measure => simp [intOf]; omega
                  · have hB7 := hB6.trans (hBm.mono hB6.size)
                    obtain ⟨q, Hq, b, off, rfl, e0⟩ := TxAt.get ht6 hBm (k := ws.length) (by omega)
                    obtain rfl : q = s := by rw [← Hq.out, HV.out, getD_last]
                    have t1 : ((ws.length : Int) + 1 == (ws.length : Int)) = false := beq_eq_false_iff_ne.2 (by omega)
                    have t2 : ((ws.length : Int) + 1 == (ws.length : Int) + 1) = true := by simp
                    have t3 : (((recs ws).length : Int) + q.length + 2 == ((recs ws).length : Int) + q.length + 2) = true := by simp
                    clear hBm
                    go_wp2_with fail
                    go_ret
                    exact ⟨rfl, hB7⟩
              · have H2 := fun wx => read_any ws ((rc s).take n.toNat) wx hr (no_cut k2 (by omega)) (by rw [List.length_append, List.length_take]; omega)
                have zt := str_size (recs ws ++ (rc s).take n.toNat)
                generalize hT : recs ws ++ (rc s).take n.toNat = T at *
                clear hT
                go_wp2_with fail
                refine (H2 _).mono ?_
                rintro e w6 ⟨v6, rfl, hown6, hc⟩
                obtain ⟨a6, cap6, rfl, ht6⟩ := TxAt.of_owns hown6
                have hB6 := hB5.trans (hc.mono hB5.size)
                have hz1 := (hy1.later hc).mono hc.size
                clear hc hy1 hB5 hown6 H2
                have c2 : ¬ (2 : Int) + s.length ≤ n := by omega
                go_wp2_with fail
                go_loopw [134] (fun i wr => ∃ k : Nat, k ≤ ws.length ∧ i = .int .i64 k ∧ Below w6.heap.size w6 wr) (fun i _ => ws.length - (intOf i).toNat)
                case atStart => exact ⟨0, Nat.zero_le _, rfl, Below.refl _ _⟩
                case round =>
                  obtain ⟨m, hm, rfl, hBm⟩ := hrel
                  by_cases hml : m < ws.length
                  · obtain ⟨q, Hq, b, off, rfl, e0⟩ := TxAt.get hz1 hBm hml
                    obtain ⟨q', Hq', b', off', rfl, e1⟩ := TxAt.get ht6 hBm (k := m) (by omega)
                    obtain rfl : q = q' := Hq.out.symm.trans Hq'.out
                    have hi' : (m : Int) < (ws.length : Int) := by omega
                    have hi2 : (m : Int) < (ws.length : Int) + 1 := by omega
                    clear Hq Hq'
                    go_wp2_with fail
                    go_quiet (fail)
                    go_wp2_with fail
                    go_roundw
                    case rel => exact ⟨m + 1, by omega, by go_num, below_drewN hBm _⟩
                    case measure => simp [intOf]; omega
                  · have hB7 := hB6.trans (hBm.mono hB6.size)
                    have t1 : ((ws.length : Int) == (ws.length : Int)) = true := by simp
                    clear hBm
                    go_wp2_with fail
                    go_ret
                    exact ⟨rfl, hB7⟩
            · go_wp2_with fail
              go_ret
              exact ⟨rfl, hB4⟩

end Go.Proofs.Ytkoefoccbjhoiaa
