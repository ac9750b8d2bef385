/-
  The contract of the document's own IsFrame.
-/
import Derived.Test.YtkoefoccbjhoiaaWGood
import Derived.Test.YtkoefoccbjhoiaaIsOps
import Derived.Test.YtkoefoccbjhoiaaRefSmall
import Derived.Test.YtkoefoccbjhoiaaRefRise
import Derived.Deep.Cut
set_option linter.unusedVariables false
set_option linter.unusedSimpArgs false
namespace Go.Proofs.Ytkoefoccbjhoiaa
open Go.RowKit

def risesB : Int → List Int → Bool
  | _, [] => true
  | l, n :: r => (decide (l < n) && decide (n < 4)) && risesB n r
theorem told_split : ∀ (xs vs : List Int) (l : Int), vs.length = xs.length → toldFrom l xs vs = (risesB l xs && vs.all valB)
  | [], [], l, _ => by simp [toldFrom, risesB]
  | [], _ :: _, _, h => by simp at h
  | _ :: _, [], _, h => by simp at h
  | a :: xs, v :: vs, l, h => by
    have ih := told_split xs vs a (by simpa using h)
    rw [toldFrom, risesB, ih, List.all_cons]
    have e : (!(decide (a ≤ l) || decide (4 ≤ a))) = (decide (l < a) && decide (a < 4)) := by
      rw [Bool.eq_iff_iff]
      simp
    rw [e]
    unfold valB
    generalize decide (l < a) = x
    generalize decide (a < 4) = y
    generalize decide (-1099511627776 ≤ v ∧ v ≤ 1099511627776) = z
    cases x <;> cases y <;> cases z <;> simp

def okAll (f : FrameL) : Bool := goodOpsF f && goodDepsF f && decide (f.kind = 5 ∨ f.ats.length = 0)
theorem isframe_end {f : FrameL} (h1 : ¬ (f.kind < 1 ∨ 5 < f.kind)) (h2 : ¬ (f.node < 0 ∨ 6 ≤ f.node ∨ f.id < 0 ∨ 32 ≤ f.id)) :
    goodL f = if okAll f && risesB (-1) f.ats && f.vals.all valB && decide (f.ats.length = f.vals.length) then 0 else 1 := by
  unfold goodL okAll
  rw [if_neg h1, if_neg h2]
  unfold goodToldF
  by_cases hl : f.vals.length = f.ats.length
  · rw [told_split _ _ _ hl, decide_eq_true hl, decide_eq_true hl.symm]
    congr 1
    rw [Bool.true_and, Bool.and_true]
    generalize goodOpsF f = a
    generalize goodDepsF f = b
    generalize decide (f.kind = 5 ∨ f.ats.length = 0) = c
    generalize risesB (-1) f.ats = d
    generalize f.vals.all valB = e
    cases a <;> cases b <;> cases c <;> cases d <;> cases e <;> rfl
  · have hl' : ¬ f.ats.length = f.vals.length := fun h => hl h.symm
    simp [hl, hl']

theorem rises_step {xs : List Int} {k : Nat} {q l : Int} {T t : Bool} (hk : k < xs.length) (hq : xs.getD k 0 = q) (h : T = (t && risesB l (xs.drop k))) : T = ((t && (decide (l < q) && decide (q < 4))) && risesB q (xs.drop (k + 1))) := by
  rw [h, drop_at hk hq, risesB]
  generalize decide (l < q) = x
  generalize decide (q < 4) = y
  cases t <;> cases x <;> cases y <;> simp
theorem rises_fin {xs : List Int} {k : Nat} {l : Int} {T t : Bool} (hk : ¬ k < xs.length) (h : T = (t && risesB l (xs.drop k))) : T = t := by
  rw [h, List.drop_of_length_le (by omega)]
  simp [risesB]
theorem vals_step {xs : List Int} {k : Nat} {q : Int} {T t : Bool} (hk : k < xs.length) (hq : xs.getD k 0 = q) (h : T = (t && (xs.drop k).all valB)) : T = ((t && valB q) && (xs.drop (k + 1)).all valB) := by
  rw [h, drop_at hk hq, List.all_cons]
  cases t <;> simp
theorem vals_fin {xs : List Int} {k : Nat} {T t : Bool} (hk : ¬ k < xs.length) (h : T = (t && (xs.drop k).all valB)) : T = t := by
  rw [h, List.drop_of_length_le (by omega)]
  simp

set_option maxRecDepth 100000 in
set_option maxHeartbeats 2000000 in
theorem isFrame_any (v : Value) (f : FrameL) (w : World) (hv : FrameV w v f) :
    Calls Try.prog 39 #[v] w fun e w' => e = .returned (.int .i64 (goodL f)) ∧ Below w.heap.size w w' := by
  have hb0 := frame_box w
  obtain ⟨a3, c3, a4, c4, a5, c5, a6, c6, rfl, h3, h4, h5, h6⟩ := hv
  obtain ⟨kind, node, id, ops, deps, ats, vals⟩ := f
  simp only at h3 h4 h5 h6
  by_cases g1 : kind < 1
  · have E : Hid (goodL ⟨kind, node, id, ops, deps, ats, vals⟩ = 3) := by unfold Hid goodL; rw [if_pos (by simp only; omega)]
    go_enter Try.func39, Try.ntmps39
    go_wp2
    go_ret
    exact ⟨ret_int E.out.symm, hb0 _⟩
  by_cases g2 : 5 < kind
  · have E : Hid (goodL ⟨kind, node, id, ops, deps, ats, vals⟩ = 3) := by unfold Hid goodL; rw [if_pos (by simp only; omega)]
    go_enter Try.func39, Try.ntmps39
    go_wp2
    go_ret
    exact ⟨ret_int E.out.symm, hb0 _⟩
  by_cases g3 : node < 0
  · have E : Hid (goodL ⟨kind, node, id, ops, deps, ats, vals⟩ = 2) := by unfold Hid goodL; rw [if_neg (by simp only; omega), if_pos (by simp only; omega)]
    go_enter Try.func39, Try.ntmps39
    go_wp2
    go_ret
    exact ⟨ret_int E.out.symm, hb0 _⟩
  by_cases g4 : 5 < node
  · have E : Hid (goodL ⟨kind, node, id, ops, deps, ats, vals⟩ = 2) := by unfold Hid goodL; rw [if_neg (by simp only; omega), if_pos (by simp only; omega)]
    go_enter Try.func39, Try.ntmps39
    go_wp2
    go_ret
    exact ⟨ret_int E.out.symm, hb0 _⟩
  go_enter Try.func39, Try.ntmps39
  go_wp2_with fail
  refine (isTxn_any id _).mono ?_
  rintro e w1 ⟨rfl, hw⟩
  subst hw
  cases tt : txnB id
  · have hid : ¬ (0 ≤ id ∧ id < 32) := by unfold txnB at tt; simpa using tt
    have E : Hid (goodL ⟨kind, node, id, ops, deps, ats, vals⟩ = 2) := by unfold Hid goodL; rw [if_neg (by simp only; omega), if_pos (by simp only; omega)]
    clear hid
    go_wp2
    go_ret
    exact ⟨ret_int E.out.symm, hb0 _⟩
  have hid : 0 ≤ id ∧ id < 32 := by unfold txnB at tt; simpa using tt
  have EE : Hid (goodL ⟨kind, node, id, ops, deps, ats, vals⟩ = if okAll ⟨kind, node, id, ops, deps, ats, vals⟩ && risesB (-1) ats && vals.all valB && decide (ats.length = vals.length) then 0 else 1) :=
    isframe_end (f := ⟨kind, node, id, ops, deps, ats, vals⟩) (by simp only; omega) (by simp only; omega)
  clear hid
  obtain ⟨W, hW⟩ : ∃ W, W = w.alloc (.cells #[.int .i64 kind, .int .i64 node, .int .i64 id, .slice a3 ops.length c3, .slice a4 deps.length c4, .slice a5 ats.length c5, .slice a6 vals.length c6] 39) := ⟨_, rfl⟩
  have f1 : FAt W w.heap.size kind node id (.slice a3 ops.length c3) (.slice a4 deps.length c4) (.slice a5 ats.length c5) (.slice a6 vals.length c6) := by rw [hW]; exact ⟨_, heap_new _ _⟩
  have hb1 : Below w.heap.size w W := by rw [hW]; exact hb0 _
  have HO : Hid (goodOpsF ⟨kind, node, id, ops, deps, ats, vals⟩ = if (kind == 1 || kind == 3) = true then goodOpsL ops else decide (ops.length = 0)) := by unfold Hid goodOpsF; simp
  have HD : Hid (goodDepsF ⟨kind, node, id, ops, deps, ats, vals⟩ = if (kind == 2 || kind == 3) = true then risingFrom (-1) deps && !hasL deps id else decide (deps.length = 0)) := by unfold Hid goodDepsF; simp
  have HA : Hid (okAll ⟨kind, node, id, ops, deps, ats, vals⟩ = (goodOpsF ⟨kind, node, id, ops, deps, ats, vals⟩ && goodDepsF ⟨kind, node, id, ops, deps, ats, vals⟩ && decide (kind = 5 ∨ ats.length = 0))) := rfl
  generalize hfo : goodOpsF ⟨kind, node, id, ops, deps, ats, vals⟩ = O at *
  generalize hfd : goodDepsF ⟨kind, node, id, ops, deps, ats, vals⟩ = D at *
  generalize hfa : okAll ⟨kind, node, id, ops, deps, ats, vals⟩ = A at *
  clear hfo hfd hfa
  have l3 := h3.2.1
  have l4 := h4.2.1
  have l5 := h5.2.1
  have l6 := h6.2.1
  unfold maxLen at l3 l4 l5 l6
  go_upto_region 6 with fail
  rw [← hW]
  clear hW hb0 tt
  obtain ⟨q0, q1, q2, q3, q4, q5, q6⟩ := f1.cell
  go_cut [38] from 9 (fun s wc => s = .bool (kind == 1 || kind == 3) ∧ wc = W)
  case first =>
    cases t1 : kind == 1
    · cases t2 : kind == 3
      all_goals
        go_wp2
        go_meet
        case rel => exact ⟨by rw [t1, t2]; rfl, rfl⟩
    · go_wp2
      go_meet
      case rel => exact ⟨by rw [t1]; rfl, rfl⟩
  case rest =>
    obtain ⟨hcs, hcw⟩ := hcut
    subst hcs hcw
    go_upto_if 38 with fail
    go_cut [3] from 9 (fun s wc => s = .bool O ∧ Below w.heap.size w wc ∧ FAt wc w.heap.size kind node id (.slice a3 ops.length c3) (.slice a4 deps.length c4) (.slice a5 ats.length c5) (.slice a6 vals.length c6))
    case first =>
      cases t1 : kind == 1 || kind == 3
      · have EO : Hid (O = decide (ops.length = 0)) := by unfold Hid; rw [HO.out, t1]; rfl
        go_wp2
        go_meet
        case rel =>
          refine ⟨?_, hb1, f1⟩
          rw [EO.out]
          congr 1
          rw [Bool.eq_iff_iff]
          simp
      · have EO : Hid (O = goodOpsL ops) := by unfold Hid; rw [HO.out, t1]; rfl
        go_wp2_with fail
        refine (isOps_any a3 c3 ops _ h3.2.1 (h3.later hb1).1 h3.2.2.1).mono ?_
        rintro e w2 ⟨rfl, hc⟩
        have hb2 := hb1.trans (hc.mono hb1.size)
        have f2 := f1.block (hc.block _ f1.lt)
        clear hc
        go_wp2
        go_meet
        case rel => exact ⟨by rw [EO.out], hb2, f2⟩
    case rest =>
      obtain ⟨hcs, hb2, f2⟩ := hcut
      subst hcs
      clear q0 q1 q2 q3 q4 q5 q6 f1 hb1
      obtain ⟨q0, q1, q2, q3, q4, q5, q6⟩ := f2.cell
      obtain ⟨X, hX⟩ : ∃ X, X = wc := ⟨_, rfl⟩
      subst hX
      go_upto_region 9 with fail
      go_cut [53] from 9 (fun s wc => s = .bool (kind == 2 || kind == 3) ∧ wc = X)
      case first =>
        cases t1 : kind == 2
        · cases t2 : kind == 3
          all_goals
            go_wp2
            go_meet
            case rel => exact ⟨by rw [t1, t2]; rfl, rfl⟩
        · go_wp2
          go_meet
          case rel => exact ⟨by rw [t1]; rfl, rfl⟩
      case rest =>
        obtain ⟨hcs, hcw⟩ := hcut
        subst hcs hcw
        have z4 := (h4.later hb2).1
        go_upto_if 53 with fail
        go_cut [3] from 9 (fun s wc' => s = .bool (O && D) ∧ wc' = wc)
        case first =>
          cases t1 : kind == 2 || kind == 3
          · have ED : Hid (D = decide (deps.length = 0)) := by unfold Hid; rw [HD.out, t1]; rfl
            cases O
            · go_wp2
              go_meet
              case rel => exact ⟨rfl, rfl⟩
            · go_wp2
              go_meet
              case rel =>
                refine ⟨?_, rfl⟩
                rw [ED.out]
                congr 1
                rw [Bool.eq_iff_iff]
                simp
          · have ED : Hid (D = (risingFrom (-1) deps && !hasL deps id)) := by unfold Hid; rw [HD.out, t1]; rfl
            cases O
            · go_wp2
              go_meet
              case rel => exact ⟨rfl, rfl⟩
            · go_wp2_with fail
              refine (isRising_any a4 c4 deps _ h4.2.1 z4).mono ?_
              rintro e wx ⟨rfl, hw⟩
              subst hw
              cases t2 : risingFrom (-1) deps
              · go_wp2
                go_meet
                case rel => exact ⟨by rw [ED.out, t2]; rfl, rfl⟩
              · go_wp2_with fail
                refine (ref_has a4 c4 deps id _ h4.2.1 z4).mono ?_
                rintro e wx ⟨rfl, hw⟩
                subst hw
                go_wp2
                go_meet
                case rel => exact ⟨by rw [ED.out, t2]; rfl, rfl⟩
        case rest =>
          obtain ⟨hcs, hcw⟩ := hcut
          subst hcs hcw
          clear z4
          go_upto_if 77 with fail
          have HA2 : Hid (A = ((O && D) && decide (kind = 5 ∨ ats.length = 0))) := HA.out
          generalize (O && D) = B at *
          go_cut [3] from 9 (fun s wc' => s = .bool A ∧ wc' = wc)
          case first =>
            cases t1 : kind != 5
            · have k5 : kind = 5 := by simpa using t1
              have EA : Hid (A = B) := by unfold Hid; rw [HA2.out, decide_eq_true (Or.inl k5), Bool.and_true]
              clear k5
              go_wp2
              go_meet
              case rel => exact ⟨by rw [EA.out], rfl⟩
            · have k5 : ¬ kind = 5 := by simpa using t1
              have EA : Hid (A = (B && decide (ats.length = 0))) := by unfold Hid; rw [HA2.out]; simp [k5]
              clear k5
              cases B
              · go_wp2
                go_meet
                case rel => exact ⟨by rw [EA.out]; rfl, rfl⟩
              · go_wp2
                go_meet
                case rel =>
                  refine ⟨?_, rfl⟩
                  rw [EA.out]
                  congr 1
                  rw [Bool.eq_iff_iff]
                  simp
          case rest =>
            obtain ⟨hcs, hcw⟩ := hcut
            subst hcs hcw
            clear HA HA2 HO HD
            have z5 := (h5.later hb2).1
            have z6 := (h6.later hb2).1
            go_wp2_with fail
            go_loop [3, 4, 88] (fun o l i => ∃ (k : Nat) (q : Int) (t : Bool), k ≤ ats.length ∧ i = .int .i64 k ∧ l = .int .i64 q ∧ o = .bool t ∧ Hid ((A && risesB (-1) ats) = (t && risesB q (ats.drop k)))) (fun _ _ i => ats.length - (intOf i).toNat)
            case atStart => exact ⟨0, -1, A, Nat.zero_le _, rfl, rfl, rfl, rfl⟩
            case round =>
              obtain ⟨k, l, t, hk, rfl, rfl, rfl, HR⟩ := hrel
              by_cases hlt : k < ats.length
              · obtain ⟨q, Hq, b, off, rfl, e0⟩ := IntsAt.get z5 hlt
                have HN : Hid ((A && risesB (-1) ats) = ((t && (decide (l < q) && decide (q < 4))) && risesB q (ats.drop (k + 1)))) := rises_step hlt Hq.out HR.out
                cases t
                · go_wp2
                  go_round
                  case rel => exact ⟨k + 1, q, false, by omega, by go_num, rfl, rfl, by rw [HN.out]; rfl⟩
                  case measure => simp [intOf]; omega
                · by_cases x1 : l < q
                  · by_cases x2 : q < 4
                    · go_wp2
                      go_round
                      case rel => exact ⟨k + 1, q, true, by omega, by go_num, rfl, by simp, by rw [HN.out, decide_eq_true x1, decide_eq_true x2]; rfl⟩
                      case measure => simp [intOf]; omega
                    · go_wp2
                      go_round
                      case rel => exact ⟨k + 1, q, false, by omega, by go_num, rfl, by simp, by rw [HN.out, decide_eq_false x2]; simp [Hid]⟩
                      case measure => simp [intOf]; omega
                  · go_wp2
                    go_round
                    case rel => exact ⟨k + 1, q, false, by omega, by go_num, rfl, by simp, by rw [HN.out, decide_eq_false x1]; rfl⟩
                    case measure => simp [intOf]; omega
              · have EA : Hid ((A && risesB (-1) ats) = t) := rises_fin hlt HR.out
                clear HR
                go_wp2_with fail
                go_loop [3, 107] (fun o i => ∃ (k : Nat) (t' : Bool), k ≤ vals.length ∧ i = .int .i64 k ∧ o = .bool t' ∧ Hid ((t && vals.all valB) = (t' && (vals.drop k).all valB))) (fun _ i => vals.length - (intOf i).toNat)
                case atStart => exact ⟨0, t, Nat.zero_le _, rfl, rfl, rfl⟩
                case round =>
                  obtain ⟨k2, t2, hk2, rfl, rfl, HR⟩ := hrel
                  by_cases hlt2 : k2 < vals.length
                  · obtain ⟨u, Hu, b, off, rfl, e0⟩ := IntsAt.get z6 hlt2
                    have HN : Hid ((t && vals.all valB) = ((t2 && valB u) && (vals.drop (k2 + 1)).all valB)) := vals_step hlt2 Hu.out HR.out
                    cases t2
                    · go_wp2
                      go_round
                      case rel => exact ⟨k2 + 1, false, by omega, by go_num, rfl, by rw [HN.out]; rfl⟩
                      case measure => simp [intOf]; omega
                    · have HV : Hid (valB u = (near u == u)) := by unfold Hid valB; rw [beq_flip, near_eq]
                      go_wp2_with fail
                      refine (bound_any u _).mono ?_
                      rintro e wx ⟨rfl, hw⟩
                      subst hw
                      cases tv : near u == u
                      all_goals
                        go_wp2
                        go_round
                        case rel => exact ⟨k2 + 1, _, by omega, by go_num, rfl, by rw [HN.out, HV.out, tv]; rfl⟩
                        case measure => simp [intOf]; omega
                  · have EB : Hid ((t && vals.all valB) = t2) := vals_fin hlt2 HR.out
                    have EG : Hid (goodL ⟨kind, node, id, ops, deps, ats, vals⟩ = if (t2 && decide (ats.length = vals.length)) = true then 0 else 1) := by
                      unfold Hid
                      rw [EE.out, EA.out, EB.out]
                    clear HR EE EA EB
                    cases t2
                    · have EG2 : Hid (goodL ⟨kind, node, id, ops, deps, ats, vals⟩ = 1) := by unfold Hid; rw [EG.out]; rfl
                      go_wp2
                      go_ret
                      exact ⟨ret_int EG2.out.symm, hb2⟩
                    · cases tl : (ats.length : Int) != (vals.length : Int)
                      · have hl : ats.length = vals.length := by simp at tl; omega
                        have EG2 : Hid (goodL ⟨kind, node, id, ops, deps, ats, vals⟩ = 0) := by unfold Hid; rw [EG.out, decide_eq_true hl]; rfl
                        clear hl
                        go_wp2
                        go_ret
                        exact ⟨ret_int EG2.out.symm, hb2⟩
                      · have hl : ¬ ats.length = vals.length := by simp at tl; omega
                        have EG2 : Hid (goodL ⟨kind, node, id, ops, deps, ats, vals⟩ = 1) := by unfold Hid; rw [EG.out, decide_eq_false hl]; rfl
                        clear hl
                        go_wp2
                        go_ret
                        exact ⟨ret_int EG2.out.symm, hb2⟩

end Go.Proofs.Ytkoefoccbjhoiaa
