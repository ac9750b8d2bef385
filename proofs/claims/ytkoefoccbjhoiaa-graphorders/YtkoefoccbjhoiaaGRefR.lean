/-
  The contracts of the document's own reaches, ReachOf and ReadyIn.
-/
import Derived.Test.YtkoefoccbjhoiaaGTwo
import Derived.Test.YtkoefoccbjhoiaaRHas
set_option linter.unusedVariables false
set_option linter.unusedSimpArgs false
namespace Go.Proofs.Ytkoefoccbjhoiaa
open Go.RowKit

def isOff : Option Value → Bool
  | some (.bool false) => true
  | _ => false
/-- How many of the truths at block P are false. -/
def offAt (w : World) (P : Nat) : Nat := (List.range 32).countP fun i => isOff (w.cell? ⟨P, i, none⟩)
def truthOf : Value → Nat
  | .bool true => 1
  | _ => 0
theorem off_set {w : World} {P : Nat} {S : Nat → Bool} (h : SetAt 32 w P S) : offAt w P = (List.range 32).countP fun i => !S i := by
  unfold offAt
  refine List.countP_congr fun i hi => ?_
  rw [h.cell (List.mem_range.1 hi)]
  cases S i <;> simp [isOff]
theorem countP_less {p q : Nat → Bool} : ∀ {l : List Nat}, (∀ x ∈ l, p x = true → q x = true) → (∃ x ∈ l, q x = true ∧ p x = false) → l.countP p < l.countP q
  | [], _, h => by obtain ⟨x, hx, _⟩ := h; simp at hx
  | a :: l, h1, h2 => by
    have le : l.countP p ≤ l.countP q := List.countP_mono_left fun x hx => h1 x (by simp [hx])
    simp only [List.countP_cons]
    obtain ⟨x, hx, h3, h4⟩ := h2
    rcases List.mem_cons.1 hx with rfl | hx
    · rw [h3, h4]; simp; omega
    · have ih := countP_less (fun y hy => h1 y (by simp [hy])) ⟨x, hx, h3, h4⟩
      have := h1 a (by simp)
      cases hp : p a
      · cases hq : q a <;> simp <;> omega
      · rw [this hp]; simp; omega

/-- In the midst of a pass that began with S0: those below k were gone through, and of k's list those below q. -/
structure Pass (g : GraphL) (n : Nat) (S0 S : Nat → Bool) (mo : Bool) (k : Nat) (ds : List Int) : Prop where
  sub : ∀ x, x < 32 → S0 x = true → S x = true
  snd : ∀ x, x < 32 → S x = true → Hangs g.adj n x
  no : mo = false → (∀ i, i < 32 → S i = S0 i) ∧ (∀ x, x < k → x < 32 → S0 x = true → ∀ y, g.adj x y = true → S0 y = true) ∧ ∀ y : Nat, y < 32 → (y : Int) ∈ ds → S0 y = true
  yes : mo = true → ∃ i, i < 32 ∧ S i = true ∧ S0 i = false

theorem Pass.start {g : GraphL} {n : Nat} {S0 : Nat → Bool} (h : ∀ x, x < 32 → S0 x = true → Hangs g.adj n x) : Pass g n S0 S0 false 0 [] :=
  ⟨fun _ _ h => h, h, fun _ => ⟨fun _ _ => rfl, fun x hx => by omega, by simp⟩, fun h => by cases h⟩
/-- k is not in, or not known. -/
theorem Pass.skip {g : GraphL} {n : Nat} {S0 S : Nat → Bool} {mo : Bool} {k : Nat} (h : Pass g n S0 S mo k []) (hk : k < 32) (hs : S k = false ∨ g.known k = false) : Pass g n S0 S mo (k + 1) [] := by
  refine ⟨h.sub, h.snd, fun hm => ?_, h.yes⟩
  obtain ⟨h1, h2, h3⟩ := h.no hm
  refine ⟨h1, fun x hx hx' hs0 y hy => ?_, h3⟩
  by_cases e : x = k
  · subst e
    rcases hs with hs | hs
    · rw [h.sub x hk hs0] at hs; cases hs
    · unfold GraphL.adj at hy
      rw [hs] at hy
      simp at hy
  · exact h2 x (by omega) hx' hs0 y hy
/-- All of k's list was gone through. -/
theorem Pass.next {g : GraphL} {n : Nat} {S0 S : Nat → Bool} {mo : Bool} {k : Nat} (h : Pass g n S0 S mo k (g.deps k)) : Pass g n S0 S mo (k + 1) [] := by
  refine ⟨h.sub, h.snd, fun hm => ?_, h.yes⟩
  obtain ⟨h1, h2, h3⟩ := h.no hm
  refine ⟨h1, fun x hx hx' hs0 y hy => ?_, by simp⟩
  by_cases e : x = k
  · subst e
    have hy' := hy
    simp [GraphL.adj] at hy'
    exact h3 y hy'.1.1.2 hy'.2
  · exact h2 x (by omega) hx' hs0 y hy
theorem Pass.in {g : GraphL} {n : Nat} {S0 S : Nat → Bool} {mo : Bool} {k y : Nat} {ds : List Int} (h : Pass g n S0 S mo k ds) (hy : y < 32) (hs : S y = true) : Pass g n S0 S mo k (ds ++ [(y : Int)]) := by
  refine ⟨h.sub, h.snd, fun hm => ?_, h.yes⟩
  obtain ⟨h1, h2, h3⟩ := h.no hm
  refine ⟨h1, h2, fun z hz hm' => ?_⟩
  rcases List.mem_append.1 hm' with h4 | h4
  · exact h3 z hz h4
  · have : z = y := by simp at h4; omega
    rw [this, ← h1 y hy]
    exact hs
theorem Pass.out {g : GraphL} {n : Nat} {S0 S : Nat → Bool} {mo : Bool} {k : Nat} {ds : List Int} {z : Int} (h : Pass g n S0 S mo k ds) (hz : ¬ (0 ≤ z ∧ z < 32)) : Pass g n S0 S mo k (ds ++ [z]) := by
  refine ⟨h.sub, h.snd, fun hm => ?_, h.yes⟩
  obtain ⟨h1, h2, h3⟩ := h.no hm
  refine ⟨h1, h2, fun y hy hm' => ?_⟩
  rcases List.mem_append.1 hm' with h4 | h4
  · exact h3 y hy h4
  · exfalso; apply hz; simp at h4; omega
theorem Pass.put {g : GraphL} {n : Nat} {S0 S : Nat → Bool} {mo : Bool} {k y : Nat} {ds : List Int} (h : Pass g n S0 S mo k ds) (hk : k < 32) (hsk : S k = true) (hkn : g.known k = true) (hy : y < 32) (hmem : (y : Int) ∈ g.deps k) (hs : S y = false) :
    Pass g n S0 (fun i => if i = y then true else S i) true k (ds ++ [(y : Int)]) := by
  refine ⟨fun x hx h0 => ?_, fun x hx h0 => ?_, fun hm => (by cases hm), fun _ => ⟨y, hy, by simp, ?_⟩⟩
  · show (if x = y then true else S x) = true
    split
    · rfl
    · exact h.sub x hx h0
  · have h0 : (if x = y then true else S x) = true := h0
    split at h0
    · rename_i e
      subst e
      exact (h.snd k hk hsk).trans (.one (by simp [GraphL.adj, hk, hy, hkn, hmem]))
    · exact h.snd x hx h0
  · cases h0 : S0 y
    · rfl
    · rw [h.sub y hy h0] at hs; cases hs

/-- What is closed, and sound, is what n hangs on. -/
theorem closed_all {g : GraphL} {n : Nat} {S : Nat → Bool} (hn : n < 32) (h0 : S n = true) (hs : ∀ x, x < 32 → S x = true → Hangs g.adj n x) (hc : ∀ x, x < 32 → S x = true → ∀ y, g.adj x y = true → S y = true) {x : Nat} (hx : x < 32) : S x = hangB g n x := by
  rw [Bool.eq_iff_iff, hangB_iff g hn x]
  refine ⟨hs x hx, fun h => ?_⟩
  have : ∀ a b, Hangs g.adj a b → a < 32 → S a = true → S b = true := by
    intro a b h
    induction h using Hangs.ind with
    | refl => exact fun _ h => h
    | step e _ ih => exact fun ha h1 => ih (g.adj_lt _ _ e) (hc _ ha h1 _ e)
  exact this n x h hn h0

theorem take_snocI {l : List Int} {k : Nat} {z : Int} (h : k < l.length) (hz : l.getD k 0 = z) : l.take (k + 1) = l.take k ++ [z] := by
  rw [List.take_succ_eq_append_getElem h, ← hz]
  simp [List.getD, h]
theorem getD_memI {l : List Int} {k : Nat} (h : k < l.length) : l.getD k 0 ∈ l := by
  rw [List.getD, List.getElem?_eq_getElem h]
  exact List.getElem_mem h
theorem three_rows (w : World) (A B C : Obj) : (((w.alloc A).alloc B).alloc C).heap[w.heap.size]? = some A ∧ (((w.alloc A).alloc B).alloc C).heap[w.heap.size + 1]? = some B ∧ (((w.alloc A).alloc B).alloc C).heap[w.heap.size + 1 + 1]? = some C := by
  have h1 : (w.alloc A).heap.size = w.heap.size + 1 := size_push _ _
  have h2 : ((w.alloc A).alloc B).heap.size = w.heap.size + 1 + 1 := by rw [size_push, size_push]
  refine ⟨?_, ?_, ?_⟩
  · rw [Below.heap_alloc _ _ _ (by omega)]; exact heap_alloc2_old w A B
  · rw [Below.heap_alloc _ _ _ (by omega)]; exact heap_alloc2_new w A B
  · rw [← h2]; exact heap_new _ _

set_option maxRecDepth 100000 in
set_option maxHeartbeats 2000000 in
theorem reaches_any (gv : Nat → Value) (g : GraphL) (n : Int) (w : World) (hg : GraphC w.heap.size w gv g) :
    Calls Try.prog 86 #[.agg (rowF 64 gv), .int .i64 n] w fun e w' => e = .returned (.agg (bools 32 (reachI g n))) ∧ Below w.heap.size w w' := by
  obtain ⟨gr, hgr⟩ : ∃ gr, gr = rowF 64 gv := ⟨_, rfl⟩
  rw [← hgr]
  have HGR : Hid (gr = rowF 64 gv) := hgr
  clear hgr
  have hr := three_rows w (.cells gr 63) (.cells (bools 32 fun _ => false) 60) (.cells (bools 32 fun _ => false) 60)
  have hb : Below w.heap.size w (((w.alloc (.cells gr 63)).alloc (.cells (bools 32 fun _ => false) 60)).alloc (.cells (bools 32 fun _ => false) 60)) := (((Below.refl _ _).alloc (Nat.le_refl _) _).alloc (by rw [size_push]; omega) _).alloc (by rw [size_push, size_push]; omega) _
  have hz : (((w.alloc (.cells gr 63)).alloc (.cells (bools 32 fun _ => false) 60)).alloc (.cells (bools 32 fun _ => false) 60)).heap.size = w.heap.size + 3 := by rw [size_push, size_push, size_push]
  go_enter Try.func86, Try.ntmps86
  go_upto_region 2 with fail
  rw [← Try.zero60]
  obtain ⟨W, hW⟩ : ∃ W, W = ((w.alloc (.cells gr 63)).alloc (.cells (bools 32 fun _ => false) 60)).alloc (.cells (bools 32 fun _ => false) 60) := ⟨_, rfl⟩
  rw [← hW] at hr hb hz ⊢
  clear hW
  obtain ⟨hr1, hr2, hr3⟩ := hr
  by_cases ht : 0 ≤ n ∧ n < 32
  · obtain ⟨m, rfl⟩ := Int.eq_ofNat_of_zero_le ht.1
    have hm : m < 32 := by omega
    have tb : txnB (m : Int) = true := decide_eq_true ht
    have m1 : (0 : Int) ≤ (m : Int) ∧ (m : Int) < 32 := ht
    have tb' : txnB' (m : Int) = true := by simp [txnB']; omega
    have E : Hid (reachI g (m : Int) = hangB g m) := by
      unfold Hid
      funext j
      unfold reachI
      rw [tb']
      rfl
    have hS0 : SetAt 32 W (w.heap.size + 1 + 1) (fun _ => false) := ⟨60, hr3⟩
    have f0 := hS0.cell hm
    have f1 := hS0.frozen m
    have hS1 := hS0.put m true
    have hG1 := grown_put_same (World.grownBy.refl W (some (w.heap.size + 1 + 1))) m (.bool true)
    have HK : Hid (∀ i, i < 32 → W.cell? ⟨w.heap.size, i, none⟩ = some (.bool (g.known i))) := by
      intro i hi
      rw [cell_of_row W _ i _ _ _ hr1, HGR.out, rowF_get gv (by omega), hg.known i hi]
    have HD : Hid (∀ i, i < 32 → ∃ a cap, W.cell? ⟨w.heap.size, 32 + i, none⟩ = some (.slice a (g.deps i).length cap) ∧ IntsAt w.heap.size W a (g.deps i) ∧ (g.deps i).length ≤ maxLen) := by
      intro i hi
      obtain ⟨a, cap, h1, h2, h3⟩ := hg.deps i hi
      exact ⟨a, cap, by rw [cell_of_row W _ _ _ _ _ hr1, HGR.out, rowF_get gv (by omega), h1], h2.later hb, h3⟩
    have HR2 : Hid (W.heap[w.heap.size + 1]? = some (.cells (bools 32 fun _ => false) 60 (0, 0))) := hr2
    have HB : Hid (Below w.heap.size w W) := hb
    have HZ : Hid (W.heap.size = w.heap.size + 3) := hz
    clear tb' hr1 hr2 hr3 hb hg hS0 HGR
    go_wp2_with (first
      | (go_at_call 67; refine (isTxn_any _ _).mono ?_; rintro e V ⟨rfl, rfl⟩))
    obtain ⟨W1, hW1⟩ : ∃ W1, W1 = V.setCell ⟨w.heap.size + 1 + 1, m, none⟩ (.bool true) := ⟨_, rfl⟩
    rw [← hW1] at hS1 hG1 ⊢
    clear hW1 f0 f1
    go_loopw [6] (fun v6 wr => ∃ (mo : Bool) (S : Nat → Bool), v6 = .bool mo ∧ SetAt 32 wr (w.heap.size + 1 + 1) S ∧ (∀ x, x < 32 → S x = true → Hangs g.adj m x) ∧ S m = true ∧ (mo = false → ∀ x, x < 32 → S x = true → ∀ y, g.adj x y = true → S y = true) ∧ V.grownBy wr (some (w.heap.size + 1 + 1))) (fun v6 wr => truthOf v6 + 2 * offAt wr (w.heap.size + 1 + 1))
    case atStart => exact ⟨true, _, rfl, hS1, fun x _ h => by
        have : x = m := by
          by_cases e : x = m
          · exact e
          · simp [e] at h
        rw [this]; exact .refl _, by simp, (by intro h; cases h), hG1⟩
    case round =>
      obtain ⟨mo, S0, rfl, hS, hsnd, hSm, hclo, hG⟩ := hrel
      clear hS1 hG1
      obtain ⟨wo, hwo⟩ : ∃ wo, wo = wr := ⟨_, rfl⟩
      subst hwo
      have hzV := HZ.out
      have hoz := hG.size
      cases mo
      · have hE : ∀ x, x < 32 → S0 x = hangB g m x := fun x hx => closed_all hm hSm hsnd (hclo rfl) hx
        obtain ⟨t, ht⟩ := hS.congr hE
        have hr4 : wo.heap[w.heap.size + 1]? = some (.cells (bools 32 fun _ => false) 60 (0, 0)) := by rw [hG.block _ (by omega) (by simp)]; exact HR2.out
        have hbf : Below w.heap.size w wo := HB.out.grown hG (by omega) (by intro k hk; cases hk; omega)
        clear hS hsnd hclo hG hE
        go_wp2_with (first
          | (refine wpList_load_row rfl 60 _ rfl (w.heap.size + 1 + 1) rfl t (bools 32 (hangB g m)) (0, 0) _ ht Try.underlying60 rfl (Try.sizeSet' _) ?_)
          | (refine wpList_store_row rfl 60 _ _ rfl (w.heap.size + 1) (bools 32 (hangB g m)) rfl rfl 60 _ hr4 (Try.sizeSet' _) (by rw [bools_size, bools_size]) (bools_all _ _) ?_))
        refine bodyPost_ret (v := .agg (bools 32 (hangB g m))) (results_cell_row Try.results86 _ _ (w.heap.size + 1) 60 _ (0, 0) _ rfl (heap_setRow hr4) Try.underlying60 rfl (Try.sizeSet' _)) rfl ⟨by rw [E.out], setRow_below hbf (by omega) _⟩
      · have HS0 : Hid (SetAt 32 wo (w.heap.size + 1 + 1) S0) := hS
        have HG0 : Hid (V.grownBy wo (some (w.heap.size + 1 + 1))) := hG
        have HSN : Hid (∀ x, x < 32 → S0 x = true → Hangs g.adj m x) := hsnd
        have HSm : Hid (S0 m = true) := hSm
        clear hS hG hsnd hclo hSm
        go_wp2_with fail
        go_loopw [6, 17] (fun v6 i wr => ∃ (k : Nat) (mo : Bool) (S : Nat → Bool), k ≤ 32 ∧ i = .int .i64 k ∧ v6 = .bool mo ∧ SetAt 32 wr (w.heap.size + 1 + 1) S ∧ Pass g m S0 S mo k [] ∧ V.grownBy wr (some (w.heap.size + 1 + 1))) (fun _ i _ => 32 - (intOf i).toNat)
        case atStart => exact ⟨0, false, S0, Nat.zero_le _, rfl, rfl, HS0.out, Pass.start HSN.out, HG0.out⟩
        case round =>
          obtain ⟨k, mo, S, hk, rfl, rfl, hS, hP, hG⟩ := hrel
          obtain ⟨wm, hwm⟩ : ∃ wm, wm = wr := ⟨_, rfl⟩
          subst hwm
          by_cases hlt : k < 32
          · have k1 : (0 : Int) ≤ (k : Int) ∧ (k : Int) < 32 := by omega
            have c0 := hS.cell hlt
            have kn : wm.cell? ⟨w.heap.size, k, none⟩ = some (.bool (g.known k)) := World.grownBy.cell hG (HK.out k hlt) (by simp; omega)
            obtain ⟨a, cap, hd0, hz0, hl0⟩ := HD.out k hlt
            have d0 : wm.cell? ⟨w.heap.size, 32 + k, none⟩ = some (.slice a (g.deps k).length cap) := World.grownBy.cell hG hd0 (by simp; omega)
            have HSm2 : Hid (SetAt 32 wm (w.heap.size + 1 + 1) S) := hS
            have HGm : Hid (V.grownBy wm (some (w.heap.size + 1 + 1))) := hG
            have HPm : Hid (Pass g m S0 S mo k []) := hP
            clear hS hG hP hd0
            cases tk : S k
            · rw [tk] at c0
              go_wp2_with fail
              go_roundw
              case rel => exact ⟨k + 1, mo, S, by omega, by go_num, rfl, HSm2.out, HPm.out.skip hlt (Or.inl tk), HGm.out⟩
              case measure => simp [intOf]; omega
            · rw [tk] at c0
              cases tg : g.known k
              · rw [tg] at kn
                go_wp2_with fail
                go_roundw
                case rel => exact ⟨k + 1, mo, S, by omega, by go_num, rfl, HSm2.out, HPm.out.skip hlt (Or.inr tg), HGm.out⟩
                case measure => simp [intOf]; omega
              · rw [tg] at kn
                obtain ⟨zs, hzs⟩ : ∃ zs, zs = g.deps k := ⟨_, rfl⟩
                rw [← hzs] at d0 hz0 hl0
                have HZS : Hid (zs = g.deps k) := hzs
                clear hzs
                unfold maxLen at hl0
                have h64 : (zs.length : Int) ≤ 9223372036854775807 := by omega
                rcases hz0 with hnil | ⟨b, off, ha, hbb, hcell⟩
                · subst hnil
                  go_wp2_with fail
                  refine wp_loop_rounds 1 ?_; rw [rounds_succ]
                  go_wp2_with fail
                  go_roundw
                  case rel => exact ⟨k + 1, mo, S, by omega, by go_num, rfl, HSm2.out, Pass.next (by rw [← HZS.out]; exact HPm.out), HGm.out⟩
                  case measure => simp [intOf]; omega
                · rw [ha] at d0
                  have HC : Hid (∀ i, i < zs.length → V.cell? ⟨b, off + i, none⟩ = some (.int .i64 (zs.getD i 0))) := hcell
                  clear ha hcell
                  go_wp2_with fail
                  go_loopw [6, 36] (fun v6 i wr => ∃ (q : Nat) (mo : Bool) (S : Nat → Bool), q ≤ zs.length ∧ i = .int .i64 q ∧ v6 = .bool mo ∧ SetAt 32 wr (w.heap.size + 1 + 1) S ∧ Pass g m S0 S mo k (zs.take q) ∧ S k = true ∧ V.grownBy wr (some (w.heap.size + 1 + 1))) (fun _ i _ => zs.length - (intOf i).toNat)
                  case atStart => exact ⟨0, mo, S, Nat.zero_le _, rfl, rfl, HSm2.out, HPm.out, tk, HGm.out⟩
                  case round =>
                    obtain ⟨q, mo2, T, hq, rfl, rfl, hT, hPq, hTk, hGq⟩ := hrel
                    clear HSm2 HGm HPm c0 tk kn d0
                    have HT : Hid (SetAt 32 wr (w.heap.size + 1 + 1) T) := hT
                    have HPq : Hid (Pass g m S0 T mo2 k (zs.take q)) := hPq
                    have HTk : Hid (T k = true) := hTk
                    have HGq : Hid (V.grownBy wr (some (w.heap.size + 1 + 1))) := hGq
                    by_cases hql : q < zs.length
                    · obtain ⟨z, Hz⟩ : ∃ z : Int, Hid (zs.getD q 0 = z) := ⟨_, rfl⟩
                      have e0 : wr.cell? ⟨b, off + q, none⟩ = some (.int .i64 z) := by
                        rw [World.grownBy.cell hGq (HC.out q hql) (by simp; omega), Hz.out]
                      have HTS : Hid (zs.take (q + 1) = zs.take q ++ [z]) := take_snocI hql Hz.out
                      have HMZ : Hid (z ∈ g.deps k) := by unfold Hid; rw [← HZS.out, ← Hz.out]; exact getD_memI hql
                      by_cases hzr : 0 ≤ z ∧ z < 32
                      · obtain ⟨y, rfl⟩ := Int.eq_ofNat_of_zero_le hzr.1
                        have hy : y < 32 := by omega
                        have y1 : (0 : Int) ≤ (y : Int) ∧ (y : Int) < 32 := hzr
                        have tb : txnB (y : Int) = true := decide_eq_true hzr
                        have c1 := hT.cell hy
                        have f1 := hT.frozen y
                        clear hT hPq hTk hGq
                        cases ty : T y
                        · rw [ty] at c1
                          go_wp2_with (first
                            | (go_at_call 67; refine (isTxn_any _ _).mono ?_; rintro e w' ⟨rfl, rfl⟩))
                          go_roundw
                          case rel =>
                            refine ⟨q + 1, true, fun i => if i = y then true else T i, by omega, by go_num, rfl, HT.out.put y true, by rw [HTS.out]; exact HPq.out.put hlt HTk.out tg hy HMZ.out ty, ?_, grown_put_same HGq.out _ _⟩
                            show (if k = y then true else T k) = true
                            split
                            · rfl
                            · exact HTk.out
                          case measure => simp [intOf]; omega
                        · rw [ty] at c1
                          go_wp2_with (first
                            | (go_at_call 67; refine (isTxn_any _ _).mono ?_; rintro e w' ⟨rfl, rfl⟩))
                          go_roundw
                          case rel => exact ⟨q + 1, mo2, T, by omega, by go_num, rfl, HT.out, by rw [HTS.out]; exact HPq.out.in hy ty, HTk.out, HGq.out⟩
                          case measure => simp [intOf]; omega
                      · have tb : txnB z = false := decide_eq_false hzr
                        clear hT hPq hTk hGq
                        go_wp2_with (first
                          | (go_at_call 67; refine (isTxn_any _ _).mono ?_; rintro e w' ⟨rfl, rfl⟩))
                        go_roundw
                        case rel => exact ⟨q + 1, mo2, T, by omega, by go_num, rfl, HT.out, by rw [HTS.out]; exact HPq.out.out hzr, HTk.out, HGq.out⟩
                        case measure => simp [intOf]; omega
                    · have HPe : Hid (Pass g m S0 T mo2 (k + 1) []) := by
                        have h1 := hPq
                        rw [List.take_of_length_le (by omega), HZS.out] at h1
                        exact h1.next
                      clear hT hPq hTk hGq
                      go_wp2_with fail
                      go_roundw
                      case rel => exact ⟨k + 1, mo2, T, by omega, by go_num, rfl, HT.out, HPe.out, HGq.out⟩
                      case measure => simp [intOf]; omega
          · obtain rfl : k = 32 := by omega
            have hoff0 := off_set HS0.out
            have hoff := off_set hS
            have HP : Hid (Pass g m S0 S mo 32 []) := hP
            have HS : Hid (SetAt 32 wm (w.heap.size + 1 + 1) S) := hS
            have HG : Hid (V.grownBy wm (some (w.heap.size + 1 + 1))) := hG
            have HO : Hid (offAt wm (w.heap.size + 1 + 1) = (List.range 32).countP fun i => !S i) := hoff
            have HO0 : Hid (offAt wo (w.heap.size + 1 + 1) = (List.range 32).countP fun i => !S0 i) := hoff0
            clear hoff hoff0 hS hP hG
            go_wp2
            go_roundw
            case rel =>
              refine ⟨mo, S, rfl, HS.out, HP.out.snd, HP.out.sub m hm HSm.out, fun h x hx hsx y hy => ?_, HG.out⟩
              obtain ⟨h1, h2, _⟩ := HP.out.no h
              rw [h1 y (g.adj_lt _ _ hy)]
              exact h2 x hx hx (by rw [← h1 x hx]; exact hsx) y hy
            case measure =>
              show truthOf (.bool mo) + 2 * offAt wm (w.heap.size + 1 + 1) < truthOf (.bool true) + 2 * offAt wo (w.heap.size + 1 + 1)
              rw [HO.out, HO0.out]
              cases mo
              · have h1 := (HP.out.no rfl).1
                have : (List.range 32).countP (fun i => !S i) = (List.range 32).countP (fun i => !S0 i) := List.countP_congr fun i hi => by rw [h1 i (List.mem_range.1 hi)]
                rw [this]
                simp [truthOf]
              · obtain ⟨i, hi, h1, h2⟩ := HP.out.yes rfl
                have : (List.range 32).countP (fun i => !S i) < (List.range 32).countP (fun i => !S0 i) := by
                  refine countP_less (fun x hx h => ?_) ⟨i, List.mem_range.2 hi, by simp [h2], by simp [h1]⟩
                  cases h0 : S0 x
                  · rfl
                  · rw [HP.out.sub x (List.mem_range.1 hx) h0] at h; cases h
                simp only [truthOf]
                omega
  · have tb : txnB n = false := decide_eq_false ht
    have E : Hid (bools 32 (reachI g n) = bools 32 fun _ => false) := by
      unfold Hid
      congr 1
      funext j
      unfold reachI
      have : txnB' n = false := decide_eq_false ht
      rw [this]
      rfl
    clear hr1 hz
    go_wp2_with (first
      | (go_at_call 67; refine (isTxn_any _ _).mono ?_; rintro e w' ⟨rfl, rfl⟩)
      | (refine wpList_load_row rfl 60 _ rfl (w.heap.size + 1 + 1) rfl 60 (bools 32 fun _ => false) (0, 0) _ hr3 Try.underlying60 rfl (Try.sizeSet' _) ?_)
      | (refine wpList_store_row rfl 60 _ _ rfl (w.heap.size + 1) (bools 32 fun _ => false) rfl rfl 60 _ hr2 (Try.sizeSet' _) rfl (bools_all _ _) ?_))
    refine bodyPost_ret (v := .agg (bools 32 fun _ => false)) (results_cell_row Try.results86 _ _ (w.heap.size + 1) 60 _ (0, 0) _ rfl (heap_setRow hr2) Try.underlying60 rfl (Try.sizeSet' _)) rfl ⟨by rw [E.out], setRow_below hb (by omega) _⟩

end Go.Proofs.Ytkoefoccbjhoiaa
