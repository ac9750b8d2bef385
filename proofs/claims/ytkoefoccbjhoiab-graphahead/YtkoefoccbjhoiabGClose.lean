/-
  The contract of package graph's closeRing.
-/
import Derived.Test.YtkoefoccbjhoiabGAhead
set_option linter.unusedVariables false
set_option linter.unusedSimpArgs false
namespace Go.Proofs.Ytkoefoccbjhoiab
open Go.RowKit

def ints (l : List Nat) : List Int := l.map fun x : Nat => (x : Int)
theorem ints_len (l : List Nat) : (ints l).length = l.length := by simp [ints]
theorem ints_get (l : List Nat) {i : Nat} (h : i < l.length) : (ints l).getD i 0 = ((l.getD i 0 : Nat) : Int) := by simp [ints, List.getD, h]
/-- The stack: a slice of the search's own. -/
def Own (w : World) (c : Nat) (sv : Value) (l : List Nat) : Prop := w.ownsRow (c + 1) 3 1 sv (ints l).length (intCells (ints l))
theorem Own.kept {w w' : World} {c : Nat} {sv : Value} {l : List Nat} (h : Own w c sv l) (hg : w.grownBy w' (some c)) : Own w' c sv l := by
  refine World.ownsRow.kept h hg ?_
  cases hv : sv.ownBlock with
  | none => exact Or.inl rfl
  | some k => exact Or.inr (fun e => by have := (World.ownsRow.lt h k hv).1; cases e; omega)
theorem Own.form {w : World} {c : Nat} {sv : Value} {l : List Nat} (h : Own w c sv l) (hl : 0 < l.length) : ∃ g cap, sv = .slice (some ⟨g, 0, none⟩) (ints l).length cap ∧ c < g ∧ (ints l).length ≤ cap ∧ cap ≤ maxLen ∧ g < w.heap.size ∧ ∀ i, i < (ints l).length → w.cell? ⟨g, i, none⟩ = some (.int .i64 ((ints l).getD i 0)) := by
  have hk := h
  obtain ⟨_, h2⟩ := h
  rcases h2 with ⟨rfl, hn⟩ | ⟨g, cap, cur, rfl, hg, hh, hc, hm, hcur, hx⟩
  · rw [ints_len] at hn; omega
  · refine ⟨g, cap, rfl, by omega, hc, hm, (Array.getElem?_eq_some_iff.1 hh).1, fun i hi => ?_⟩
    have := World.ownsRow.cellAt hk i (by omega)
    rw [this]
    simp [intCells, List.getD, hi]
/-- Cut off behind k. -/
theorem Own.cut {w : World} {c g cap : Nat} {l : List Nat} (h : Own w c (.slice (some ⟨g, 0, none⟩) (ints l).length cap) l) {k : Nat} (hk : k ≤ l.length) : Own w c (.slice (some ⟨g, 0, none⟩) k cap) (l.take k) := by
  obtain ⟨h1, h2⟩ := h
  rcases h2 with ⟨e, _⟩ | ⟨g', cap', cur, e, hg, hh, hc, hm, hcur, hx⟩
  · cases e
  · cases e
    have hl : (ints (l.take k)).length = k := by rw [ints_len]; simp; omega
    refine ⟨by simp [intCells], Or.inr ⟨g, cap, cur, by rw [hl], hg, hh, by rw [hl]; rw [ints_len] at hc; omega, hm, hcur, ?_⟩⟩
    rw [hl]
    have : (intCells (ints l)).take (k * 1) = intCells (ints (l.take k)) := by simp [intCells, ints, List.map_take]
    rw [← this, ← hx, List.take_take]
    congr 1
    rw [ints_len]
    omega

/-- A ring of which k were taken off. -/
def St.closeTo (s : St) (n : Nat) (l : List Nat) : St :=
  { s with opn := fun i => s.opn i && !l.contains i, reach := fun i => if l.contains i then s.reach n else s.reach i }
theorem closeTo_nil (s : St) (n : Nat) : s.closeTo n [] = s := by simp [St.closeTo]
theorem closeTo_snoc (s : St) (n m : Nat) (l : List Nat) :
    (let r : St := { s.closeTo n l with opn := upd (s.closeTo n l).opn m false }; ({ r with reach := upd r.reach m (s.reach n) } : St)) = s.closeTo n (l ++ [m]) := by
  unfold St.closeTo
  simp only
  congr 1
  · funext i
    unfold upd
    by_cases e : i = m
    · subst e; simp
    · simp [e]
  · funext i
    unfold upd
    by_cases e : i = m
    · subst e; simp
    · simp [e]
theorem closeTo_reach (s : St) (n : Nat) (l : List Nat) : (s.closeTo n l).reach n = s.reach n := by
  unfold St.closeTo
  simp

theorem keep_row {w : World} {c o : Nat} {cs : List Value} (h : w.rangeAt c o cs ∧ w.there c o 32) (k1 : cs.length = 32) : (w.setCells c o cs).rangeAt c o cs ∧ (w.setCells c o cs).there c o 32 :=
  ⟨World.rangeAt_setCells_same w c o cs (by rw [k1]; exact h.2), World.there_setCells h.2 _ _ _⟩
theorem keep_apart {w : World} {c o o' : Nat} {cs : List Value} (h : w.rangeAt c o cs ∧ w.there c o' 32) (k1 : cs.length = 32) (hap : o + 32 ≤ o' ∨ o' + 32 ≤ o) : (w.setCells c o' cs).rangeAt c o cs ∧ (w.setCells c o' cs).there c o' 32 :=
  ⟨World.rangeAt_setCells_apart h.1 c o' cs (by rw [k1]; omega), World.there_setCells h.2 _ _ _⟩
theorem grown_puts {w : World} {c : Nat} : ∀ {w1 : World}, w.grownBy w1 (some c) → ∀ (o : Nat) (vs : List Value), w.grownBy (w1.setCells c o vs) (some c)
  | _, h, _, [] => h
  | _, h, o, v :: vs => by rw [World.setCells]; exact grown_puts (grown_put_same h o v) (o + 1) vs
theorem take_snoc {l : List Nat} {k : Nat} (h : k < l.length) : l.take (k + 1) = l.take k ++ [l.getD k 0] := by
  rw [List.take_succ_eq_append_getElem h]
  simp [List.getD, h]

set_option maxRecDepth 100000 in
set_option maxHeartbeats 800000 in
theorem close_any (c : Nat) (gv : Nat → Value) (s : St) (sv : Value) (n : Nat) (pre ext : List Nat) (w : World) (hs : StAt w c gv s sv) (ho : Own w c sv s.stack) (he : s.stack = pre ++ n :: ext) (hp : n ∉ pre) (h32 : ∀ x ∈ s.stack, x < 32) :
    Calls Try.prog 130 #[.pointer (some ⟨c, 0, none⟩), .int .i64 n] w fun e w' => e = .returned (.tuple #[]) ∧ ∃ sv', StAt w' c gv (s.close n) sv' ∧ Own w' c sv' (s.close n).stack ∧ w.grownBy w' (some c) := by
  have hc := hs.lt
  have hlen : s.stack.length = pre.length + 1 + ext.length := by rw [he]; simp; omega
  have hn : n < 32 := h32 n (by rw [he]; simp)
  obtain ⟨g, cap, rfl, hg, hcap, hmax, hgl, hcell⟩ := ho.form (by omega)
  have hi : s.stack.idxOf n = pre.length := by rw [he]; exact idxOf_split hp
  have htake : s.stack.take pre.length = pre := by rw [he]; simp
  have hdrop : s.stack.drop pre.length = n :: ext := by rw [he]; simp
  have E : Hid (s.close n = { s.closeTo n (n :: ext) with stack := pre }) := by
    unfold Hid St.close St.closeTo
    rw [hi, htake, hdrop]
  have hzl : (ints s.stack).length = pre.length + 1 + ext.length := by rw [ints_len]; exact hlen
  have hget : ∀ k, k < 1 + ext.length → (ints s.stack).getD (pre.length + k) 0 = (((n :: ext).getD k 0 : Nat) : Int) := by
    intro k hk
    rw [ints_get _ (by omega), he]
    simp [List.getD, List.getElem?_append_right]
  have hidx : ∀ wx : World, Below w.heap.size w wx → Calls Try.prog 140 #[.slice (some ⟨g, 0, none⟩) (ints s.stack).length cap, .int .i64 n] wx fun e w' => e = .returned (.int .i64 pre.length) ∧ w' = wx := by
    intro wx hb
    have hz : IntsAt wx.heap.size wx (some ⟨g, 0, none⟩) (ints s.stack) := Or.inr ⟨g, 0, rfl, by have := hb.size; omega, fun i hi => by rw [hb.cell (p := ⟨g, 0 + i, none⟩) hgl, Nat.zero_add]; exact hcell i hi⟩
    refine index_any _ cap (ints s.stack) n pre.length wx (by omega) hz (by omega) ?_ ?_
    · have := hget 0 (by omega); simpa using this
    · intro j hj
      rw [ints_get _ (by omega), he]
      intro e
      apply hp
      have h1 : (pre ++ n :: ext).getD j 0 = n := by omega
      have h2 : (pre ++ n :: ext).getD j 0 = pre[j] := by simp [List.getD, List.getElem?_append_left hj, hj]
      rw [h2] at h1
      rw [← h1]
      exact List.getElem_mem hj
  have c0 : w.cell? ⟨c, 129, none⟩ = some (.slice (some ⟨g, 0, none⟩) (ints s.stack).length cap) := by rw [BlkAt.cell hs (by omega)]; rfl
  generalize hz : ints s.stack = zs at *
  have HG : Hid (∀ k, k < 1 + ext.length → zs.getD (pre.length + k) 0 = (((n :: ext).getD k 0 : Nat) : Int)) := hget
  have HC : Hid (∀ i, i < zs.length → w.cell? ⟨g, i, none⟩ = some (.int .i64 (zs.getD i 0))) := hcell
  have HS : Hid (StAt w c gv s (.slice (some ⟨g, 0, none⟩) zs.length cap)) := hs
  have HO : Hid (Own w c (.slice (some ⟨g, 0, none⟩) zs.length cap) s.stack) := ho
  have hx := hidx w (Below.refl _ _)
  have H32 : Hid (∀ x ∈ n :: ext, x < 32) := fun x hx => h32 x (by rw [he]; exact List.mem_append_right _ hx)
  have HE : Hid (ints s.stack = zs) := hz
  have HT : Hid (s.stack.take pre.length = pre) := htake
  clear hget hcell hs ho hidx h32 hz htake hdrop hi he hp
  unfold maxLen at hmax
  have b1 : (pre.length : Int) ≤ (zs.length : Int) := by omega
  have b3 : pre.length < zs.length := by omega
  have HL : Hid (zs.length = pre.length + 1 + ext.length) := hzl
  clear hzl hlen
  have b2 : pre.length < cap := by omega
  have n1 : (0 : Int) ≤ (n : Int) ∧ (n : Int) < 32 := by omega
  go_enter Try.func130, Try.ntmps130
  go_wp2_with fail
  refine hx.mono ?_
  rintro e w' ⟨rfl, rfl⟩
  clear hx
  go_wp2_with fail
  go_loopw [20] (fun i wr => ∃ k : Nat, k ≤ 1 + ext.length ∧ i = .int .i64 k ∧ StAt wr c gv (s.closeTo n ((n :: ext).take k)) (.slice (some ⟨g, 0, none⟩) zs.length cap) ∧ w'.grownBy wr (some c)) (fun i _ => 1 + ext.length - (intOf i).toNat)
  case atStart => exact ⟨0, Nat.zero_le _, rfl, by rw [List.take_zero, closeTo_nil]; exact HS.out, World.grownBy.refl _ _⟩
  case round =>
    obtain ⟨k, hk, rfl, hS, hG⟩ := hrel
    have hll := HL.out
    by_cases hlt : k < 1 + ext.length
    · obtain ⟨m, Hm⟩ : ∃ m : Nat, Hid ((n :: ext).getD k 0 = m) := ⟨_, rfl⟩
      have hm : m < 32 := by
        have : (n :: ext).getD k 0 ∈ n :: ext := by
          have hk' : k < (n :: ext).length := by simp; omega
          rw [List.getD, List.getElem?_eq_getElem hk']
          exact List.getElem_mem hk'
        rw [← Hm.out]
        exact H32.out _ this
      have hsz := hG.size
      have e0 : wr.cell? ⟨g, pre.length + k, none⟩ = some (.int .i64 m) := by
        rw [World.grownBy.cell hG (HC.out (pre.length + k) (by omega)) (by simp; omega), HG.out k hlt, Hm.out]
      have c1 : wr.cell? ⟨c, 130 + m, none⟩ = some (.bool ((s.closeTo n ((n :: ext).take k)).opn m)) := by rw [BlkAt.cell hS (by omega), sCell_opn _ _ _ hm]
      have f1 : wr.frozen? ⟨c, 130 + m, none⟩ = false := BlkAt.frozen hS _
      have hk2 : (k : Int) < ((zs.length - pre.length : Nat) : Int) := by omega
      have m1 : (0 : Int) ≤ (m : Int) ∧ (m : Int) < 32 := by omega
      have HM : Hid ((n :: ext).take (k + 1) = (n :: ext).take k ++ [m]) := by
        unfold Hid
        rw [take_snoc (by simp; omega), Hm.out]
      have hS1 := hS.putOpn hm false
      have hG1 := grown_put_same hG (130 + m) (.bool false)
      clear hll hS c0
      go_wp2_with fail
      obtain ⟨W, hW⟩ : ∃ W, W = wr.setCell ⟨c, 130 + m, none⟩ (.bool false) := ⟨_, rfl⟩
      rw [← hW] at hS1 hG1 ⊢
      have HS1 : Hid (StAt W c gv _ (.slice (some ⟨g, 0, none⟩) zs.length cap)) := hS1
      have r1 := hS1.row hn
      have r2 : W.there c (162 + m * 32) 32 := BlkAt.there hS1 (by omega)
      have er : ({ s.closeTo n ((n :: ext).take k) with opn := upd (s.closeTo n ((n :: ext).take k)).opn m false } : St).reach n = s.reach n := closeTo_reach _ _ _
      rw [er] at r1
      have hu := Try.underlying22
      have z1 := Try.sizeSet (s.reach n)
      have k1 := bools_len 32 (s.reach n)
      have o1 := bools_one 32 (s.reach n)
      obtain ⟨cs, hcs⟩ : ∃ cs, cs = (bools 32 (s.reach n)).toList := ⟨_, rfl⟩
      rw [← hcs] at r1 z1 k1 o1
      have HCS : Hid (cs = (bools 32 (s.reach n)).toList) := hcs
      clear hS1 er hW e0 c1 f1 hcs
      have hfin : Hid (StAt (W.drew.setCells c (162 + m * 32) cs) c gv (s.closeTo n ((n :: ext).take (k + 1))) (.slice (some ⟨g, 0, none⟩) zs.length cap) ∧ w'.grownBy (W.drew.setCells c (162 + m * 32) cs) (some c)) := by
        unfold Hid
        refine ⟨?_, grown_puts (grown_drew hG1) _ _⟩
        rw [HM.out, ← closeTo_snoc, HCS.out]
        exact HS1.out.drew.putRow hm (s.reach n)
      by_cases e : m = n
      · subst e
        go_region_held3 (fun w' => w'.rangeAt c (162 + m * 32) cs ∧ w'.there c (162 + m * 32) 32) (first | exact ⟨r1, r2⟩ | exact keep_row (by assumption) k1) (fail)
        go_wp2_with fail
        go_roundw
        case rel => exact ⟨k + 1, by omega, by go_num, hfin.out.1, hfin.out.2⟩
        case measure => simp [intOf]; omega
      · have hap : 162 + n * 32 + 32 ≤ 162 + m * 32 ∨ 162 + m * 32 + 32 ≤ 162 + n * 32 := by omega
        go_region_held3 (fun w' => w'.rangeAt c (162 + n * 32) cs ∧ w'.there c (162 + m * 32) 32) (first | exact ⟨r1, r2⟩ | exact keep_apart (by assumption) k1 hap) (fail)
        go_wp2_with fail
        go_roundw
        case rel => exact ⟨k + 1, by omega, by go_num, hfin.out.1, hfin.out.2⟩
        case measure => simp [intOf]; omega
    · have c1 : wr.cell? ⟨c, 129, none⟩ = some (.slice (some ⟨g, 0, none⟩) zs.length cap) := by rw [BlkAt.cell hS (by omega)]; rfl
      have f1 : wr.frozen? ⟨c, 129, none⟩ = false := BlkAt.frozen hS _
      have hk2 : ¬ (k : Int) < ((zs.length - pre.length : Nat) : Int) := by omega
      have hek : (n :: ext).take k = n :: ext := List.take_of_length_le (by simp; omega)
      rw [hek] at hS
      have HS2 : Hid (StAt wr c gv (s.closeTo n (n :: ext)) (.slice (some ⟨g, 0, none⟩) zs.length cap)) := hS
      clear hS hll hek c0
      go_wp2_with fail
      go_end0
      rw [E.out]
      have hcut : Own w' c (.slice (some ⟨g, 0, none⟩) pre.length cap) pre := by
        have h1 := HO.out
        rw [← HE.out] at h1
        have h2 := h1.cut (k := pre.length) (by have := HE.out; have h3 := ints_len s.stack; rw [this] at h3; omega)
        rw [HT.out] at h2
        exact h2
      refine ⟨rfl, _, HS2.out.putStack _ pre, (hcut.kept (grown_put_same hG _ _)), grown_put_same hG _ _⟩

end Go.Proofs.Ytkoefoccbjhoiab
