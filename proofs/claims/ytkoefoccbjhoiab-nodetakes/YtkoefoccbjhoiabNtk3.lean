/-
  Values that are lists of ints, or of operations, and where they lie.
  The contracts of slices.Clone over ints and over operations.
  Frames in memory: where their lists lie; lists of frames that a call made.
  Loads of whole rows in a walk, guarded or not: to be used as 'with_reducible apply' (so that an operation of another kind is passed by at once).
  A whole row is stored: as Wpl's, its premises in the order in which a walk can show them.
  The contracts of the small functions of package graph.
  The contracts of package graph's include and ahead, and of slices.Index over ints.
  The contract of package graph's ahead.
  The contract of package graph's closeRing.
-/
import Derived.Test.YtkoefoccbjhoiabNtk2
import Derived.OwnWalk
import Derived.ArgAppend
import Derived.Lib.SliceRun
import Derived.Deep.Cut
import Derived.Deep.CutRange
namespace Go.Proofs.Ytkoefoccbjhoiab
open Go.RowKit

/-- A list of ints in a block of which 'ok' holds: nothing, or its cells. -/
def IntsIn (ok : Nat → Prop) (w : World) (a : Option Addr) (zs : List Int) : Prop :=
  zs = [] ∨ ∃ b off, a = some ⟨b, off, none⟩ ∧ ok b ∧ ∀ i, i < zs.length → w.cell? ⟨b, off + i, none⟩ = some (.int .i64 (zs.getD i 0))
def OpsIn (ok : Nat → Prop) (w : World) (a : Option Addr) (zs : List OpL) : Prop :=
  zs = [] ∨ ∃ b off, a = some ⟨b, off, none⟩ ∧ ok b ∧ ∀ i, i < zs.length → w.cell? ⟨b, off + i * 3, none⟩ = some (.int .i64 (zs.getD i (0, 0, 0)).1) ∧
    w.cell? ⟨b, off + i * 3 + 1, none⟩ = some (.int .i64 (zs.getD i (0, 0, 0)).2.1) ∧ w.cell? ⟨b, off + i * 3 + 2, none⟩ = some (.int .i64 (zs.getD i (0, 0, 0)).2.2)

/-- Blocks of which 'ok' holds are as they were. -/
def SameOn (ok : Nat → Prop) (w w' : World) : Prop := ∀ k, k < w.heap.size → ok k → w'.heap[k]? = w.heap[k]?
theorem SameOn.cell {ok : Nat → Prop} {w w' : World} (h : SameOn ok w w') {p : Addr} {v : Value} (hc : w.cell? p = some v) (hk : ok p.block) : w'.cell? p = some v :=
  (World.cell?_of_block (h p.block (World.block_lt_of_cell? w p hc) hk)).trans hc
theorem SameOn.of_size {ok : Nat → Prop} {w w' : World} (h : Below w.heap.size w w') : SameOn ok w w' := fun k h1 _ => h.block k h1
theorem IntsIn.later {ok : Nat → Prop} {w w' : World} {a : Option Addr} {zs : List Int} (h : IntsIn ok w a zs) (hB : SameOn ok w w') : IntsIn ok w' a zs := by
  rcases h with h | ⟨b, off, ha, hb, hc⟩
  · exact Or.inl h
  · exact Or.inr ⟨b, off, ha, hb, fun i hi => hB.cell (hc i hi) hb⟩
theorem IntsIn.mono {ok ok' : Nat → Prop} {w : World} {a : Option Addr} {zs : List Int} (h : IntsIn ok w a zs) (hk : ∀ k, k < w.heap.size → ok k → ok' k) : IntsIn ok' w a zs := by
  rcases h with h | ⟨b, off, ha, hb, hc⟩
  · exact Or.inl h
  · cases zs with
    | nil => exact Or.inl rfl
    | cons z r =>
      have := World.block_lt_of_cell? w _ (hc 0 (by simp))
      exact Or.inr ⟨b, off, ha, hk b this hb, hc⟩
theorem IntsIn.at {ok : Nat → Prop} {w : World} {a : Option Addr} {zs : List Int} (h : IntsIn ok w a zs) : IntsAt w.heap.size w a zs := by
  rcases h with h | ⟨b, off, ha, hb, hc⟩
  · exact Or.inl h
  · cases zs with
    | nil => exact Or.inl rfl
    | cons z r => exact Or.inr ⟨b, off, ha, World.block_lt_of_cell? w _ (hc 0 (by simp)), hc⟩
theorem IntsIn.of_at {B : Nat} {w : World} {a : Option Addr} {zs : List Int} (h : IntsAt B w a zs) : IntsIn (· < B) w a zs := h
theorem OpsIn.later {ok : Nat → Prop} {w w' : World} {a : Option Addr} {zs : List OpL} (h : OpsIn ok w a zs) (hB : SameOn ok w w') : OpsIn ok w' a zs := by
  rcases h with h | ⟨b, off, ha, hb, hc⟩
  · exact Or.inl h
  · exact Or.inr ⟨b, off, ha, hb, fun i hi => ⟨hB.cell (hc i hi).1 hb, hB.cell (hc i hi).2.1 hb, hB.cell (hc i hi).2.2 hb⟩⟩
theorem OpsIn.mono {ok ok' : Nat → Prop} {w : World} {a : Option Addr} {zs : List OpL} (h : OpsIn ok w a zs) (hk : ∀ k, k < w.heap.size → ok k → ok' k) : OpsIn ok' w a zs := by
  rcases h with h | ⟨b, off, ha, hb, hc⟩
  · exact Or.inl h
  · cases zs with
    | nil => exact Or.inl rfl
    | cons z r =>
      have := World.block_lt_of_cell? w _ (hc 0 (by simp)).1
      exact Or.inr ⟨b, off, ha, hk b this hb, hc⟩
theorem OpsIn.at {ok : Nat → Prop} {w : World} {a : Option Addr} {zs : List OpL} (h : OpsIn ok w a zs) : OpsAt w a zs := by
  rcases h with h | ⟨b, off, ha, hb, hc⟩
  · exact Or.inl h
  · cases zs with
    | nil => exact Or.inl rfl
    | cons z r => exact Or.inr ⟨b, off, ha, World.block_lt_of_cell? w _ (hc 0 (by simp)).1, hc⟩

/-- A value that is a list of ints; of operations. -/
def IsI (ok : Nat → Prop) (w : World) (v : Value) (zs : List Int) : Prop := ∃ a cap, v = .slice a zs.length cap ∧ IntsIn ok w a zs ∧ zs.length * 8 ≤ 140737488355328 ∧ zs.length ≤ cap ∧ (a = none → zs.length = 0 ∧ cap = 0)
def IsO (ok : Nat → Prop) (w : World) (v : Value) (zs : List OpL) : Prop := ∃ a cap, v = .slice a zs.length cap ∧ OpsIn ok w a zs ∧ zs.length * 24 ≤ 140737488355328 ∧ zs.length ≤ cap ∧ (a = none → zs.length = 0 ∧ cap = 0)
theorem IsI.later {ok : Nat → Prop} {w w' : World} {v : Value} {zs : List Int} (h : IsI ok w v zs) (hB : SameOn ok w w') : IsI ok w' v zs := by
  obtain ⟨a, cap, h1, h2, h3⟩ := h
  exact ⟨a, cap, h1, h2.later hB, h3⟩
theorem IsI.mono {ok ok' : Nat → Prop} {w : World} {v : Value} {zs : List Int} (h : IsI ok w v zs) (hk : ∀ k, k < w.heap.size → ok k → ok' k) : IsI ok' w v zs := by
  obtain ⟨a, cap, h1, h2, h3⟩ := h
  exact ⟨a, cap, h1, h2.mono hk, h3⟩
theorem IsI.sl {ok : Nat → Prop} {w : World} {v : Value} {zs : List Int} (h : IsI ok w v zs) : ∃ a cap, v = .slice a zs.length cap ∧ SlInts w a cap zs := by
  obtain ⟨a, cap, h1, h2, h3, h4, h5⟩ := h
  exact ⟨a, cap, h1, h2.at, by unfold maxLen; omega, h4, h5⟩
theorem IsI.of_sl {w : World} {a : Option Addr} {cap : Nat} {zs : List Int} (h : SlInts w a cap zs) (hl : zs.length * 8 ≤ 140737488355328) : IsI (· < w.heap.size) w (.slice a zs.length cap) zs := ⟨a, cap, rfl, IntsIn.of_at h.1, hl, h.2.2.1, h.2.2.2⟩
theorem IsI.nil (ok : Nat → Prop) (w : World) : IsI ok w (.slice none 0 0) [] := ⟨none, 0, rfl, Or.inl rfl, by decide, Nat.le_refl _, fun _ => ⟨rfl, rfl⟩⟩
theorem IsI.one {ok : Nat → Prop} {w : World} {v : Value} {zs : List Int} (h : IsI ok w v zs) : v.oneCell' = true := by
  obtain ⟨a, cap, rfl, _⟩ := h
  rfl
theorem IsO.later {ok : Nat → Prop} {w w' : World} {v : Value} {zs : List OpL} (h : IsO ok w v zs) (hB : SameOn ok w w') : IsO ok w' v zs := by
  obtain ⟨a, cap, h1, h2, h3⟩ := h
  exact ⟨a, cap, h1, h2.later hB, h3⟩
theorem IsO.mono {ok ok' : Nat → Prop} {w : World} {v : Value} {zs : List OpL} (h : IsO ok w v zs) (hk : ∀ k, k < w.heap.size → ok k → ok' k) : IsO ok' w v zs := by
  obtain ⟨a, cap, h1, h2, h3⟩ := h
  exact ⟨a, cap, h1, h2.mono hk, h3⟩
theorem IsO.sl {ok : Nat → Prop} {w : World} {v : Value} {zs : List OpL} (h : IsO ok w v zs) : ∃ a cap, v = .slice a zs.length cap ∧ SlOps w a cap zs := by
  obtain ⟨a, cap, h1, h2, h3, h4, h5⟩ := h
  exact ⟨a, cap, h1, h2.at, by unfold maxLen; omega, h4, h5⟩
theorem IsO.of_sl {w : World} {a : Option Addr} {cap : Nat} {zs : List OpL} (h : SlOps w a cap zs) (hl : zs.length * 24 ≤ 140737488355328) : IsO (· < w.heap.size) w (.slice a zs.length cap) zs := ⟨a, cap, rfl, h.1, hl, h.2.2.1, h.2.2.2⟩
theorem IsO.nil (ok : Nat → Prop) (w : World) : IsO ok w (.slice none 0 0) [] := ⟨none, 0, rfl, Or.inl rfl, by decide, Nat.le_refl _, fun _ => ⟨rfl, rfl⟩⟩
theorem IsO.one {ok : Nat → Prop} {w : World} {v : Value} {zs : List OpL} (h : IsO ok w v zs) : v.oneCell' = true := by
  obtain ⟨a, cap, rfl, _⟩ := h
  rfl
/-- What the call made for itself. -/
theorem IsI.of_owns {w : World} {base : Nat} {e : TypeId} {v : Value} {zs : List Int} (h : w.ownsRow base e 1 v zs.length (intCells zs)) (hl : zs.length * 8 ≤ 140737488355328) : IsI (fun b => base ≤ b ∧ v.ownBlock = some b) w v zs := by
  obtain ⟨a, cap, rfl, h1, h2⟩ := own_form h
  refine ⟨a, cap, rfl, ?_, hl, h1, h2⟩
  obtain ⟨a', cap', he, hi⟩ := IntsAt.of_owns h
  simp at he
  obtain ⟨rfl, rfl⟩ := he
  rcases hi with hi | ⟨b, off, rfl, hb, hc⟩
  · exact Or.inl hi
  · exact Or.inr ⟨b, off, rfl, ⟨(World.ownsRow.lt h b rfl).1, rfl⟩, hc⟩
theorem IsO.of_owns {w : World} {base : Nat} {e : TypeId} {v : Value} {zs : List OpL} (h : w.ownsRow base e 3 v zs.length (opsCells zs)) (hl : zs.length * 24 ≤ 140737488355328) : IsO (fun b => base ≤ b ∧ v.ownBlock = some b) w v zs := by
  obtain ⟨a, cap, rfl, h1, h2⟩ := own_form h
  refine ⟨a, cap, rfl, ?_, hl, h1, h2⟩
  obtain ⟨hi, _⟩ := SlOps.of_owns h
  rcases hi with hi | ⟨b, off, rfl, hb, hc⟩
  · exact Or.inl hi
  · exact Or.inr ⟨b, off, rfl, ⟨(World.ownsRow.lt h b rfl).1, rfl⟩, hc⟩

theorem rowF_all {N : Nat} {f : Nat → Value} (h : ∀ i, i < N → (f i).oneCell' = true) : (rowF N f).all (·.oneCell') = true := by
  refine Array.all_eq_true_iff_forall_mem.2 (fun v hv => ?_)
  simp [rowF] at hv
  obtain ⟨i, hi, rfl⟩ := hv
  exact h i hi

end Go.Proofs.Ytkoefoccbjhoiab

namespace Go.Proofs.Ytkoefoccbjhoiab
open Go.RowKit

/-- A clone: a row of the call's own; of nothing no room. -/
def CloneI (w w' : World) (v : Value) (zs : List Int) : Prop := w'.ownsRow w.heap.size 3 1 v zs.length (intCells zs) ∧ (zs.length = 0 → ∃ a, v = .slice a 0 0) ∧ Below w.heap.size w w'
def CloneO (w w' : World) (v : Value) (zs : List OpL) : Prop := w'.ownsRow w.heap.size 108 3 v zs.length (opsCells zs) ∧ (zs.length = 0 → ∃ a, v = .slice a 0 0) ∧ Below w.heap.size w w'


theorem intCells_one (zs : List Int) : ∀ u ∈ intCells zs, u.oneCell' = true := by
  intro u hu
  obtain ⟨n, _, rfl⟩ := List.mem_map.1 hu
  rfl
theorem opsCells_one (zs : List OpL) : ∀ u ∈ opsCells zs, u.oneCell' = true := by
  intro u hu
  obtain ⟨o, _, h⟩ := List.mem_flatMap.1 hu
  simp [opCells] at h
  rcases h with rfl | rfl | rfl <;> rfl
/-- The cells of a list that lay there lie there still. -/
theorem IntsAt.news {w w1 : World} {ad : Addr} {zs : List Int} (h : IntsAt w.heap.size w (some ad) zs) (hb : Below w.heap.size w w1) : ∀ j u, (intCells zs)[j]? = some u → w1.cell? (ad.add j) = some u := by
  intro j u hu
  rcases h with rfl | ⟨b, off, hb', hlt, hc⟩
  · simp [intCells] at hu
  · obtain rfl : ad = ⟨b, off, none⟩ := by simpa using hb'
    have hj : j < zs.length := by
      obtain ⟨hj, _⟩ := List.getElem?_eq_some_iff.1 hu
      simpa [intCells] using hj
    rw [add_none, hb.cell (p := ⟨b, off + j, none⟩) hlt, hc j hj]
    simp [intCells, hj] at hu
    simp [List.getD, hj, hu]
theorem OpsAt.news {w w1 : World} {ad : Addr} {zs : List OpL} (h : OpsAt w (some ad) zs) (hb : Below w.heap.size w w1) : ∀ j u, (opsCells zs)[j]? = some u → w1.cell? (ad.add j) = some u := by
  intro j u hu
  rcases h with rfl | ⟨b, off, hb', hlt, hc⟩
  · simp [opsCells] at hu
  · obtain rfl : ad = ⟨b, off, none⟩ := by simpa using hb'
    have hj : j < zs.length * 3 := by
      obtain ⟨hj, _⟩ := List.getElem?_eq_some_iff.1 hu
      rw [opsCells_len] at hj
      exact hj
    obtain ⟨g0, g1, g2⟩ := opsCells_get zs (j / 3) (by omega)
    obtain ⟨c0, c1, c2⟩ := hc (j / 3) (by omega)
    rw [add_none, hb.cell (p := ⟨b, off + j, none⟩) hlt]
    have h3 : j = j / 3 * 3 ∨ j = j / 3 * 3 + 1 ∨ j = j / 3 * 3 + 2 := by omega
    rcases h3 with e | e | e
    · rw [e] at hu ⊢; rw [c0]; rw [g0] at hu; exact hu
    · rw [e] at hu ⊢; rw [← Nat.add_assoc, c1]; rw [g1] at hu; exact hu
    · rw [e] at hu ⊢; rw [← Nat.add_assoc, c2]; rw [g2] at hu; exact hu

set_option maxRecDepth 100000 in
set_option maxHeartbeats 400000 in
theorem cloneI_any (a : Option Addr) (cap : Nat) (zs : List Int) (w : World) (h : SlInts w a cap zs) (hl : zs.length * 8 ≤ 140737488355328) :
    Calls Try.prog 86 #[.slice a zs.length cap] w fun e w' => ∃ v, e = .returned v ∧ CloneI w w' v zs := by
  obtain ⟨i0, hi, hz0, hz1, hz2⟩ := info_parts Try.infoInt
  have he := fun w => Go.Lib.run_eql_slice_nil (P := Try.prog) w 23 3 a zs.length cap 0 0 Try.underlying23
  cases a with
  | none =>
    obtain ⟨h1, rfl⟩ := h.2.2.2 rfl
    obtain rfl := List.eq_nil_of_length_eq_zero h1
    simp only [Option.isNone_none, List.length_nil] at he
    go_enter Try.func86, Try.ntmps86
    go_wp2
    go_ret
    exact ⟨_, rfl, World.ownsRow_nil _ _ _ _, fun _ => ⟨_, rfl⟩, Below.refl _ _⟩
  | some ad =>
    simp only [Option.isNone_some] at he
    obtain ⟨hz, hm, hc, _⟩ := h
    have HB : Hid (Below w.heap.size w (w.alloc (.cells #[] 3))) := (Below.refl _ _).alloc (Nat.le_refl _) _
    have HZ : Hid (IntsAt w.heap.size w (some ad) zs) := hz
    clear hz
    by_cases h0 : zs.length = 0
    · obtain rfl := List.eq_nil_of_length_eq_zero h0
      simp only [List.length_nil] at he
      go_enter Try.func86, Try.ntmps86
      go_wp2_with (first
        | (at_builtin; refine wpList_append_fits_any _ rfl _ _ 23 rfl w.heap.size 3 i0 1 Try.underlying23 hi hz1 w.heap.size 0 0 [] rfl (World.ownsRow_made (e := 3) (size := 1) w #[] 0 (Nat.le_refl _) (by decide) rfl) (some ad) 0 cap [] rfl rfl (fun h => by cases h) (fun _ _ j u hj => by simp at hj) (by simp) (Nat.le_refl _) ?_; intro w2 hown hg)
        | go_in)
      go_wp2
      go_ret
      exact ⟨_, rfl, hown, fun _ => ⟨_, rfl⟩, HB.out.grown hg (by rw [size_push]; omega) (by intro k hk; cases hk; exact Nat.le_refl _)⟩
    · go_enter Try.func86, Try.ntmps86
      go_wp2_with (first
        | (at_builtin; refine wpList_append_own _ rfl _ _ 23 rfl w.heap.size 3 i0 (.int .i64 0) 1 8 Try.underlying23 hi hz0 hz1 hz2 rfl (by decide) _ _ _ rfl (World.ownsRow_made (e := 3) (size := 1) w #[] 0 (Nat.le_refl _) (by decide) rfl) ad zs.length cap (intCells zs) rfl ?c1 ?c2 ?c3 ?c4 ?c5 ?c6 ?_)
        | go_in)
      case c1 => simp [intCells]
      case c2 => exact HZ.out.news HB.out
      case c3 => exact intCells_one zs
      case c4 => unfold maxLen; omega
      case c5 => omega
      case c6 => rw [size_push]; omega
      · intro v' w2 hown hg _
        go_wp2
        go_ret
        refine ⟨_, rfl, ?_, fun h => absurd h h0, HB.out.grown hg (by rw [size_push]; omega) (by intro k hk; cases hk; exact Nat.le_refl _)⟩
        simpa using hown

set_option maxRecDepth 100000 in
set_option maxHeartbeats 400000 in
theorem cloneO_any (a : Option Addr) (cap : Nat) (zs : List OpL) (w : World) (h : SlOps w a cap zs) (hl : zs.length * 24 ≤ 140737488355328) :
    Calls Try.prog 91 #[.slice a zs.length cap] w fun e w' => ∃ v, e = .returned v ∧ CloneO w w' v zs := by
  obtain ⟨i0, hi, hz0, hz1, hz2⟩ := info_parts Try.infoOp
  have he := fun w => Go.Lib.run_eql_slice_nil (P := Try.prog) w 35 108 a zs.length cap 0 0 Try.underlying35
  cases a with
  | none =>
    obtain ⟨h1, rfl⟩ := h.2.2.2 rfl
    obtain rfl := List.eq_nil_of_length_eq_zero h1
    simp only [Option.isNone_none, List.length_nil] at he
    go_enter Try.func91, Try.ntmps91
    go_wp2
    go_ret
    exact ⟨_, rfl, World.ownsRow_nil _ _ _ _, fun _ => ⟨_, rfl⟩, Below.refl _ _⟩
  | some ad =>
    simp only [Option.isNone_some] at he
    obtain ⟨hz, hm, hc, _⟩ := h
    have HB : Hid (Below w.heap.size w (w.alloc (.cells #[] 108))) := (Below.refl _ _).alloc (Nat.le_refl _) _
    have HZ : Hid (OpsAt w (some ad) zs) := hz
    clear hz
    by_cases h0 : zs.length = 0
    · obtain rfl := List.eq_nil_of_length_eq_zero h0
      simp only [List.length_nil] at he
      go_enter Try.func91, Try.ntmps91
      go_wp2_with (first
        | (at_builtin; refine wpList_append_fits_any _ rfl _ _ 35 rfl w.heap.size 108 i0 3 Try.underlying35 hi hz1 w.heap.size 0 0 [] rfl (World.ownsRow_made (e := 108) (size := 3) w #[] 0 (Nat.le_refl _) (by decide) rfl) (some ad) 0 cap [] rfl rfl (fun h => by cases h) (fun _ _ j u hj => by simp at hj) (by simp) (Nat.le_refl _) ?_; intro w2 hown hg)
        | go_in)
      go_wp2
      go_ret
      exact ⟨_, rfl, hown, fun _ => ⟨_, rfl⟩, HB.out.grown hg (by rw [size_push]; omega) (by intro k hk; cases hk; exact Nat.le_refl _)⟩
    · go_enter Try.func91, Try.ntmps91
      go_wp2_with (first
        | (at_builtin; refine wpList_append_own _ rfl _ _ 35 rfl w.heap.size 108 i0 (.agg #[.int .i64 0, .int .i64 0, .int .i64 0]) 3 24 Try.underlying35 hi hz0 hz1 hz2 rfl (by decide) _ _ _ rfl (World.ownsRow_made (e := 108) (size := 3) w #[] 0 (Nat.le_refl _) (by decide) rfl) ad zs.length cap (opsCells zs) rfl ?c1 ?c2 ?c3 ?c4 ?c5 ?c6 ?_)
        | go_in)
      case c1 => exact opsCells_len zs
      case c2 => exact HZ.out.news HB.out
      case c3 => exact opsCells_one zs
      case c4 => unfold maxLen; omega
      case c5 => omega
      case c6 => rw [size_push]; omega
      · intro v' w2 hown hg _
        go_wp2
        go_ret
        refine ⟨_, rfl, ?_, fun h => absurd h h0, HB.out.grown hg (by rw [size_push]; omega) (by intro k hk; cases hk; exact Nat.le_refl _)⟩
        simpa using hown

end Go.Proofs.Ytkoefoccbjhoiab

namespace Go.Proofs.Ytkoefoccbjhoiab
open Go.RowKit

theorem setRow_other (w : World) {g k : Nat} (cs : Array Value) (h : k ≠ g) : (w.setRow g cs).heap[k]? = w.heap[k]? := by
  simp [World.setRow, Array.getElem?_modify]
  intro e; omega
theorem own_same {w w' : World} {b : Nat} {e : TypeId} {size : Nat} {v : Value} {n : Nat} {xs : List Value} (h : w.ownsRow b e size v n xs) (hs : ∀ k, v.ownBlock = some k → w'.heap[k]? = w.heap[k]?) : w'.ownsRow b e size v n xs :=
  ⟨h.1, h.2.imp id fun ⟨g, cap, cur, h1, h2, h3, h4⟩ => ⟨g, cap, cur, h1, h2, by rw [hs g (by rw [h1]; rfl)]; exact h3, h4⟩⟩

theorem rows3 (w : World) (A B C : Obj) : (((w.alloc A).alloc B).alloc C).heap[w.heap.size]? = some A ∧ (((w.alloc A).alloc B).alloc C).heap[w.heap.size + 1]? = some B ∧ (((w.alloc A).alloc B).alloc C).heap[w.heap.size + 2]? = some C := by
  have h1 : (w.alloc A).heap.size = w.heap.size + 1 := size_push _ _
  have h2 : ((w.alloc A).alloc B).heap.size = w.heap.size + 2 := by rw [size_push]; omega
  obtain ⟨r1, r2⟩ := two_rows w A B
  refine ⟨?_, ?_, ?_⟩
  · rw [Below.heap_alloc _ _ _ (by omega)]; exact r1
  · rw [Below.heap_alloc _ _ _ (by omega)]; exact r2
  · rw [show w.heap.size + 2 = ((w.alloc A).alloc B).heap.size by omega]; exact heap_new _ _
theorem Try.infoFrame7 : (Try.prog.info? 43).map (·.size) = some 7 := by kernel_rfl
theorem Try.infoFrameZ : (Try.prog.info? 43).map (fun i => (i.zero, i.size, i.bytes)) = some (some (.agg #[.int .i64 0, .int .i64 0, .int .i64 0, .slice none 0 0, .slice none 0 0, .slice none 0 0, .slice none 0 0]), 7, 120) := by kernel_rfl
theorem results_row2 {P : Program} {fn : Func} {p q r : Tmp} {ty : TypeId} (h : fn.results = #[.cell p ty, .tmp q, .tmp r]) (tmps : Array Value) (w : World) (g : Nat) (t : TypeId) (cs : Array Value) (fr : Nat × Nat) (d : TypeDesc)
    (hp : tmps.getD p undef = .pointer (some ⟨g, 0, none⟩)) (hg : w.heap[g]? = some (.cells cs t fr)) (hu : P.underlying ty = some d) (hd : (match d with | .struct _ | .array _ _ => true | _ => false) = true) (hi : (P.info? ty).map (·.size) = some cs.size)
    (x y : Value) (hx : tmps.getD q undef = x) (hy : tmps.getD r undef = y) : (results fn tmps).run P w = .ok (.tuple #[.agg cs, x, y]) w := by
  have hp' : tmps[p]?.getD undef = .pointer (some ⟨g, 0, none⟩) := by simpa using hp
  have hx' : tmps[q]?.getD undef = x := by simpa using hx
  have hy' : tmps[r]?.getD undef = y := by simpa using hy
  simp [results, h, hp', hx', hy', asAddr, run_loadVar_row w g t ty cs fr d hg hu hd hi]

/-- A frame whose lists lie below B. -/
def FrameB (B : Nat) (w : World) (v : Value) (f : FrameL) : Prop := ∃ a3 c3 a4 c4 a5 c5 a6 c6,
  v = .agg #[.int .i64 f.kind, .int .i64 f.node, .int .i64 f.id, .slice a3 f.ops.length c3, .slice a4 f.deps.length c4, .slice a5 f.ats.length c5, .slice a6 f.vals.length c6] ∧
  (SlOps w a3 c3 f.ops ∧ OpsIn (· < B) w a3 f.ops) ∧ (SlInts w a4 c4 f.deps ∧ IntsIn (· < B) w a4 f.deps) ∧ (SlInts w a5 c5 f.ats ∧ IntsIn (· < B) w a5 f.ats) ∧ (SlInts w a6 c6 f.vals ∧ IntsIn (· < B) w a6 f.vals)
theorem FrameV.b {w : World} {v : Value} {f : FrameL} (h : FrameV w v f) : FrameB w.heap.size w v f := by
  obtain ⟨a3, c3, a4, c4, a5, c5, a6, c6, e, h3, h4, h5, h6⟩ := h
  exact ⟨a3, c3, a4, c4, a5, c5, a6, c6, e, ⟨h3, h3.1⟩, ⟨h4, h4.1⟩, ⟨h5, h5.1⟩, ⟨h6, h6.1⟩⟩
theorem FrameB.v {B : Nat} {w : World} {v : Value} {f : FrameL} (h : FrameB B w v f) : FrameV w v f := by
  obtain ⟨a3, c3, a4, c4, a5, c5, a6, c6, e, h3, h4, h5, h6⟩ := h
  exact ⟨a3, c3, a4, c4, a5, c5, a6, c6, e, h3.1, h4.1, h5.1, h6.1⟩
theorem slI_later {B : Nat} {w w' : World} {a : Option Addr} {cap : Nat} {zs : List Int} (h : SlInts w a cap zs ∧ IntsIn (· < B) w a zs) (hb : Below B w w') : SlInts w' a cap zs ∧ IntsIn (· < B) w' a zs := by
  have h2 := h.2.later (w' := w') (fun k _ hk => hb.block k hk)
  exact ⟨⟨h2.at, h.1.2⟩, h2⟩
theorem slO_later {B : Nat} {w w' : World} {a : Option Addr} {cap : Nat} {zs : List OpL} (h : SlOps w a cap zs ∧ OpsIn (· < B) w a zs) (hb : Below B w w') : SlOps w' a cap zs ∧ OpsIn (· < B) w' a zs := by
  have h2 := h.2.later (w' := w') (fun k _ hk => hb.block k hk)
  exact ⟨⟨h2.at, h.1.2⟩, h2⟩
theorem FrameB.later {B : Nat} {w w' : World} {v : Value} {f : FrameL} (h : FrameB B w v f) (hb : Below B w w') : FrameB B w' v f := by
  obtain ⟨a3, c3, a4, c4, a5, c5, a6, c6, e, h3, h4, h5, h6⟩ := h
  exact ⟨a3, c3, a4, c4, a5, c5, a6, c6, e, slO_later h3 hb, slI_later h4 hb, slI_later h5 hb, slI_later h6 hb⟩
/-- A frame whose lists lie from B on. -/
def FrameG (B : Nat) (w : World) (v : Value) (f : FrameL) : Prop := ∃ a3 c3 a4 c4 a5 c5 a6 c6,
  v = .agg #[.int .i64 f.kind, .int .i64 f.node, .int .i64 f.id, .slice a3 f.ops.length c3, .slice a4 f.deps.length c4, .slice a5 f.ats.length c5, .slice a6 f.vals.length c6] ∧
  (SlOps w a3 c3 f.ops ∧ OpsIn (B ≤ ·) w a3 f.ops) ∧ (SlInts w a4 c4 f.deps ∧ IntsIn (B ≤ ·) w a4 f.deps) ∧ (SlInts w a5 c5 f.ats ∧ IntsIn (B ≤ ·) w a5 f.ats) ∧ (SlInts w a6 c6 f.vals ∧ IntsIn (B ≤ ·) w a6 f.vals)
theorem FrameG.v {B : Nat} {w : World} {v : Value} {f : FrameL} (h : FrameG B w v f) : FrameV w v f := by
  obtain ⟨a3, c3, a4, c4, a5, c5, a6, c6, e, h3, h4, h5, h6⟩ := h
  exact ⟨a3, c3, a4, c4, a5, c5, a6, c6, e, h3.1, h4.1, h5.1, h6.1⟩
theorem slI_same {ok : Nat → Prop} {w w' : World} {a : Option Addr} {cap : Nat} {zs : List Int} (h : SlInts w a cap zs ∧ IntsIn ok w a zs) (hb : SameOn ok w w') : SlInts w' a cap zs ∧ IntsIn ok w' a zs := by
  have h2 := h.2.later hb
  exact ⟨⟨h2.at, h.1.2⟩, h2⟩
theorem slO_same {ok : Nat → Prop} {w w' : World} {a : Option Addr} {cap : Nat} {zs : List OpL} (h : SlOps w a cap zs ∧ OpsIn ok w a zs) (hb : SameOn ok w w') : SlOps w' a cap zs ∧ OpsIn ok w' a zs := by
  have h2 := h.2.later hb
  exact ⟨⟨h2.at, h.1.2⟩, h2⟩
theorem FrameG.same {B : Nat} {w w' : World} {v : Value} {f : FrameL} (h : FrameG B w v f) (hb : SameOn (B ≤ ·) w w') : FrameG B w' v f := by
  obtain ⟨a3, c3, a4, c4, a5, c5, a6, c6, e, h3, h4, h5, h6⟩ := h
  exact ⟨a3, c3, a4, c4, a5, c5, a6, c6, e, slO_same h3 hb, slI_same h4 hb, slI_same h5 hb, slI_same h6 hb⟩
theorem FrameG.mono {B B' : Nat} {w : World} {v : Value} {f : FrameL} (h : FrameG B w v f) (hB : B' ≤ B) : FrameG B' w v f := by
  obtain ⟨a3, c3, a4, c4, a5, c5, a6, c6, e, h3, h4, h5, h6⟩ := h
  have m : ∀ k, k < w.heap.size → B ≤ k → B' ≤ k := fun k _ (h : B ≤ k) => by omega
  exact ⟨a3, c3, a4, c4, a5, c5, a6, c6, e, ⟨h3.1, h3.2.mono m⟩, ⟨h4.1, h4.2.mono m⟩, ⟨h5.1, h5.2.mono m⟩, ⟨h6.1, h6.2.mono m⟩⟩
theorem slI_nil (ok : Nat → Prop) (w : World) : SlInts w none 0 [] ∧ IntsIn ok w none [] := ⟨⟨Or.inl rfl, Nat.zero_le _, Nat.le_refl _, fun _ => ⟨rfl, rfl⟩⟩, Or.inl rfl⟩
theorem slO_nil (ok : Nat → Prop) (w : World) : SlOps w none 0 [] ∧ OpsIn ok w none [] := ⟨⟨Or.inl rfl, Nat.zero_le _, Nat.le_refl _, fun _ => ⟨rfl, rfl⟩⟩, Or.inl rfl⟩
theorem slI_own {B b0 : Nat} {w : World} {a : Option Addr} {cap : Nat} {zs : List Int} (h : w.ownsRow b0 3 1 (.slice a zs.length cap) zs.length (intCells zs)) (hB : B ≤ b0) : SlInts w a cap zs ∧ IntsIn (B ≤ ·) w a zs := by
  have h1 := SlInts.of_owns h
  refine ⟨h1, ?_⟩
  rcases h1.1 with e | ⟨b, off, rfl, _, hc⟩
  · exact Or.inl e
  · exact Or.inr ⟨b, off, rfl, Nat.le_trans hB (World.ownsRow.lt h b rfl).1, hc⟩

/-- A list of frames that the call made. -/
def FramesV (B : Nat) (w : World) (v : Value) (fs : List FrameL) : Prop := ∃ css : List (List Value), css.length = fs.length ∧ w.ownsRow B 43 7 v fs.length css.flatten ∧
  (∀ i (h : i < fs.length), (css.getD i []).length = 7 ∧ FrameG B w (.agg (css.getD i []).toArray) fs[i])
theorem FramesV.same {B : Nat} {w w' : World} {v : Value} {fs : List FrameL} (h : FramesV B w v fs) (hb : SameOn (B ≤ ·) w w') : FramesV B w' v fs := by
  obtain ⟨css, h1, h2, h3⟩ := h
  exact ⟨css, h1, own_same h2 (fun k hk => hb k (World.ownsRow.lt h2 k hk).2 (World.ownsRow.lt h2 k hk).1), fun i hi => ⟨(h3 i hi).1, (h3 i hi).2.same hb⟩⟩
theorem FramesV.later {B : Nat} {w w' : World} {v : Value} {fs : List FrameL} (h : FramesV B w v fs) (hb : Below w.heap.size w w') : FramesV B w' v fs := h.same (SameOn.of_size hb)
theorem FramesV.mono {B B' : Nat} {w : World} {v : Value} {fs : List FrameL} (h : FramesV B w v fs) (hB : B' ≤ B) : FramesV B' w v fs := by
  obtain ⟨css, h1, h2, h3⟩ := h
  exact ⟨css, h1, own_mono h2 hB, fun i hi => ⟨(h3 i hi).1, (h3 i hi).2.mono hB⟩⟩
theorem FramesV.nil (B : Nat) (w : World) : FramesV B w (.slice none 0 0) [] := ⟨[], rfl, World.ownsRow_nil _ _ _ _, fun _ h => by simp at h⟩

end Go.Proofs.Ytkoefoccbjhoiab

namespace Go.Proofs.Ytkoefoccbjhoiab
open Go.RowKit

end Go.Proofs.Ytkoefoccbjhoiab

namespace Go.Proofs.Ytkoefoccbjhoiab
open Go.RowKit

/-- A new variable of a type whose zero value is known. -/
theorem wpList_alloc_as {P : Program} {w : World} {ops : Array Oper} {rest : List Oper} {o : Oper} {a : Act} {Q : Exit → Act → World → Prop} (hg : o.guard = none) (ty : TypeId) (ho : o.op = .alloc ty) (cs : Array Value) (hz : (P.info? ty).map (·.zero) = some (some (.agg cs)))
    (h : wpList P ops Q rest (a.put o.dst (.pointer (some ⟨w.heap.size, 0, none⟩))) (w.alloc (.cells cs ty))) : wpList P ops Q (o :: rest) a w := by
  refine wpList_plain hg fun K hK => ?_
  cases hq : P.info? ty with
  | none => simp [hq] at hz
  | some i =>
    have hzz : i.zero = some (.agg cs) := by simpa [hq] using hz
    unfold Oper.wp execOp
    simp [ho, Instr.alloc, zeroValue, typeInfo, hq, hzz, newVar, newRow, Value.cells, go_sem]
    exact hK _ _ h

end Go.Proofs.Ytkoefoccbjhoiab

namespace Go.Proofs.Ytkoefoccbjhoiab
open Go.RowKit

def txnB' (n : Int) : Bool := decide (0 ≤ n ∧ n < 32)

set_option maxRecDepth 100000 in
set_option maxHeartbeats 400000 in
theorem g_isTxn (n : Int) (w : World) :
    Calls Try.prog 60 #[.int .i64 n] w fun e w' => e = .returned (.bool (txnB' n)) ∧ w' = w := by
  by_cases h1 : 0 ≤ n
  · by_cases h2 : n < 32
    · have E : Hid (txnB' n = true) := by unfold txnB' Hid; simp; omega
      have d1 : decide (0 ≤ n) = true := by simpa using h1
      have d2 : decide (n < 32) = true := by simpa using h2
      go_enter Try.func60, Try.ntmps60
      go_wp2
      go_ret
      exact ⟨ret_bool E.out.symm, rfl⟩
    · have E : Hid (txnB' n = false) := by unfold txnB' Hid; simp; omega
      have d1 : decide (0 ≤ n) = true := by simpa using h1
      have d2 : decide (n < 32) = false := by simpa using h2
      go_enter Try.func60, Try.ntmps60
      go_wp2
      go_ret
      exact ⟨ret_bool E.out.symm, rfl⟩
  · have E : Hid (txnB' n = false) := by unfold txnB' Hid; simp; omega
    have d1 : decide (0 ≤ n) = false := by simpa using h1
    go_enter Try.func60, Try.ntmps60
    go_wp2
    go_ret
    exact ⟨ret_bool E.out.symm, rfl⟩

theorem Try.setGuard : Try.prog.eqGuardType Try.prog.depth 22 = false := by kernel_rfl

theorem StAt.drewN {w : World} {c : Nat} {gv : Nat → Value} {s : St} {sv : Value} (h : StAt w c gv s sv) (k : Nat) : StAt (w.drewN k) c gv s sv := h
theorem StAt.drew {w : World} {c : Nat} {gv : Nat → Value} {s : St} {sv : Value} (h : StAt w c gv s sv) : StAt w.drew c gv s sv := h

theorem Try.sizeSet (S : Nat → Bool) : (Try.prog.info? 22).map (·.size) = some (bools 32 S).toList.length := by rw [bools_len]; exact Try.infoSet


set_option maxRecDepth 100000 in
set_option maxHeartbeats 400000 in
theorem together_any (c : Nat) (gv : Nat → Value) (s : St) (sv : Value) (n m : Nat) (hn : n < 32) (hm : m < 32) (w : World) (hs : StAt w c gv s sv) :
    Calls Try.prog 131 #[.pointer (some ⟨c, 0, none⟩), .int .i64 n, .int .i64 m] w fun e w' => e = .returned (.bool (sameB 32 (s.reach n) (s.reach m))) ∧ ∃ k, w' = w.drewN k := by
  have r1 := hs.row hn
  have r2 := hs.row hm
  have hg := Try.setGuard
  have he := fun w => run_equalIn_bools 9998 Try.underlying22 Try.underlying4 Try.infoBool (s.reach n) (s.reach m) w
  have n1 : (0 : Int) ≤ (n : Int) ∧ (n : Int) < 32 := by omega
  have m1 : (0 : Int) ≤ (m : Int) ∧ (m : Int) < 32 := by omega
  go_enter Try.func131, Try.ntmps131
  go_wp2
  refine wp_region_quiet_lit (by kernel_rfl) (by kernel_rfl) ?_
  repeat (quiet_step (fail))
  refine wpQuiet_load_mid (by rfl) _ _ rfl _ _ rfl (bools 32 (s.reach n)).toList _ r1 Try.underlying22 rfl (Try.sizeSet _) ?_
  simp only [Act.put, List.setIfInBounds_toArray, List.set_cons_zero, List.set_cons_succ, Array.toArray_toList]
  repeat (quiet_step (fail))
  refine wpQuiet_load_mid (by rfl) _ _ rfl _ _ rfl (bools 32 (s.reach m)).toList _ r2 Try.underlying22 rfl (Try.sizeSet _) ?_
  simp only [Act.put, List.setIfInBounds_toArray, List.set_cons_zero, List.set_cons_succ, Array.toArray_toList]
  repeat (quiet_step (fail))
  refine wpQuiet_nil ?_
  rintro _ ⟨nq, rfl⟩
  go_wp2
  go_ret
  exact ⟨rfl, _, rfl⟩

end Go.Proofs.Ytkoefoccbjhoiab

namespace Go.Proofs.Ytkoefoccbjhoiab
open Go.RowKit

theorem grown_drew {w w1 : World} {row : Option Nat} (h : w.grownBy w1 row) : w.grownBy w1.drew row := ⟨h.os, h.tape, h.output, h.size, h.block⟩
theorem grown_trans {w w1 w2 : World} {row : Option Nat} (h : w.grownBy w1 row) (k : w1.grownBy w2 row) : w.grownBy w2 row :=
  ⟨k.os.trans h.os, k.tape.trans h.tape, k.output.trans h.output, Nat.le_trans h.size k.size, fun i hi hr => (k.block i (Nat.lt_of_lt_of_le hi h.size) hr).trans (h.block i hi hr)⟩
theorem grown_below {w w1 : World} {c : Nat} (h : w.grownBy w1 (some c)) (hc : c < w.heap.size) : Below c w w1 :=
  (Below.refl _ _).grown h (by omega) (by intro k hk; cases hk; exact Nat.le_refl _)
theorem below_grown {w w1 : World} (h : Below w.heap.size w w1) (row : Option Nat) : w.grownBy w1 row := ⟨h.os, h.tape, h.output, h.size, fun k hk _ => h.block k hk⟩
theorem StAt.later {w w1 : World} {c B : Nat} {gv : Nat → Value} {s : St} {sv : Value} (h : StAt w c gv s sv) (hb : Below B w w1) (hc : c < B) : StAt w1 c gv s sv := BlkAt.later h hb hc
theorem StAt.lt {w : World} {c : Nat} {gv : Nat → Value} {s : St} {sv : Value} (h : StAt w c gv s sv) : c < w.heap.size := BlkAt.lt h
theorem StAt.alloc {w : World} {c : Nat} {gv : Nat → Value} {s : St} {sv : Value} (h : StAt w c gv s sv) (o : Obj) : StAt (w.alloc o) c gv s sv :=
  h.later (B := w.heap.size) ((Below.refl _ _).alloc (Nat.le_refl _) _) h.lt

def inclTo (s : St) (n : Nat) (T : Nat → Bool) (k : Nat) : St := { s with reach := upd s.reach n (fun j => s.reach n j || (decide (j < k) && T j)) }
theorem inclTo_zero (s : St) (n : Nat) (T : Nat → Bool) : inclTo s n T 0 = s := by
  unfold inclTo
  have : upd s.reach n (fun j => s.reach n j || (decide (j < 0) && T j)) = s.reach := by
    funext i j
    unfold upd
    split
    · rename_i e; subst e; simp
    · rfl
  rw [this]
theorem inclTo_hit (s : St) (n : Nat) (T : Nat → Bool) (k : Nat) (h : T k = true) : ({ inclTo s n T k with reach := upd (inclTo s n T k).reach n (upd ((inclTo s n T k).reach n) k true) } : St) = inclTo s n T (k + 1) := by
  unfold inclTo
  simp only [upd_same]
  congr 1
  funext i j
  unfold upd
  by_cases e : i = n
  · simp only [e, if_true]
    by_cases e2 : j = k
    · subst e2; simp [h]
    · have : decide (j < k + 1) = decide (j < k) := by rw [Bool.eq_iff_iff]; simp; omega
      simp [e2, this]
  · simp [e]
theorem inclTo_miss (s : St) (n : Nat) (T : Nat → Bool) (k : Nat) (h : T k = false) : inclTo s n T (k + 1) = inclTo s n T k := by
  unfold inclTo
  congr 2
  funext j
  by_cases e2 : j = k
  · subst e2; simp [h]
  · have : decide (j < k + 1) = decide (j < k) := by rw [Bool.eq_iff_iff]; simp; omega
    rw [this]
theorem StAt.same {w : World} {c : Nat} {gv : Nat → Value} {s s' : St} {sv : Value} (h : StAt w c gv s sv) (h1 : s.met = s'.met) (h2 : ∀ i, i < 32 → s.turn i = s'.turn i) (h3 : ∀ i, i < 32 → s.back i = s'.back i) (h4 : ∀ i, i < 32 → s.opn i = s'.opn i)
    (h5 : ∀ i j, i < 32 → j < 32 → s.reach i j = s'.reach i j) : StAt w c gv s' sv := by
  refine BlkAt.congr h fun i hi => ?_
  unfold sCell
  repeat' split
  · rfl
  · rw [h1]
  · rw [h2 _ (by omega)]
  · rw [h3 _ (by omega)]
  · rfl
  · rw [h4 _ (by omega)]
  · rw [h5 _ _ (by omega) (by omega)]

set_option maxRecDepth 100000 in
set_option maxHeartbeats 400000 in
theorem incl_any (c : Nat) (gv : Nat → Value) (s : St) (sv : Value) (n : Nat) (hn : n < 32) (T : Nat → Bool) (w : World) (hs : StAt w c gv s sv) :
    Calls Try.prog 129 #[.pointer (some ⟨c, 162 + n * 32, none⟩), .agg (bools 32 T)] w fun e w' => e = .returned (.tuple #[]) ∧ StAt w' c gv { s with reach := upd s.reach n (fun j => s.reach n j || T j) } sv ∧ w.grownBy w' (some c) := by
  have hlt := hs.lt
  go_enter Try.func129, Try.ntmps129
  go_wp2_with (refine wpList_load_row rfl 22 _ rfl w.heap.size rfl 22 (bools 32 T) (0, 0) _ (heap_new _ _) Try.underlying22 rfl (by rw [bools_size]; exact Try.infoSet) ?_)
  have hg0 : w.grownBy (w.alloc (.cells (bools 32 T) 22)) (some c) := grown_alloc (World.grownBy.refl _ _) _
  have hs0 := hs.alloc (.cells (bools 32 T) 22)
  rw [← inclTo_zero s n T] at hs0
  clear hs
  go_loopw [7] (fun i wr => ∃ k : Nat, k ≤ 32 ∧ i = .int .i64 k ∧ StAt wr c gv (inclTo s n T k) sv ∧ w.grownBy wr (some c)) (fun i _ => 32 - (intOf i).toNat)
  case atStart => exact ⟨0, Nat.zero_le _, rfl, hs0, hg0⟩
  case round =>
    obtain ⟨k, hk, rfl, hS, hG⟩ := hrel
    clear hs0 hg0
    by_cases hlt : k < 32
    · have hix := fun wx => run_index_bools Try.underlying22 Try.underlying4 Try.infoBool T hlt wx
      cases tk : T k
      · rw [tk] at hix
        have HM : Hid (inclTo s n T (k + 1) = inclTo s n T k) := inclTo_miss s n T k tk
        go_wp2
        go_roundw
        case rel => exact ⟨k + 1, by omega, by go_num, by rw [HM.out]; exact hS, hG⟩
        case measure => simp [intOf]; omega
      · rw [tk] at hix
        have c0 : wr.cell? ⟨c, 162 + n * 32 + k, none⟩ = some (.bool ((inclTo s n T k).reach n k)) := by rw [BlkAt.cell hS (by omega), sCell_reach _ _ _ hlt]
        have f0 : wr.frozen? ⟨c, 162 + n * 32 + k, none⟩ = false := BlkAt.frozen hS _
        have HS : Hid (StAt wr c gv (inclTo s n T k) sv) := hS
        have HM : Hid (_ = inclTo s n T (k + 1)) := inclTo_hit s n T k tk
        clear hS
        go_wp2
        go_roundw
        case rel => exact ⟨k + 1, by omega, by go_num, by rw [← HM.out]; exact HS.out.putReach hlt true, grown_put_same hG _ _⟩
        case measure => simp [intOf]; omega
    · go_wp2
      go_end0
      obtain rfl : k = 32 := by omega
      refine ⟨rfl, hS.same rfl (fun _ _ => rfl) (fun _ _ => rfl) (fun _ _ => rfl) (fun i j _ hj => ?_), hG⟩
      unfold inclTo upd
      by_cases e : i = n
      · simp [e, hj]
      · simp [e]

set_option maxRecDepth 100000 in
set_option maxHeartbeats 400000 in
theorem index_any (a : Option Addr) (cap : Nat) (zs : List Int) (n : Int) (i : Nat) (w : World) (hl : zs.length ≤ maxLen) (hz : IntsAt w.heap.size w a zs) (hi : i < zs.length) (hn : zs.getD i 0 = n) (hb : ∀ j, j < i → zs.getD j 0 ≠ n) :
    Calls Try.prog 140 #[.slice a zs.length cap, .int .i64 n] w fun e w' => e = .returned (.int .i64 i) ∧ w' = w := by
  unfold maxLen at hl
  rcases hz with rfl | ⟨b, off, rfl, _, hc⟩
  · simp at hi
  · have h64 : (zs.length : Int) ≤ 9223372036854775807 := by omega
    go_enter Try.func140, Try.ntmps140
    go_wp2
    go_loop [8] (fun v => ∃ k : Nat, k ≤ i ∧ v = .int .i64 k) (fun v => zs.length - (intOf v).toNat)
    case atStart => exact ⟨0, Nat.zero_le _, rfl⟩
    case round =>
      obtain ⟨k, hk, rfl⟩ := hrel
      have hlt : k < zs.length := by omega
      obtain ⟨q, Hq⟩ : ∃ q : Int, Hid (zs.getD k 0 = q) := ⟨_, rfl⟩
      have e0 : w.cell? ⟨b, off + k, none⟩ = some (.int .i64 q) := by rw [← Hq.out]; exact hc k hlt
      clear hc
      by_cases e : k = i
      · subst e
        have hq : (n == q) = true := by rw [← Hq.out, hn]; simp
        go_wp2
        go_ret
        exact ⟨rfl, rfl⟩
      · have hq : (n == q) = false := by
          have := hb k (by omega)
          rw [Hq.out] at this
          exact beq_eq_false_iff_ne.2 (fun h => this h.symm)
        go_wp2
        go_round
        case rel => exact ⟨k + 1, by omega, by go_num⟩
        case measure => simp [intOf]; omega

end Go.Proofs.Ytkoefoccbjhoiab

namespace Go.Proofs.Ytkoefoccbjhoiab
open Go.RowKit

theorem Try.sizeSet' (S : Nat → Bool) : (Try.prog.info? 22).map (·.size) = some (bools 32 S).size := by rw [bools_size]; exact Try.infoSet

set_option maxRecDepth 100000 in
set_option maxHeartbeats 400000 in
theorem ahead_any (c : Nat) (gv : Nat → Value) (g : GraphL) (s : St) (sv : Value) (n : Nat) (hn : n < 32) (w : World) (hs : StAt w c gv s sv) (hg : GraphC c w gv g) :
    Calls Try.prog 128 #[.pointer (some ⟨c, 0, none⟩), .int .i64 n] w fun e w' => e = .returned (.agg (bools 32 (g.adj n))) ∧ Below w.heap.size w w' := by
  have hlt := hs.lt
  have n1 : (0 : Int) ≤ (n : Int) ∧ (n : Int) < 32 := by omega
  have k0 : w.cell? ⟨c, n, none⟩ = some (.bool (g.known n)) := by rw [BlkAt.cell hs (by omega), sCell_graph _ _ _ (by omega), hg.known n hn]
  cases hk : g.known n
  · rw [hk] at k0
    have E : Hid (bools 32 (g.adj n) = bools 32 (fun _ => false)) := by
      unfold Hid
      congr 1
      funext j
      simp [GraphL.adj, hk]
    go_enter Try.func128, Try.ntmps128
    go_upto_region 3 with fail
    rw [← Try.zero22]
    obtain ⟨W, hW⟩ : ∃ W, W = (w.alloc (.cells (bools 32 fun _ => false) 22)).alloc (.cells (bools 32 fun _ => false) 22) := ⟨_, rfl⟩
    have hr := two_rows w (.cells (bools 32 fun _ => false) 22) (.cells (bools 32 fun _ => false) 22)
    have hb : Below w.heap.size w W := by rw [hW]; exact ((Below.refl _ _).alloc (Nat.le_refl _) _).alloc (by rw [size_push]; omega) _
    rw [← hW] at hr ⊢
    obtain ⟨hr1, hr2⟩ := hr
    clear hW hs hg k0
    go_wp2_with (first
      | (refine wpList_load_row rfl 22 _ rfl (w.heap.size + 1) rfl 22 (bools 32 fun _ => false) (0, 0) _ hr2 Try.underlying22 rfl (Try.sizeSet' _) ?_)
      | (refine wpList_store_row rfl 22 _ _ rfl w.heap.size (bools 32 fun _ => false) rfl rfl 22 _ hr1 (Try.sizeSet' _) rfl (bools_all _ _) ?_))
    refine bodyPost_ret (v := .agg (bools 32 fun _ => false)) (results_cell_row Try.results128 _ _ w.heap.size 22 _ (0, 0) _ rfl (heap_setRow hr1) Try.underlying22 rfl (Try.sizeSet' _)) rfl ⟨by rw [E.out], setRow_below hb (Nat.le_refl _) _⟩
  · rw [hk] at k0
    obtain ⟨a, cap, hd, hz, hl⟩ := hg.deps n hn
    have d0 : w.cell? ⟨c, 32 + n, none⟩ = some (.slice a (g.deps n).length cap) := by rw [BlkAt.cell hs (by omega), sCell_graph _ _ _ (by omega), hd]
    have E : Hid (bools 32 (g.adj n) = bools 32 (fun j => (g.deps n).contains (j : Int))) := by
      unfold Hid bools
      congr 1
      refine List.map_congr_left fun j hj => ?_
      have := List.mem_range.1 hj
      simp [GraphL.adj, hk, hn, this]
    generalize g.deps n = zs at hz hl d0 E
    clear hd
    have hl' := hl
    unfold maxLen at hl'
    have h64 : (zs.length : Int) ≤ 9223372036854775807 := by omega
    go_enter Try.func128, Try.ntmps128
    go_upto_region 4 with fail
    rw [← Try.zero22]
    obtain ⟨W, hW⟩ : ∃ W, W = (w.alloc (.cells (bools 32 fun _ => false) 22)).alloc (.cells (bools 32 fun _ => false) 22) := ⟨_, rfl⟩
    have hr := two_rows w (.cells (bools 32 fun _ => false) 22) (.cells (bools 32 fun _ => false) 22)
    have hb : Below w.heap.size w W := by rw [hW]; exact ((Below.refl _ _).alloc (Nat.le_refl _) _).alloc (by rw [size_push]; omega) _
    rw [← hW] at hr ⊢
    obtain ⟨hr1, hr2⟩ := hr
    have d1 : W.cell? ⟨c, 32 + n, none⟩ = some (.slice a zs.length cap) := by rw [hb.cell (p := ⟨c, 32 + n, none⟩) hlt]; exact d0
    have hS0 : SetAt 32 W (w.heap.size + 1) (fun _ => false) := ⟨22, hr2⟩
    have hz' : IntsAt w.heap.size w a zs := hz.mono (by omega)
    clear hW hs hg k0 d0 hr2 hz
    rcases hz' with rfl | ⟨b, off, rfl, hbb, hc⟩
    · go_wp2_with fail
      refine wp_loop_rounds 1 ?_; rw [rounds_succ]
      obtain ⟨t, hS0⟩ := hS0
      go_wp2_with (first
        | (refine wpList_load_row rfl 22 _ rfl (w.heap.size + 1) rfl t (bools 32 fun _ => false) (0, 0) _ hS0 Try.underlying22 rfl (Try.sizeSet' _) ?_)
        | (refine wpList_store_row rfl 22 _ _ rfl w.heap.size (bools 32 fun _ => false) rfl rfl 22 _ hr1 (Try.sizeSet' _) rfl (bools_all _ _) ?_))
      refine bodyPost_ret (v := .agg (bools 32 fun _ => false)) (results_cell_row Try.results128 _ _ w.heap.size 22 _ (0, 0) _ rfl (heap_setRow hr1) Try.underlying22 rfl (Try.sizeSet' _)) rfl ⟨by rw [E.out]; rfl, setRow_below hb (Nat.le_refl _) _⟩
    · go_wp2_with fail
      go_loopw [23] (fun i wr => ∃ k : Nat, k ≤ zs.length ∧ i = .int .i64 k ∧ SetAt 32 wr (w.heap.size + 1) (fun i => (zs.take k).contains (i : Int)) ∧ Below w.heap.size w wr ∧ wr.heap[w.heap.size]? = some (.cells (bools 32 fun _ => false) 22 (0, 0))) (fun i _ => zs.length - (intOf i).toNat)
      case atStart => exact ⟨0, Nat.zero_le _, rfl, hS0.congr (by simp), hb, hr1⟩
      case round =>
        obtain ⟨k, hk', rfl, hS, hBw, hr⟩ := hrel
        clear hS0 hr1 d1
        have hsz := hBw.size
        by_cases hlt' : k < zs.length
        · obtain ⟨q, Hq⟩ : ∃ q : Int, Hid (zs.getD k 0 = q) := ⟨_, rfl⟩
          have e0 : wr.cell? ⟨b, off + k, none⟩ = some (.int .i64 q) := by rw [hBw.cell (p := ⟨b, off + k, none⟩) hbb, ← Hq.out]; exact hc k hlt'
          have HC : Hid (∀ i : Nat, (zs.take (k + 1)).contains (i : Int) = ((zs.take k).contains (i : Int) || (i : Int) == q)) := contains_step hlt' Hq.out
          clear hc
          by_cases t1 : 0 ≤ q ∧ q < 32
          · obtain ⟨m, rfl⟩ := Int.eq_ofNat_of_zero_le t1.1
            have hm : m < 32 := by omega
            have tb : txnB' (m : Int) = true := by simp [txnB']; omega
            have f0 := hS.cell hm
            have f1 := hS.frozen m
            have HS : Hid (SetAt 32 wr (w.heap.size + 1) (fun i => (zs.take k).contains (i : Int))) := hS
            have m1 : (0 : Int) ≤ (m : Int) ∧ (m : Int) < 32 := t1
            clear hS
            go_wp2_with (go_at_call 60; refine (g_isTxn _ _).mono ?_; rintro e w' ⟨rfl, rfl⟩)
            go_roundw
            case rel =>
              refine ⟨k + 1, by omega, by go_num, (HS.out.put m true).congr (fun i _ => ?_), hBw.setCell (by simp) _, by rw [heap_setCell_other _ _ _ _ (by simp)]; exact hr⟩
              rw [HC.out]
              have := or_cast false ((zs.take k).contains (i : Int)) i m
              simpa using this
            case measure => simp [intOf]; omega
          · have tb : txnB' q = false := by simp [txnB']; omega
            go_wp2_with (go_at_call 60; refine (g_isTxn _ _).mono ?_; rintro e w' ⟨rfl, rfl⟩)
            go_roundw
            case rel =>
              refine ⟨k + 1, by omega, by go_num, hS.congr (fun i hi => ?_), hBw, hr⟩
              rw [HC.out]
              have : ((i : Int) == q) = false := by simp; omega
              rw [this, Bool.or_false]
            case measure => simp [intOf]; omega
        · have hS' : SetAt 32 wr (w.heap.size + 1) (fun j => zs.contains (j : Int)) := hS.congr (fun i hi => by rw [List.take_of_length_le (by omega)])
          obtain ⟨t, hS'⟩ := hS'
          clear hS
          go_wp2_with (first
            | (refine wpList_load_row rfl 22 _ rfl (w.heap.size + 1) rfl t (bools 32 fun j => zs.contains (j : Int)) (0, 0) _ hS' Try.underlying22 rfl (Try.sizeSet' _) ?_)
            | (refine wpList_store_row rfl 22 _ _ rfl w.heap.size (bools 32 fun j => zs.contains (j : Int)) rfl rfl 22 _ hr (Try.sizeSet' _) rfl (bools_all _ _) ?_))
          refine bodyPost_ret (v := .agg (bools 32 fun j => zs.contains (j : Int))) (results_cell_row Try.results128 _ _ w.heap.size 22 _ (0, 0) _ rfl (heap_setRow hr) Try.underlying22 rfl (Try.sizeSet' _)) rfl ⟨by rw [E.out], setRow_below hBw (Nat.le_refl _) _⟩

end Go.Proofs.Ytkoefoccbjhoiab

namespace Go.Proofs.Ytkoefoccbjhoiab
open Go.RowKit

def ints (l : List Nat) : List Int := l.map fun x : Nat => (x : Int)
theorem ints_len (l : List Nat) : (ints l).length = l.length := by simp [ints]
theorem ints_get (l : List Nat) {i : Nat} (h : i < l.length) : (ints l).getD i 0 = ((l.getD i 0 : Nat) : Int) := by simp [ints, List.getD, h]
/-- The stack: a slice of the search's own. -/
def Own (w : World) (c : Nat) (sv : Value) (l : List Nat) : Prop := w.ownsRow (c + 1) 3 1 sv (ints l).length (intCells (ints l))
theorem Own.kept {w w' : World} {c : Nat} {sv : Value} {l : List Nat} (h : Own w c sv l) (hg : w.grownBy w' (some c)) : Own w' c sv l := by
  refine World.ownsRow.kept h hg ?_
  cases hv : sv.ownBlock with
  | none => exact Or.inl rfl
  | some k => exact Or.inr (fun e => by have := (World.ownsRow.lt h k hv).1; cases e; omega)
theorem Own.form {w : World} {c : Nat} {sv : Value} {l : List Nat} (h : Own w c sv l) (hl : 0 < l.length) : ∃ g cap, sv = .slice (some ⟨g, 0, none⟩) (ints l).length cap ∧ c < g ∧ (ints l).length ≤ cap ∧ cap ≤ maxLen ∧ g < w.heap.size ∧ ∀ i, i < (ints l).length → w.cell? ⟨g, i, none⟩ = some (.int .i64 ((ints l).getD i 0)) := by
  have hk := h
  obtain ⟨_, h2⟩ := h
  rcases h2 with ⟨rfl, hn⟩ | ⟨g, cap, cur, rfl, hg, hh, hc, hm, hcur, hx⟩
  · rw [ints_len] at hn; omega
  · refine ⟨g, cap, rfl, by omega, hc, hm, (Array.getElem?_eq_some_iff.1 hh).1, fun i hi => ?_⟩
    have := World.ownsRow.cellAt hk i (by omega)
    rw [this]
    simp [intCells, List.getD, hi]
/-- Cut off behind k. -/
theorem Own.cut {w : World} {c g cap : Nat} {l : List Nat} (h : Own w c (.slice (some ⟨g, 0, none⟩) (ints l).length cap) l) {k : Nat} (hk : k ≤ l.length) : Own w c (.slice (some ⟨g, 0, none⟩) k cap) (l.take k) := by
  obtain ⟨h1, h2⟩ := h
  rcases h2 with ⟨e, _⟩ | ⟨g', cap', cur, e, hg, hh, hc, hm, hcur, hx⟩
  · cases e
  · cases e
    have hl : (ints (l.take k)).length = k := by rw [ints_len]; simp; omega
    refine ⟨by simp [intCells], Or.inr ⟨g, cap, cur, by rw [hl], hg, hh, by rw [hl]; rw [ints_len] at hc; omega, hm, hcur, ?_⟩⟩
    rw [hl]
    have : (intCells (ints l)).take (k * 1) = intCells (ints (l.take k)) := by simp [intCells, ints, List.map_take]
    rw [← this, ← hx, List.take_take]
    congr 1
    rw [ints_len]
    omega

/-- A ring of which k were taken off. -/
def St.closeTo (s : St) (n : Nat) (l : List Nat) : St :=
  { s with opn := fun i => s.opn i && !l.contains i, reach := fun i => if l.contains i then s.reach n else s.reach i }
theorem closeTo_nil (s : St) (n : Nat) : s.closeTo n [] = s := by simp [St.closeTo]
theorem closeTo_snoc (s : St) (n m : Nat) (l : List Nat) :
    (let r : St := { s.closeTo n l with opn := upd (s.closeTo n l).opn m false }; ({ r with reach := upd r.reach m (s.reach n) } : St)) = s.closeTo n (l ++ [m]) := by
  unfold St.closeTo
  simp only
  congr 1
  · funext i
    unfold upd
    by_cases e : i = m
    · subst e; simp
    · simp [e]
  · funext i
    unfold upd
    by_cases e : i = m
    · subst e; simp
    · simp [e]
theorem closeTo_reach (s : St) (n : Nat) (l : List Nat) : (s.closeTo n l).reach n = s.reach n := by
  unfold St.closeTo
  simp

theorem keep_row {w : World} {c o : Nat} {cs : List Value} (h : w.rangeAt c o cs ∧ w.there c o 32) (k1 : cs.length = 32) : (w.setCells c o cs).rangeAt c o cs ∧ (w.setCells c o cs).there c o 32 :=
  ⟨World.rangeAt_setCells_same w c o cs (by rw [k1]; exact h.2), World.there_setCells h.2 _ _ _⟩
theorem keep_apart {w : World} {c o o' : Nat} {cs : List Value} (h : w.rangeAt c o cs ∧ w.there c o' 32) (k1 : cs.length = 32) (hap : o + 32 ≤ o' ∨ o' + 32 ≤ o) : (w.setCells c o' cs).rangeAt c o cs ∧ (w.setCells c o' cs).there c o' 32 :=
  ⟨World.rangeAt_setCells_apart h.1 c o' cs (by rw [k1]; omega), World.there_setCells h.2 _ _ _⟩
theorem grown_puts {w : World} {c : Nat} : ∀ {w1 : World}, w.grownBy w1 (some c) → ∀ (o : Nat) (vs : List Value), w.grownBy (w1.setCells c o vs) (some c)
  | _, h, _, [] => h
  | _, h, o, v :: vs => by rw [World.setCells]; exact grown_puts (grown_put_same h o v) (o + 1) vs
theorem take_snoc {l : List Nat} {k : Nat} (h : k < l.length) : l.take (k + 1) = l.take k ++ [l.getD k 0] := by
  rw [List.take_succ_eq_append_getElem h]
  simp [List.getD, h]

set_option maxRecDepth 100000 in
set_option maxHeartbeats 800000 in
theorem close_any (c : Nat) (gv : Nat → Value) (s : St) (sv : Value) (n : Nat) (pre ext : List Nat) (w : World) (hs : StAt w c gv s sv) (ho : Own w c sv s.stack) (he : s.stack = pre ++ n :: ext) (hp : n ∉ pre) (h32 : ∀ x ∈ s.stack, x < 32) :
    Calls Try.prog 130 #[.pointer (some ⟨c, 0, none⟩), .int .i64 n] w fun e w' => e = .returned (.tuple #[]) ∧ ∃ sv', StAt w' c gv (s.close n) sv' ∧ Own w' c sv' (s.close n).stack ∧ w.grownBy w' (some c) := by
  have hc := hs.lt
  have hlen : s.stack.length = pre.length + 1 + ext.length := by rw [he]; simp; omega
  have hn : n < 32 := h32 n (by rw [he]; simp)
  obtain ⟨g, cap, rfl, hg, hcap, hmax, hgl, hcell⟩ := ho.form (by omega)
  have hi : s.stack.idxOf n = pre.length := by rw [he]; exact idxOf_split hp
  have htake : s.stack.take pre.length = pre := by rw [he]; simp
  have hdrop : s.stack.drop pre.length = n :: ext := by rw [he]; simp
  have E : Hid (s.close n = { s.closeTo n (n :: ext) with stack := pre }) := by
    unfold Hid St.close St.closeTo
    rw [hi, htake, hdrop]
  have hzl : (ints s.stack).length = pre.length + 1 + ext.length := by rw [ints_len]; exact hlen
  have hget : ∀ k, k < 1 + ext.length → (ints s.stack).getD (pre.length + k) 0 = (((n :: ext).getD k 0 : Nat) : Int) := by
    intro k hk
    rw [ints_get _ (by omega), he]
    simp [List.getD, List.getElem?_append_right]
  have hidx : ∀ wx : World, Below w.heap.size w wx → Calls Try.prog 140 #[.slice (some ⟨g, 0, none⟩) (ints s.stack).length cap, .int .i64 n] wx fun e w' => e = .returned (.int .i64 pre.length) ∧ w' = wx := by
    intro wx hb
    have hz : IntsAt wx.heap.size wx (some ⟨g, 0, none⟩) (ints s.stack) := Or.inr ⟨g, 0, rfl, by have := hb.size; omega, fun i hi => by rw [hb.cell (p := ⟨g, 0 + i, none⟩) hgl, Nat.zero_add]; exact hcell i hi⟩
    refine index_any _ cap (ints s.stack) n pre.length wx (by omega) hz (by omega) ?_ ?_
    · have := hget 0 (by omega); simpa using this
    · intro j hj
      rw [ints_get _ (by omega), he]
      intro e
      apply hp
      have h1 : (pre ++ n :: ext).getD j 0 = n := by omega
      have h2 : (pre ++ n :: ext).getD j 0 = pre[j] := by simp [List.getD, List.getElem?_append_left hj, hj]
      rw [h2] at h1
      rw [← h1]
      exact List.getElem_mem hj
  have c0 : w.cell? ⟨c, 129, none⟩ = some (.slice (some ⟨g, 0, none⟩) (ints s.stack).length cap) := by rw [BlkAt.cell hs (by omega)]; rfl
  generalize hz : ints s.stack = zs at *
  have HG : Hid (∀ k, k < 1 + ext.length → zs.getD (pre.length + k) 0 = (((n :: ext).getD k 0 : Nat) : Int)) := hget
  have HC : Hid (∀ i, i < zs.length → w.cell? ⟨g, i, none⟩ = some (.int .i64 (zs.getD i 0))) := hcell
  have HS : Hid (StAt w c gv s (.slice (some ⟨g, 0, none⟩) zs.length cap)) := hs
  have HO : Hid (Own w c (.slice (some ⟨g, 0, none⟩) zs.length cap) s.stack) := ho
  have hx := hidx w (Below.refl _ _)
  have H32 : Hid (∀ x ∈ n :: ext, x < 32) := fun x hx => h32 x (by rw [he]; exact List.mem_append_right _ hx)
  have HE : Hid (ints s.stack = zs) := hz
  have HT : Hid (s.stack.take pre.length = pre) := htake
  clear hget hcell hs ho hidx h32 hz htake hdrop hi he hp
  unfold maxLen at hmax
  have b1 : (pre.length : Int) ≤ (zs.length : Int) := by omega
  have b3 : pre.length < zs.length := by omega
  have HL : Hid (zs.length = pre.length + 1 + ext.length) := hzl
  clear hzl hlen
  have b2 : pre.length < cap := by omega
  have n1 : (0 : Int) ≤ (n : Int) ∧ (n : Int) < 32 := by omega
  go_enter Try.func130, Try.ntmps130
  go_wp2_with fail
  refine hx.mono ?_
  rintro e w' ⟨rfl, rfl⟩
  clear hx
  go_wp2_with fail
  go_loopw [20] (fun i wr => ∃ k : Nat, k ≤ 1 + ext.length ∧ i = .int .i64 k ∧ StAt wr c gv (s.closeTo n ((n :: ext).take k)) (.slice (some ⟨g, 0, none⟩) zs.length cap) ∧ w'.grownBy wr (some c)) (fun i _ => 1 + ext.length - (intOf i).toNat)
  case atStart => exact ⟨0, Nat.zero_le _, rfl, by rw [List.take_zero, closeTo_nil]; exact HS.out, World.grownBy.refl _ _⟩
  case round =>
    obtain ⟨k, hk, rfl, hS, hG⟩ := hrel
    have hll := HL.out
    by_cases hlt : k < 1 + ext.length
    · obtain ⟨m, Hm⟩ : ∃ m : Nat, Hid ((n :: ext).getD k 0 = m) := ⟨_, rfl⟩
      have hm : m < 32 := by
        have : (n :: ext).getD k 0 ∈ n :: ext := by
          have hk' : k < (n :: ext).length := by simp; omega
          rw [List.getD, List.getElem?_eq_getElem hk']
          exact List.getElem_mem hk'
        rw [← Hm.out]
        exact H32.out _ this
      have hsz := hG.size
      have e0 : wr.cell? ⟨g, pre.length + k, none⟩ = some (.int .i64 m) := by
        rw [World.grownBy.cell hG (HC.out (pre.length + k) (by omega)) (by simp; omega), HG.out k hlt, Hm.out]
      have c1 : wr.cell? ⟨c, 130 + m, none⟩ = some (.bool ((s.closeTo n ((n :: ext).take k)).opn m)) := by rw [BlkAt.cell hS (by omega), sCell_opn _ _ _ hm]
      have f1 : wr.frozen? ⟨c, 130 + m, none⟩ = false := BlkAt.frozen hS _
      have hk2 : (k : Int) < ((zs.length - pre.length : Nat) : Int) := by omega
      have m1 : (0 : Int) ≤ (m : Int) ∧ (m : Int) < 32 := by omega
      have HM : Hid ((n :: ext).take (k + 1) = (n :: ext).take k ++ [m]) := by
        unfold Hid
        rw [take_snoc (by simp; omega), Hm.out]
      have hS1 := hS.putOpn hm false
      have hG1 := grown_put_same hG (130 + m) (.bool false)
      clear hll hS c0
      go_wp2_with fail
      obtain ⟨W, hW⟩ : ∃ W, W = wr.setCell ⟨c, 130 + m, none⟩ (.bool false) := ⟨_, rfl⟩
      rw [← hW] at hS1 hG1 ⊢
      have HS1 : Hid (StAt W c gv _ (.slice (some ⟨g, 0, none⟩) zs.length cap)) := hS1
      have r1 := hS1.row hn
      have r2 : W.there c (162 + m * 32) 32 := BlkAt.there hS1 (by omega)
      have er : ({ s.closeTo n ((n :: ext).take k) with opn := upd (s.closeTo n ((n :: ext).take k)).opn m false } : St).reach n = s.reach n := closeTo_reach _ _ _
      rw [er] at r1
      have hu := Try.underlying22
      have z1 := Try.sizeSet (s.reach n)
      have k1 := bools_len 32 (s.reach n)
      have o1 := bools_one 32 (s.reach n)
      obtain ⟨cs, hcs⟩ : ∃ cs, cs = (bools 32 (s.reach n)).toList := ⟨_, rfl⟩
      rw [← hcs] at r1 z1 k1 o1
      have HCS : Hid (cs = (bools 32 (s.reach n)).toList) := hcs
      clear hS1 er hW e0 c1 f1 hcs
      have hfin : Hid (StAt (W.drew.setCells c (162 + m * 32) cs) c gv (s.closeTo n ((n :: ext).take (k + 1))) (.slice (some ⟨g, 0, none⟩) zs.length cap) ∧ w'.grownBy (W.drew.setCells c (162 + m * 32) cs) (some c)) := by
        unfold Hid
        refine ⟨?_, grown_puts (grown_drew hG1) _ _⟩
        rw [HM.out, ← closeTo_snoc, HCS.out]
        exact HS1.out.drew.putRow hm (s.reach n)
      by_cases e : m = n
      · subst e
        go_region_held3 (fun w' => w'.rangeAt c (162 + m * 32) cs ∧ w'.there c (162 + m * 32) 32) (first | exact ⟨r1, r2⟩ | exact keep_row (by assumption) k1) (fail)
        go_wp2_with fail
        go_roundw
        case rel => exact ⟨k + 1, by omega, by go_num, hfin.out.1, hfin.out.2⟩
        case measure => simp [intOf]; omega
      · have hap : 162 + n * 32 + 32 ≤ 162 + m * 32 ∨ 162 + m * 32 + 32 ≤ 162 + n * 32 := by omega
        go_region_held3 (fun w' => w'.rangeAt c (162 + n * 32) cs ∧ w'.there c (162 + m * 32) 32) (first | exact ⟨r1, r2⟩ | exact keep_apart (by assumption) k1 hap) (fail)
        go_wp2_with fail
        go_roundw
        case rel => exact ⟨k + 1, by omega, by go_num, hfin.out.1, hfin.out.2⟩
        case measure => simp [intOf]; omega
    · have c1 : wr.cell? ⟨c, 129, none⟩ = some (.slice (some ⟨g, 0, none⟩) zs.length cap) := by rw [BlkAt.cell hS (by omega)]; rfl
      have f1 : wr.frozen? ⟨c, 129, none⟩ = false := BlkAt.frozen hS _
      have hk2 : ¬ (k : Int) < ((zs.length - pre.length : Nat) : Int) := by omega
      have hek : (n :: ext).take k = n :: ext := List.take_of_length_le (by simp; omega)
      rw [hek] at hS
      have HS2 : Hid (StAt wr c gv (s.closeTo n (n :: ext)) (.slice (some ⟨g, 0, none⟩) zs.length cap)) := hS
      clear hS hll hek c0
      go_wp2_with fail
      go_end0
      rw [E.out]
      have hcut : Own w' c (.slice (some ⟨g, 0, none⟩) pre.length cap) pre := by
        have h1 := HO.out
        rw [← HE.out] at h1
        have h2 := h1.cut (k := pre.length) (by have := HE.out; have h3 := ints_len s.stack; rw [this] at h3; omega)
        rw [HT.out] at h2
        exact h2
      refine ⟨rfl, _, HS2.out.putStack _ pre, (hcut.kept (grown_put_same hG _ _)), grown_put_same hG _ _⟩

end Go.Proofs.Ytkoefoccbjhoiab
