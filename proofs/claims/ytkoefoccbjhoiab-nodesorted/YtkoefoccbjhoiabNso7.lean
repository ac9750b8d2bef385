/-
  Values that are lists of ints, or of operations, and where they lie.
  The contracts of slices.Clone over ints and over operations.
  Frames in memory: where their lists lie; lists of frames that a call made.
  A list of frames that a call made, read one by one.
  A list of frames in memory.
  A list of frames that came in.
  Loads of whole rows in a walk, guarded or not: to be used as 'with_reducible apply' (so that an operation of another kind is passed by at once).
  A whole row is stored: as Wpl's, its premises in the order in which a walk can show them.
  A node as it lies in memory: 201 cells (32 entries of six, the order, eight values), and the lists that they name.
-/
import Derived.Test.YtkoefoccbjhoiabNso2
import Derived.Test.YtkoefoccbjhoiabNso6
import Derived.OwnWalk
import Derived.ArgAppend
import Derived.Lib.SliceRun
namespace Go.Proofs.Ytkoefoccbjhoiab
open Go.RowKit

/-- A list of ints in a block of which 'ok' holds: nothing, or its cells. -/
def IntsIn (ok : Nat → Prop) (w : World) (a : Option Addr) (zs : List Int) : Prop :=
  zs = [] ∨ ∃ b off, a = some ⟨b, off, none⟩ ∧ ok b ∧ ∀ i, i < zs.length → w.cell? ⟨b, off + i, none⟩ = some (.int .i64 (zs.getD i 0))
def OpsIn (ok : Nat → Prop) (w : World) (a : Option Addr) (zs : List OpL) : Prop :=
  zs = [] ∨ ∃ b off, a = some ⟨b, off, none⟩ ∧ ok b ∧ ∀ i, i < zs.length → w.cell? ⟨b, off + i * 3, none⟩ = some (.int .i64 (zs.getD i (0, 0, 0)).1) ∧
    w.cell? ⟨b, off + i * 3 + 1, none⟩ = some (.int .i64 (zs.getD i (0, 0, 0)).2.1) ∧ w.cell? ⟨b, off + i * 3 + 2, none⟩ = some (.int .i64 (zs.getD i (0, 0, 0)).2.2)

/-- Blocks of which 'ok' holds are as they were. -/
def SameOn (ok : Nat → Prop) (w w' : World) : Prop := ∀ k, k < w.heap.size → ok k → w'.heap[k]? = w.heap[k]?
theorem SameOn.cell {ok : Nat → Prop} {w w' : World} (h : SameOn ok w w') {p : Addr} {v : Value} (hc : w.cell? p = some v) (hk : ok p.block) : w'.cell? p = some v :=
  (World.cell?_of_block (h p.block (World.block_lt_of_cell? w p hc) hk)).trans hc
theorem SameOn.of_size {ok : Nat → Prop} {w w' : World} (h : Below w.heap.size w w') : SameOn ok w w' := fun k h1 _ => h.block k h1
theorem IntsIn.later {ok : Nat → Prop} {w w' : World} {a : Option Addr} {zs : List Int} (h : IntsIn ok w a zs) (hB : SameOn ok w w') : IntsIn ok w' a zs := by
  rcases h with h | ⟨b, off, ha, hb, hc⟩
  · exact Or.inl h
  · exact Or.inr ⟨b, off, ha, hb, fun i hi => hB.cell (hc i hi) hb⟩
theorem IntsIn.mono {ok ok' : Nat → Prop} {w : World} {a : Option Addr} {zs : List Int} (h : IntsIn ok w a zs) (hk : ∀ k, k < w.heap.size → ok k → ok' k) : IntsIn ok' w a zs := by
  rcases h with h | ⟨b, off, ha, hb, hc⟩
  · exact Or.inl h
  · cases zs with
    | nil => exact Or.inl rfl
    | cons z r =>
      have := World.block_lt_of_cell? w _ (hc 0 (by simp))
      exact Or.inr ⟨b, off, ha, hk b this hb, hc⟩
theorem IntsIn.at {ok : Nat → Prop} {w : World} {a : Option Addr} {zs : List Int} (h : IntsIn ok w a zs) : IntsAt w.heap.size w a zs := by
  rcases h with h | ⟨b, off, ha, hb, hc⟩
  · exact Or.inl h
  · cases zs with
    | nil => exact Or.inl rfl
    | cons z r => exact Or.inr ⟨b, off, ha, World.block_lt_of_cell? w _ (hc 0 (by simp)), hc⟩
theorem OpsIn.later {ok : Nat → Prop} {w w' : World} {a : Option Addr} {zs : List OpL} (h : OpsIn ok w a zs) (hB : SameOn ok w w') : OpsIn ok w' a zs := by
  rcases h with h | ⟨b, off, ha, hb, hc⟩
  · exact Or.inl h
  · exact Or.inr ⟨b, off, ha, hb, fun i hi => ⟨hB.cell (hc i hi).1 hb, hB.cell (hc i hi).2.1 hb, hB.cell (hc i hi).2.2 hb⟩⟩
theorem OpsIn.mono {ok ok' : Nat → Prop} {w : World} {a : Option Addr} {zs : List OpL} (h : OpsIn ok w a zs) (hk : ∀ k, k < w.heap.size → ok k → ok' k) : OpsIn ok' w a zs := by
  rcases h with h | ⟨b, off, ha, hb, hc⟩
  · exact Or.inl h
  · cases zs with
    | nil => exact Or.inl rfl
    | cons z r =>
      have := World.block_lt_of_cell? w _ (hc 0 (by simp)).1
      exact Or.inr ⟨b, off, ha, hk b this hb, hc⟩
theorem OpsIn.at {ok : Nat → Prop} {w : World} {a : Option Addr} {zs : List OpL} (h : OpsIn ok w a zs) : OpsAt w a zs := by
  rcases h with h | ⟨b, off, ha, hb, hc⟩
  · exact Or.inl h
  · cases zs with
    | nil => exact Or.inl rfl
    | cons z r => exact Or.inr ⟨b, off, ha, World.block_lt_of_cell? w _ (hc 0 (by simp)).1, hc⟩

/-- A value that is a list of ints; of operations. -/
def IsI (ok : Nat → Prop) (w : World) (v : Value) (zs : List Int) : Prop := ∃ a cap, v = .slice a zs.length cap ∧ IntsIn ok w a zs ∧ zs.length * 8 ≤ 140737488355328 ∧ zs.length ≤ cap ∧ (a = none → zs.length = 0 ∧ cap = 0)
def IsO (ok : Nat → Prop) (w : World) (v : Value) (zs : List OpL) : Prop := ∃ a cap, v = .slice a zs.length cap ∧ OpsIn ok w a zs ∧ zs.length * 24 ≤ 140737488355328 ∧ zs.length ≤ cap ∧ (a = none → zs.length = 0 ∧ cap = 0)
theorem IsI.later {ok : Nat → Prop} {w w' : World} {v : Value} {zs : List Int} (h : IsI ok w v zs) (hB : SameOn ok w w') : IsI ok w' v zs := by
  obtain ⟨a, cap, h1, h2, h3⟩ := h
  exact ⟨a, cap, h1, h2.later hB, h3⟩
theorem IsI.mono {ok ok' : Nat → Prop} {w : World} {v : Value} {zs : List Int} (h : IsI ok w v zs) (hk : ∀ k, k < w.heap.size → ok k → ok' k) : IsI ok' w v zs := by
  obtain ⟨a, cap, h1, h2, h3⟩ := h
  exact ⟨a, cap, h1, h2.mono hk, h3⟩
theorem IsI.sl {ok : Nat → Prop} {w : World} {v : Value} {zs : List Int} (h : IsI ok w v zs) : ∃ a cap, v = .slice a zs.length cap ∧ SlInts w a cap zs := by
  obtain ⟨a, cap, h1, h2, h3, h4, h5⟩ := h
  exact ⟨a, cap, h1, h2.at, by unfold maxLen; omega, h4, h5⟩
theorem IsI.nil (ok : Nat → Prop) (w : World) : IsI ok w (.slice none 0 0) [] := ⟨none, 0, rfl, Or.inl rfl, by decide, Nat.le_refl _, fun _ => ⟨rfl, rfl⟩⟩
theorem IsI.one {ok : Nat → Prop} {w : World} {v : Value} {zs : List Int} (h : IsI ok w v zs) : v.oneCell' = true := by
  obtain ⟨a, cap, rfl, _⟩ := h
  rfl
theorem IsO.later {ok : Nat → Prop} {w w' : World} {v : Value} {zs : List OpL} (h : IsO ok w v zs) (hB : SameOn ok w w') : IsO ok w' v zs := by
  obtain ⟨a, cap, h1, h2, h3⟩ := h
  exact ⟨a, cap, h1, h2.later hB, h3⟩
theorem IsO.mono {ok ok' : Nat → Prop} {w : World} {v : Value} {zs : List OpL} (h : IsO ok w v zs) (hk : ∀ k, k < w.heap.size → ok k → ok' k) : IsO ok' w v zs := by
  obtain ⟨a, cap, h1, h2, h3⟩ := h
  exact ⟨a, cap, h1, h2.mono hk, h3⟩
theorem IsO.sl {ok : Nat → Prop} {w : World} {v : Value} {zs : List OpL} (h : IsO ok w v zs) : ∃ a cap, v = .slice a zs.length cap ∧ SlOps w a cap zs := by
  obtain ⟨a, cap, h1, h2, h3, h4, h5⟩ := h
  exact ⟨a, cap, h1, h2.at, by unfold maxLen; omega, h4, h5⟩
theorem IsO.nil (ok : Nat → Prop) (w : World) : IsO ok w (.slice none 0 0) [] := ⟨none, 0, rfl, Or.inl rfl, by decide, Nat.le_refl _, fun _ => ⟨rfl, rfl⟩⟩
theorem IsO.one {ok : Nat → Prop} {w : World} {v : Value} {zs : List OpL} (h : IsO ok w v zs) : v.oneCell' = true := by
  obtain ⟨a, cap, rfl, _⟩ := h
  rfl
/-- What the call made for itself. -/
theorem IsI.of_owns {w : World} {base : Nat} {e : TypeId} {v : Value} {zs : List Int} (h : w.ownsRow base e 1 v zs.length (intCells zs)) (hl : zs.length * 8 ≤ 140737488355328) : IsI (fun b => base ≤ b ∧ v.ownBlock = some b) w v zs := by
  obtain ⟨a, cap, rfl, h1, h2⟩ := own_form h
  refine ⟨a, cap, rfl, ?_, hl, h1, h2⟩
  obtain ⟨a', cap', he, hi⟩ := IntsAt.of_owns h
  simp at he
  obtain ⟨rfl, rfl⟩ := he
  rcases hi with hi | ⟨b, off, rfl, hb, hc⟩
  · exact Or.inl hi
  · exact Or.inr ⟨b, off, rfl, ⟨(World.ownsRow.lt h b rfl).1, rfl⟩, hc⟩
theorem IsO.of_owns {w : World} {base : Nat} {e : TypeId} {v : Value} {zs : List OpL} (h : w.ownsRow base e 3 v zs.length (opsCells zs)) (hl : zs.length * 24 ≤ 140737488355328) : IsO (fun b => base ≤ b ∧ v.ownBlock = some b) w v zs := by
  obtain ⟨a, cap, rfl, h1, h2⟩ := own_form h
  refine ⟨a, cap, rfl, ?_, hl, h1, h2⟩
  obtain ⟨hi, _⟩ := SlOps.of_owns h
  rcases hi with hi | ⟨b, off, rfl, hb, hc⟩
  · exact Or.inl hi
  · exact Or.inr ⟨b, off, rfl, ⟨(World.ownsRow.lt h b rfl).1, rfl⟩, hc⟩

theorem rowF_all {N : Nat} {f : Nat → Value} (h : ∀ i, i < N → (f i).oneCell' = true) : (rowF N f).all (·.oneCell') = true := by
  refine Array.all_eq_true_iff_forall_mem.2 (fun v hv => ?_)
  simp [rowF] at hv
  obtain ⟨i, hi, rfl⟩ := hv
  exact h i hi

end Go.Proofs.Ytkoefoccbjhoiab

namespace Go.Proofs.Ytkoefoccbjhoiab
open Go.RowKit

/-- A clone: a row of the call's own; of nothing no room. -/
def CloneI (w w' : World) (v : Value) (zs : List Int) : Prop := w'.ownsRow w.heap.size 3 1 v zs.length (intCells zs) ∧ (zs.length = 0 → ∃ a, v = .slice a 0 0) ∧ Below w.heap.size w w'
def CloneO (w w' : World) (v : Value) (zs : List OpL) : Prop := w'.ownsRow w.heap.size 108 3 v zs.length (opsCells zs) ∧ (zs.length = 0 → ∃ a, v = .slice a 0 0) ∧ Below w.heap.size w w'


theorem intCells_one (zs : List Int) : ∀ u ∈ intCells zs, u.oneCell' = true := by
  intro u hu
  obtain ⟨n, _, rfl⟩ := List.mem_map.1 hu
  rfl
theorem opsCells_one (zs : List OpL) : ∀ u ∈ opsCells zs, u.oneCell' = true := by
  intro u hu
  obtain ⟨o, _, h⟩ := List.mem_flatMap.1 hu
  simp [opCells] at h
  rcases h with rfl | rfl | rfl <;> rfl
/-- The cells of a list that lay there lie there still. -/
theorem IntsAt.news {w w1 : World} {ad : Addr} {zs : List Int} (h : IntsAt w.heap.size w (some ad) zs) (hb : Below w.heap.size w w1) : ∀ j u, (intCells zs)[j]? = some u → w1.cell? (ad.add j) = some u := by
  intro j u hu
  rcases h with rfl | ⟨b, off, hb', hlt, hc⟩
  · simp [intCells] at hu
  · obtain rfl : ad = ⟨b, off, none⟩ := by simpa using hb'
    have hj : j < zs.length := by
      obtain ⟨hj, _⟩ := List.getElem?_eq_some_iff.1 hu
      simpa [intCells] using hj
    rw [add_none, hb.cell (p := ⟨b, off + j, none⟩) hlt, hc j hj]
    simp [intCells, hj] at hu
    simp [List.getD, hj, hu]
theorem OpsAt.news {w w1 : World} {ad : Addr} {zs : List OpL} (h : OpsAt w (some ad) zs) (hb : Below w.heap.size w w1) : ∀ j u, (opsCells zs)[j]? = some u → w1.cell? (ad.add j) = some u := by
  intro j u hu
  rcases h with rfl | ⟨b, off, hb', hlt, hc⟩
  · simp [opsCells] at hu
  · obtain rfl : ad = ⟨b, off, none⟩ := by simpa using hb'
    have hj : j < zs.length * 3 := by
      obtain ⟨hj, _⟩ := List.getElem?_eq_some_iff.1 hu
      rw [opsCells_len] at hj
      exact hj
    obtain ⟨g0, g1, g2⟩ := opsCells_get zs (j / 3) (by omega)
    obtain ⟨c0, c1, c2⟩ := hc (j / 3) (by omega)
    rw [add_none, hb.cell (p := ⟨b, off + j, none⟩) hlt]
    have h3 : j = j / 3 * 3 ∨ j = j / 3 * 3 + 1 ∨ j = j / 3 * 3 + 2 := by omega
    rcases h3 with e | e | e
    · rw [e] at hu ⊢; rw [c0]; rw [g0] at hu; exact hu
    · rw [e] at hu ⊢; rw [← Nat.add_assoc, c1]; rw [g1] at hu; exact hu
    · rw [e] at hu ⊢; rw [← Nat.add_assoc, c2]; rw [g2] at hu; exact hu

set_option maxRecDepth 100000 in
set_option maxHeartbeats 400000 in
theorem cloneI_any (a : Option Addr) (cap : Nat) (zs : List Int) (w : World) (h : SlInts w a cap zs) (hl : zs.length * 8 ≤ 140737488355328) :
    Calls Try.prog 86 #[.slice a zs.length cap] w fun e w' => ∃ v, e = .returned v ∧ CloneI w w' v zs := by
  obtain ⟨i0, hi, hz0, hz1, hz2⟩ := info_parts Try.infoInt
  have he := fun w => Go.Lib.run_eql_slice_nil (P := Try.prog) w 23 3 a zs.length cap 0 0 Try.underlying23
  cases a with
  | none =>
    obtain ⟨h1, rfl⟩ := h.2.2.2 rfl
    obtain rfl := List.eq_nil_of_length_eq_zero h1
    simp only [Option.isNone_none, List.length_nil] at he
    go_enter Try.func86, Try.ntmps86
    go_wp2
    go_ret
    exact ⟨_, rfl, World.ownsRow_nil _ _ _ _, fun _ => ⟨_, rfl⟩, Below.refl _ _⟩
  | some ad =>
    simp only [Option.isNone_some] at he
    obtain ⟨hz, hm, hc, _⟩ := h
    have HB : Hid (Below w.heap.size w (w.alloc (.cells #[] 3))) := (Below.refl _ _).alloc (Nat.le_refl _) _
    have HZ : Hid (IntsAt w.heap.size w (some ad) zs) := hz
    clear hz
    by_cases h0 : zs.length = 0
    · obtain rfl := List.eq_nil_of_length_eq_zero h0
      simp only [List.length_nil] at he
      go_enter Try.func86, Try.ntmps86
      go_wp2_with (first
        | (at_builtin; refine wpList_append_fits_any _ rfl _ _ 23 rfl w.heap.size 3 i0 1 Try.underlying23 hi hz1 w.heap.size 0 0 [] rfl (World.ownsRow_made (e := 3) (size := 1) w #[] 0 (Nat.le_refl _) (by decide) rfl) (some ad) 0 cap [] rfl rfl (fun h => by cases h) (fun _ _ j u hj => by simp at hj) (by simp) (Nat.le_refl _) ?_; intro w2 hown hg)
        | go_in)
      go_wp2
      go_ret
      exact ⟨_, rfl, hown, fun _ => ⟨_, rfl⟩, HB.out.grown hg (by rw [size_push]; omega) (by intro k hk; cases hk; exact Nat.le_refl _)⟩
    · go_enter Try.func86, Try.ntmps86
      go_wp2_with (first
        | (at_builtin; refine wpList_append_own _ rfl _ _ 23 rfl w.heap.size 3 i0 (.int .i64 0) 1 8 Try.underlying23 hi hz0 hz1 hz2 rfl (by decide) _ _ _ rfl (World.ownsRow_made (e := 3) (size := 1) w #[] 0 (Nat.le_refl _) (by decide) rfl) ad zs.length cap (intCells zs) rfl ?c1 ?c2 ?c3 ?c4 ?c5 ?c6 ?_)
        | go_in)
      case c1 => simp [intCells]
      case c2 => exact HZ.out.news HB.out
      case c3 => exact intCells_one zs
      case c4 => unfold maxLen; omega
      case c5 => omega
      case c6 => rw [size_push]; omega
      · intro v' w2 hown hg _
        go_wp2
        go_ret
        refine ⟨_, rfl, ?_, fun h => absurd h h0, HB.out.grown hg (by rw [size_push]; omega) (by intro k hk; cases hk; exact Nat.le_refl _)⟩
        simpa using hown

set_option maxRecDepth 100000 in
set_option maxHeartbeats 400000 in
theorem cloneO_any (a : Option Addr) (cap : Nat) (zs : List OpL) (w : World) (h : SlOps w a cap zs) (hl : zs.length * 24 ≤ 140737488355328) :
    Calls Try.prog 91 #[.slice a zs.length cap] w fun e w' => ∃ v, e = .returned v ∧ CloneO w w' v zs := by
  obtain ⟨i0, hi, hz0, hz1, hz2⟩ := info_parts Try.infoOp
  have he := fun w => Go.Lib.run_eql_slice_nil (P := Try.prog) w 35 108 a zs.length cap 0 0 Try.underlying35
  cases a with
  | none =>
    obtain ⟨h1, rfl⟩ := h.2.2.2 rfl
    obtain rfl := List.eq_nil_of_length_eq_zero h1
    simp only [Option.isNone_none, List.length_nil] at he
    go_enter Try.func91, Try.ntmps91
    go_wp2
    go_ret
    exact ⟨_, rfl, World.ownsRow_nil _ _ _ _, fun _ => ⟨_, rfl⟩, Below.refl _ _⟩
  | some ad =>
    simp only [Option.isNone_some] at he
    obtain ⟨hz, hm, hc, _⟩ := h
    have HB : Hid (Below w.heap.size w (w.alloc (.cells #[] 108))) := (Below.refl _ _).alloc (Nat.le_refl _) _
    have HZ : Hid (OpsAt w (some ad) zs) := hz
    clear hz
    by_cases h0 : zs.length = 0
    · obtain rfl := List.eq_nil_of_length_eq_zero h0
      simp only [List.length_nil] at he
      go_enter Try.func91, Try.ntmps91
      go_wp2_with (first
        | (at_builtin; refine wpList_append_fits_any _ rfl _ _ 35 rfl w.heap.size 108 i0 3 Try.underlying35 hi hz1 w.heap.size 0 0 [] rfl (World.ownsRow_made (e := 108) (size := 3) w #[] 0 (Nat.le_refl _) (by decide) rfl) (some ad) 0 cap [] rfl rfl (fun h => by cases h) (fun _ _ j u hj => by simp at hj) (by simp) (Nat.le_refl _) ?_; intro w2 hown hg)
        | go_in)
      go_wp2
      go_ret
      exact ⟨_, rfl, hown, fun _ => ⟨_, rfl⟩, HB.out.grown hg (by rw [size_push]; omega) (by intro k hk; cases hk; exact Nat.le_refl _)⟩
    · go_enter Try.func91, Try.ntmps91
      go_wp2_with (first
        | (at_builtin; refine wpList_append_own _ rfl _ _ 35 rfl w.heap.size 108 i0 (.agg #[.int .i64 0, .int .i64 0, .int .i64 0]) 3 24 Try.underlying35 hi hz0 hz1 hz2 rfl (by decide) _ _ _ rfl (World.ownsRow_made (e := 108) (size := 3) w #[] 0 (Nat.le_refl _) (by decide) rfl) ad zs.length cap (opsCells zs) rfl ?c1 ?c2 ?c3 ?c4 ?c5 ?c6 ?_)
        | go_in)
      case c1 => exact opsCells_len zs
      case c2 => exact HZ.out.news HB.out
      case c3 => exact opsCells_one zs
      case c4 => unfold maxLen; omega
      case c5 => omega
      case c6 => rw [size_push]; omega
      · intro v' w2 hown hg _
        go_wp2
        go_ret
        refine ⟨_, rfl, ?_, fun h => absurd h h0, HB.out.grown hg (by rw [size_push]; omega) (by intro k hk; cases hk; exact Nat.le_refl _)⟩
        simpa using hown

end Go.Proofs.Ytkoefoccbjhoiab

namespace Go.Proofs.Ytkoefoccbjhoiab
open Go.RowKit

theorem setRow_other (w : World) {g k : Nat} (cs : Array Value) (h : k ≠ g) : (w.setRow g cs).heap[k]? = w.heap[k]? := by
  simp [World.setRow, Array.getElem?_modify]
  intro e; omega
theorem own_same {w w' : World} {b : Nat} {e : TypeId} {size : Nat} {v : Value} {n : Nat} {xs : List Value} (h : w.ownsRow b e size v n xs) (hs : ∀ k, v.ownBlock = some k → w'.heap[k]? = w.heap[k]?) : w'.ownsRow b e size v n xs :=
  ⟨h.1, h.2.imp id fun ⟨g, cap, cur, h1, h2, h3, h4⟩ => ⟨g, cap, cur, h1, h2, by rw [hs g (by rw [h1]; rfl)]; exact h3, h4⟩⟩

theorem rows3 (w : World) (A B C : Obj) : (((w.alloc A).alloc B).alloc C).heap[w.heap.size]? = some A ∧ (((w.alloc A).alloc B).alloc C).heap[w.heap.size + 1]? = some B ∧ (((w.alloc A).alloc B).alloc C).heap[w.heap.size + 2]? = some C := by
  have h1 : (w.alloc A).heap.size = w.heap.size + 1 := size_push _ _
  have h2 : ((w.alloc A).alloc B).heap.size = w.heap.size + 2 := by rw [size_push]; omega
  obtain ⟨r1, r2⟩ := two_rows w A B
  refine ⟨?_, ?_, ?_⟩
  · rw [Below.heap_alloc _ _ _ (by omega)]; exact r1
  · rw [Below.heap_alloc _ _ _ (by omega)]; exact r2
  · rw [show w.heap.size + 2 = ((w.alloc A).alloc B).heap.size by omega]; exact heap_new _ _
theorem Try.infoFrame7 : (Try.prog.info? 43).map (·.size) = some 7 := by kernel_rfl
theorem Try.infoFrameZ : (Try.prog.info? 43).map (fun i => (i.zero, i.size, i.bytes)) = some (some (.agg #[.int .i64 0, .int .i64 0, .int .i64 0, .slice none 0 0, .slice none 0 0, .slice none 0 0, .slice none 0 0]), 7, 120) := by kernel_rfl
theorem results_row2 {P : Program} {fn : Func} {p q r : Tmp} {ty : TypeId} (h : fn.results = #[.cell p ty, .tmp q, .tmp r]) (tmps : Array Value) (w : World) (g : Nat) (t : TypeId) (cs : Array Value) (fr : Nat × Nat) (d : TypeDesc)
    (hp : tmps.getD p undef = .pointer (some ⟨g, 0, none⟩)) (hg : w.heap[g]? = some (.cells cs t fr)) (hu : P.underlying ty = some d) (hd : (match d with | .struct _ | .array _ _ => true | _ => false) = true) (hi : (P.info? ty).map (·.size) = some cs.size)
    (x y : Value) (hx : tmps.getD q undef = x) (hy : tmps.getD r undef = y) : (results fn tmps).run P w = .ok (.tuple #[.agg cs, x, y]) w := by
  have hp' : tmps[p]?.getD undef = .pointer (some ⟨g, 0, none⟩) := by simpa using hp
  have hx' : tmps[q]?.getD undef = x := by simpa using hx
  have hy' : tmps[r]?.getD undef = y := by simpa using hy
  simp [results, h, hp', hx', hy', asAddr, run_loadVar_row w g t ty cs fr d hg hu hd hi]

/-- A frame whose lists lie below B. -/
def FrameB (B : Nat) (w : World) (v : Value) (f : FrameL) : Prop := ∃ a3 c3 a4 c4 a5 c5 a6 c6,
  v = .agg #[.int .i64 f.kind, .int .i64 f.node, .int .i64 f.id, .slice a3 f.ops.length c3, .slice a4 f.deps.length c4, .slice a5 f.ats.length c5, .slice a6 f.vals.length c6] ∧
  (SlOps w a3 c3 f.ops ∧ OpsIn (· < B) w a3 f.ops) ∧ (SlInts w a4 c4 f.deps ∧ IntsIn (· < B) w a4 f.deps) ∧ (SlInts w a5 c5 f.ats ∧ IntsIn (· < B) w a5 f.ats) ∧ (SlInts w a6 c6 f.vals ∧ IntsIn (· < B) w a6 f.vals)
theorem FrameV.b {w : World} {v : Value} {f : FrameL} (h : FrameV w v f) : FrameB w.heap.size w v f := by
  obtain ⟨a3, c3, a4, c4, a5, c5, a6, c6, e, h3, h4, h5, h6⟩ := h
  exact ⟨a3, c3, a4, c4, a5, c5, a6, c6, e, ⟨h3, h3.1⟩, ⟨h4, h4.1⟩, ⟨h5, h5.1⟩, ⟨h6, h6.1⟩⟩
theorem FrameB.v {B : Nat} {w : World} {v : Value} {f : FrameL} (h : FrameB B w v f) : FrameV w v f := by
  obtain ⟨a3, c3, a4, c4, a5, c5, a6, c6, e, h3, h4, h5, h6⟩ := h
  exact ⟨a3, c3, a4, c4, a5, c5, a6, c6, e, h3.1, h4.1, h5.1, h6.1⟩
theorem slI_later {B : Nat} {w w' : World} {a : Option Addr} {cap : Nat} {zs : List Int} (h : SlInts w a cap zs ∧ IntsIn (· < B) w a zs) (hb : Below B w w') : SlInts w' a cap zs ∧ IntsIn (· < B) w' a zs := by
  have h2 := h.2.later (w' := w') (fun k _ hk => hb.block k hk)
  exact ⟨⟨h2.at, h.1.2⟩, h2⟩
theorem slO_later {B : Nat} {w w' : World} {a : Option Addr} {cap : Nat} {zs : List OpL} (h : SlOps w a cap zs ∧ OpsIn (· < B) w a zs) (hb : Below B w w') : SlOps w' a cap zs ∧ OpsIn (· < B) w' a zs := by
  have h2 := h.2.later (w' := w') (fun k _ hk => hb.block k hk)
  exact ⟨⟨h2.at, h.1.2⟩, h2⟩
theorem FrameB.later {B : Nat} {w w' : World} {v : Value} {f : FrameL} (h : FrameB B w v f) (hb : Below B w w') : FrameB B w' v f := by
  obtain ⟨a3, c3, a4, c4, a5, c5, a6, c6, e, h3, h4, h5, h6⟩ := h
  exact ⟨a3, c3, a4, c4, a5, c5, a6, c6, e, slO_later h3 hb, slI_later h4 hb, slI_later h5 hb, slI_later h6 hb⟩
/-- A frame whose lists lie from B on. -/
def FrameG (B : Nat) (w : World) (v : Value) (f : FrameL) : Prop := ∃ a3 c3 a4 c4 a5 c5 a6 c6,
  v = .agg #[.int .i64 f.kind, .int .i64 f.node, .int .i64 f.id, .slice a3 f.ops.length c3, .slice a4 f.deps.length c4, .slice a5 f.ats.length c5, .slice a6 f.vals.length c6] ∧
  (SlOps w a3 c3 f.ops ∧ OpsIn (B ≤ ·) w a3 f.ops) ∧ (SlInts w a4 c4 f.deps ∧ IntsIn (B ≤ ·) w a4 f.deps) ∧ (SlInts w a5 c5 f.ats ∧ IntsIn (B ≤ ·) w a5 f.ats) ∧ (SlInts w a6 c6 f.vals ∧ IntsIn (B ≤ ·) w a6 f.vals)
theorem slI_same {ok : Nat → Prop} {w w' : World} {a : Option Addr} {cap : Nat} {zs : List Int} (h : SlInts w a cap zs ∧ IntsIn ok w a zs) (hb : SameOn ok w w') : SlInts w' a cap zs ∧ IntsIn ok w' a zs := by
  have h2 := h.2.later hb
  exact ⟨⟨h2.at, h.1.2⟩, h2⟩
theorem slO_same {ok : Nat → Prop} {w w' : World} {a : Option Addr} {cap : Nat} {zs : List OpL} (h : SlOps w a cap zs ∧ OpsIn ok w a zs) (hb : SameOn ok w w') : SlOps w' a cap zs ∧ OpsIn ok w' a zs := by
  have h2 := h.2.later hb
  exact ⟨⟨h2.at, h.1.2⟩, h2⟩
theorem FrameG.same {B : Nat} {w w' : World} {v : Value} {f : FrameL} (h : FrameG B w v f) (hb : SameOn (B ≤ ·) w w') : FrameG B w' v f := by
  obtain ⟨a3, c3, a4, c4, a5, c5, a6, c6, e, h3, h4, h5, h6⟩ := h
  exact ⟨a3, c3, a4, c4, a5, c5, a6, c6, e, slO_same h3 hb, slI_same h4 hb, slI_same h5 hb, slI_same h6 hb⟩
theorem FrameG.mono {B B' : Nat} {w : World} {v : Value} {f : FrameL} (h : FrameG B w v f) (hB : B' ≤ B) : FrameG B' w v f := by
  obtain ⟨a3, c3, a4, c4, a5, c5, a6, c6, e, h3, h4, h5, h6⟩ := h
  have m : ∀ k, k < w.heap.size → B ≤ k → B' ≤ k := fun k _ (h : B ≤ k) => by omega
  exact ⟨a3, c3, a4, c4, a5, c5, a6, c6, e, ⟨h3.1, h3.2.mono m⟩, ⟨h4.1, h4.2.mono m⟩, ⟨h5.1, h5.2.mono m⟩, ⟨h6.1, h6.2.mono m⟩⟩
theorem slI_nil (ok : Nat → Prop) (w : World) : SlInts w none 0 [] ∧ IntsIn ok w none [] := ⟨⟨Or.inl rfl, Nat.zero_le _, Nat.le_refl _, fun _ => ⟨rfl, rfl⟩⟩, Or.inl rfl⟩
theorem slO_nil (ok : Nat → Prop) (w : World) : SlOps w none 0 [] ∧ OpsIn ok w none [] := ⟨⟨Or.inl rfl, Nat.zero_le _, Nat.le_refl _, fun _ => ⟨rfl, rfl⟩⟩, Or.inl rfl⟩
theorem slI_own {B b0 : Nat} {w : World} {a : Option Addr} {cap : Nat} {zs : List Int} (h : w.ownsRow b0 3 1 (.slice a zs.length cap) zs.length (intCells zs)) (hB : B ≤ b0) : SlInts w a cap zs ∧ IntsIn (B ≤ ·) w a zs := by
  have h1 := SlInts.of_owns h
  refine ⟨h1, ?_⟩
  rcases h1.1 with e | ⟨b, off, rfl, _, hc⟩
  · exact Or.inl e
  · exact Or.inr ⟨b, off, rfl, Nat.le_trans hB (World.ownsRow.lt h b rfl).1, hc⟩

/-- A list of frames that the call made. -/
def FramesV (B : Nat) (w : World) (v : Value) (fs : List FrameL) : Prop := ∃ css : List (List Value), css.length = fs.length ∧ w.ownsRow B 43 7 v fs.length css.flatten ∧
  (∀ i (h : i < fs.length), (css.getD i []).length = 7 ∧ FrameG B w (.agg (css.getD i []).toArray) fs[i])
theorem FramesV.same {B : Nat} {w w' : World} {v : Value} {fs : List FrameL} (h : FramesV B w v fs) (hb : SameOn (B ≤ ·) w w') : FramesV B w' v fs := by
  obtain ⟨css, h1, h2, h3⟩ := h
  exact ⟨css, h1, own_same h2 (fun k hk => hb k (World.ownsRow.lt h2 k hk).2 (World.ownsRow.lt h2 k hk).1), fun i hi => ⟨(h3 i hi).1, (h3 i hi).2.same hb⟩⟩
theorem FramesV.mono {B B' : Nat} {w : World} {v : Value} {fs : List FrameL} (h : FramesV B w v fs) (hB : B' ≤ B) : FramesV B' w v fs := by
  obtain ⟨css, h1, h2, h3⟩ := h
  exact ⟨css, h1, own_mono h2 hB, fun i hi => ⟨(h3 i hi).1, (h3 i hi).2.mono hB⟩⟩
theorem FramesV.nil (B : Nat) (w : World) : FramesV B w (.slice none 0 0) [] := ⟨[], rfl, World.ownsRow_nil _ _ _ _, fun _ h => by simp at h⟩

end Go.Proofs.Ytkoefoccbjhoiab

namespace Go.Proofs.Ytkoefoccbjhoiab
open Go.RowKit

end Go.Proofs.Ytkoefoccbjhoiab

namespace Go.Proofs.Ytkoefoccbjhoiab
open Go.RowKit

/-- Where they lie. -/
def FrsIn (B : Nat) (w : World) (a : Option Addr) (fs : List FrameL) : Prop := fs = [] ∨ ∃ b off, a = some ⟨b, off, none⟩ ∧ b < B ∧ ∀ i, i < fs.length → ∃ cs, cs.length = 7 ∧ w.rangeAt b (off + i * 7) cs ∧ FrameV w (.agg cs.toArray) (fs.getD i zeroF)
end Go.Proofs.Ytkoefoccbjhoiab

namespace Go.Proofs.Ytkoefoccbjhoiab
open Go.ChangeShapes Go.WideShapes Go.ChangeAt Go.RowKit Go.Deep

section
variable {H : Type} {enc : TypeId × Value → H} {w : World} {base : Nat} {spare : Nat → Bool} {held : Bool}

set_option maxRecDepth 100000 in
theorem open_frame_cells {n : Nat} {cs : List Value} (hl : cs.length = 7) {y : DataW H × List MemPlace} (hf : DataW.trod enc Try.prog w base spare held n 43 cs = some y) : ∃ f, FrameV w (.agg cs.toArray) f := by
  obtain ⟨c0, c1, c2, c3, c4, c5, c6, rfl⟩ := list7 hl
  obtain ⟨xs, n, _, _, _, hxl, hff⟩ := DataW.trod_struct Try.underlying43 hf
  have g0 := hff 0 _ rfl
  have g1 := hff 1 _ rfl
  have g2 := hff 2 _ rfl
  have g3 := hff 3 _ rfl
  have g4 := hff 4 _ rfl
  have g5 := hff 5 _ rfl
  have g6 := hff 6 _ rfl
  simp [Try.cellsInt, Try.cellsOps, Try.cellsInts] at g0 g1 g2 g3 g4 g5 g6
  obtain ⟨x0, x1, x2, x3, x4, x5, x6, rfl⟩ := list7 hxl
  obtain ⟨n0, r0, _, _⟩ := DataW.trod_int Try.underlying3 g0
  obtain ⟨n1, r1, _, _⟩ := DataW.trod_int Try.underlying3 g1
  obtain ⟨n2, r2, _, _⟩ := DataW.trod_int Try.underlying3 g2
  simp at r0 r1 r2
  subst r0 r1 r2
  obtain ⟨a3, d3, z3, rfl, h3⟩ := open_sl_ops g3
  obtain ⟨a4, d4, z4, rfl, h4⟩ := open_sl_ints g4
  obtain ⟨a5, d5, z5, rfl, h5⟩ := open_sl_ints g5
  obtain ⟨a6, d6, z6, rfl, h6⟩ := open_sl_ints g6
  exact ⟨⟨n0, n1, n2, z3, z4, z5, z6⟩, a3, d3, a4, d4, a5, d5, a6, d6, rfl, h3, h4, h5, h6⟩

theorem open_frsIn {fuel : Nat} {a : Option Addr} {len cap : Nat} {x : DataW H × List MemPlace} (h : DataW.trod enc Try.prog w base spare held fuel 46 [.slice a len cap] = some x) :
    len ≤ maxLen ∧ ∃ fs : List FrameL, fs.length = len ∧ FrsIn w.heap.size w a fs := by
  rcases open_slice Try.underlying46 h with ⟨hcs, _⟩ | ⟨x, l, c, m, n, D, Pl, hcs, hb, hl, hm, hmm, _, hx⟩
  · simp at hcs
    obtain ⟨rfl, rfl, rfl⟩ := hcs
    exact ⟨Nat.zero_le _, [], rfl, Or.inl rfl⟩
  · simp at hcs
    obtain ⟨rfl, rfl, rfl⟩ := hcs
    have hlm : len ≤ m := by rw [hmm]; split <;> omega
    have each : ∀ i, i < len → ∃ f : FrameL, ∃ cs : List Value, cs.length = 7 ∧ (∀ j, j < 7 → w.cell? (x.add (i * 7 + j)) = some (cs.getD j (.bool false))) ∧ FrameV w (.agg cs.toArray) f := by
      intro i hi
      obtain ⟨cs', h1, h2⟩ := hx i (by omega)
      rw [Try.cellsFrame] at h1
      obtain ⟨_, hlen, hcell⟩ := World.cells?_some h1
      obtain ⟨f, hf⟩ := open_frame_cells hlen h2
      refine ⟨f, cs', hlen, fun j hj => ?_, hf⟩
      have e := hcell j (by omega)
      rw [add_add] at e
      rw [e]
      simp [List.getD, hlen, hj]
    haveI : Inhabited FrameL := ⟨zeroF⟩
    obtain ⟨Q, hQ⟩ := choose_lt each
    refine ⟨by omega, (List.range len).map Q, by simp, ?_⟩
    by_cases h0 : len = 0
    · left
      simp [h0]
    · right
      obtain ⟨b, off, spot⟩ := x
      obtain ⟨cs0, _, hc0, _⟩ := hQ 0 (by omega)
      have hc0 := hc0 0 (by decide)
      have hs : spot = none := by simpa [Addr.add] using World.cell?_spot hc0
      subst hs
      refine ⟨b, off, rfl, by simpa [Addr.add] using lt_of_cell hc0, fun i hi => ?_⟩
      have hi' : i < len := by simpa using hi
      obtain ⟨cs, h7, hcell, hfv⟩ := hQ i hi'
      have hg : ((List.range len).map Q).getD i zeroF = Q i := by simp [List.getD, hi']
      rw [hg]
      refine ⟨cs, h7, fun j u hu => ?_, hfv⟩
      have hj : j < 7 := by have := (List.getElem?_eq_some_iff.1 hu).1; omega
      have := hcell j hj
      rw [add_none] at this
      rw [Nat.add_assoc, this]
      simp [List.getD, hu]
end

end Go.Proofs.Ytkoefoccbjhoiab

namespace Go.Proofs.Ytkoefoccbjhoiab
open Go.RowKit

end Go.Proofs.Ytkoefoccbjhoiab

namespace Go.Proofs.Ytkoefoccbjhoiab
open Go.RowKit

/-- A new variable of a type whose zero value is known. -/
theorem wpList_alloc_as {P : Program} {w : World} {ops : Array Oper} {rest : List Oper} {o : Oper} {a : Act} {Q : Exit → Act → World → Prop} (hg : o.guard = none) (ty : TypeId) (ho : o.op = .alloc ty) (cs : Array Value) (hz : (P.info? ty).map (·.zero) = some (some (.agg cs)))
    (h : wpList P ops Q rest (a.put o.dst (.pointer (some ⟨w.heap.size, 0, none⟩))) (w.alloc (.cells cs ty))) : wpList P ops Q (o :: rest) a w := by
  refine wpList_plain hg fun K hK => ?_
  cases hq : P.info? ty with
  | none => simp [hq] at hz
  | some i =>
    have hzz : i.zero = some (.agg cs) := by simpa [hq] using hz
    unfold Oper.wp execOp
    simp [ho, Instr.alloc, zeroValue, typeInfo, hq, hzz, newVar, newRow, Value.cells, go_sem]
    exact hK _ _ h

end Go.Proofs.Ytkoefoccbjhoiab

namespace Go.Proofs.Ytkoefoccbjhoiab
open Go.RowKit

/-- An entry's six cells, from the o-th on. -/
structure EntC (ok : Nat → Prop) (w : World) (nv : Nat → Value) (o : Nat) (e : EntryL) : Prop where
  state : nv o = .int .i64 e.state
  ops : IsO ok w (nv (o + 1)) e.ops
  first : IsI ok w (nv (o + 2)) e.first
  deps : IsI ok w (nv (o + 3)) e.deps
  ats : IsI ok w (nv (o + 4)) e.ats
  vals : IsI ok w (nv (o + 5)) e.vals
theorem EntC.later {ok : Nat → Prop} {w w' : World} {nv : Nat → Value} {o : Nat} {e : EntryL} (h : EntC ok w nv o e) (hB : SameOn ok w w') : EntC ok w' nv o e :=
  ⟨h.state, h.ops.later hB, h.first.later hB, h.deps.later hB, h.ats.later hB, h.vals.later hB⟩
theorem EntC.mono {ok ok' : Nat → Prop} {w : World} {nv : Nat → Value} {o : Nat} {e : EntryL} (h : EntC ok w nv o e) (hk : ∀ k, k < w.heap.size → ok k → ok' k) : EntC ok' w nv o e :=
  ⟨h.state, h.ops.mono hk, h.first.mono hk, h.deps.mono hk, h.ats.mono hk, h.vals.mono hk⟩
theorem EntC.same {ok : Nat → Prop} {w : World} {nv nv' : Nat → Value} {o o' : Nat} {e : EntryL} (h : EntC ok w nv o e) (hn : ∀ j, j < 6 → nv' (o' + j) = nv (o + j)) : EntC ok w nv' o' e :=
  ⟨by have := hn 0 (by omega); simp only [Nat.add_zero] at this; rw [this]; exact h.state, by rw [hn 1 (by omega)]; exact h.ops, by rw [hn 2 (by omega)]; exact h.first, by rw [hn 3 (by omega)]; exact h.deps, by rw [hn 4 (by omega)]; exact h.ats, by rw [hn 5 (by omega)]; exact h.vals⟩
theorem EntC.one {ok : Nat → Prop} {w : World} {nv : Nat → Value} {o : Nat} {e : EntryL} (h : EntC ok w nv o e) : ∀ j, j < 6 → (nv (o + j)).oneCell' = true := by
  intro j hj
  match j, hj with
  | 0, _ => rw [Nat.add_zero, h.state]; rfl
  | 1, _ => exact h.ops.one
  | 2, _ => exact h.first.one
  | 3, _ => exact h.deps.one
  | 4, _ => exact h.ats.one
  | 5, _ => exact h.vals.one

/-- All but the order. -/
structure NodeE (ok : Nat → Prop) (w : World) (nv : Nat → Value) (s : NodeL) : Prop where
  ent : ∀ i, i < 32 → EntC ok w nv (i * 6) (s.ent i)
  vals : ∀ k, k < 8 → nv (193 + k) = .int .i64 (s.vals k)
structure NodeC (ok : Nat → Prop) (w : World) (nv : Nat → Value) (s : NodeL) : Prop where
  es : NodeE ok w nv s
  order : IsI ok w (nv 192) s.order
theorem NodeE.later {ok : Nat → Prop} {w w' : World} {nv : Nat → Value} {s : NodeL} (h : NodeE ok w nv s) (hB : SameOn ok w w') : NodeE ok w' nv s := ⟨fun i hi => (h.ent i hi).later hB, h.vals⟩
theorem NodeE.mono {ok ok' : Nat → Prop} {w : World} {nv : Nat → Value} {s : NodeL} (h : NodeE ok w nv s) (hk : ∀ k, k < w.heap.size → ok k → ok' k) : NodeE ok' w nv s := ⟨fun i hi => (h.ent i hi).mono hk, h.vals⟩
theorem NodeC.later {ok : Nat → Prop} {w w' : World} {nv : Nat → Value} {s : NodeL} (h : NodeC ok w nv s) (hB : SameOn ok w w') : NodeC ok w' nv s := ⟨h.es.later hB, h.order.later hB⟩
theorem NodeC.mono {ok ok' : Nat → Prop} {w : World} {nv : Nat → Value} {s : NodeL} (h : NodeC ok w nv s) (hk : ∀ k, k < w.heap.size → ok k → ok' k) : NodeC ok' w nv s := ⟨h.es.mono hk, h.order.mono hk⟩
theorem NodeC.below {w w' : World} {nv : Nat → Value} {s : NodeL} (h : NodeC (· < w.heap.size) w nv s) (hb : Below w.heap.size w w') : NodeC (· < w'.heap.size) w' nv s :=
  (h.later (SameOn.of_size hb)).mono (fun k _ (h : k < w.heap.size) => by have := hb.size; show k < _; omega)
theorem NodeC.any {ok : Nat → Prop} {w : World} {nv : Nat → Value} {s : NodeL} (h : NodeC ok w nv s) : NodeC (· < w.heap.size) w nv s := h.mono (fun _ h _ => h)
theorem NodeC.one {ok : Nat → Prop} {w : World} {nv : Nat → Value} {s : NodeL} (h : NodeC ok w nv s) : ∀ i, i < 201 → (nv i).oneCell' = true := by
  intro i hi
  by_cases h1 : i < 192
  · have := (h.es.ent (i / 6) (by omega)).one (i % 6) (by omega)
    rw [show i / 6 * 6 + i % 6 = i by omega] at this
    exact this
  · by_cases h2 : i = 192
    · subst h2; exact h.order.one
    · have := h.es.vals (i - 193) (by omega)
      rw [show 193 + (i - 193) = i by omega] at this
      rw [this]; rfl

/-- The lists of ints of an entry, by the numbers of their cells; and what a cell may be. -/
def EntryL.nums (e : EntryL) (f : Nat) : List Int := if f = 2 then e.first else if f = 3 then e.deps else if f = 4 then e.ats else e.vals
def fieldOK (ok : Nat → Prop) (w : World) (e : EntryL) (f : Nat) (v : Value) : Prop := if f = 0 then v = .int .i64 e.state else if f = 1 then IsO ok w v e.ops else IsI ok w v (e.nums f)
theorem EntC.get {ok : Nat → Prop} {w : World} {nv : Nat → Value} {o : Nat} {e : EntryL} (h : EntC ok w nv o e) : ∀ f, f < 6 → fieldOK ok w e f (nv (o + f)) := by
  intro f hf
  match f, hf with
  | 0, _ => exact h.state
  | 1, _ => exact h.ops
  | 2, _ => exact h.first
  | 3, _ => exact h.deps
  | 4, _ => exact h.ats
  | 5, _ => exact h.vals
theorem EntC.of {ok : Nat → Prop} {w : World} {nv : Nat → Value} {o : Nat} {e : EntryL} (h : ∀ f, f < 6 → fieldOK ok w e f (nv (o + f))) : EntC ok w nv o e :=
  ⟨h 0 (by omega), h 1 (by omega), h 2 (by omega), h 3 (by omega), h 4 (by omega), h 5 (by omega)⟩
/-- One entry is another one; the cells of all others are as they were. -/
theorem NodeE.change {ok : Nat → Prop} {w : World} {nv nv' : Nat → Value} {s : NodeL} (h : NodeE ok w nv s) {k : Nat} {e' : EntryL} (he : ∀ f, f < 6 → fieldOK ok w e' f (nv' (k * 6 + f)))
    (ho : ∀ i, i < 201 → (i < k * 6 ∨ k * 6 + 6 ≤ i) → i ≠ 192 → nv' i = nv i) (hk : k < 32) (o : List Int) : NodeE ok w nv' ⟨upd s.ent k e', o, s.vals⟩ := by
  refine ⟨fun i hi => ?_, fun j hj => ?_⟩
  · by_cases e : i = k
    · subst e
      show EntC ok w nv' (i * 6) (upd s.ent i e' i)
      rw [upd_same]
      exact EntC.of he
    · show EntC ok w nv' (i * 6) (upd s.ent k e' i)
      rw [upd_other _ _ e]
      exact (h.ent i hi).same (fun j hj => ho _ (by omega) (by omega) (by omega))
  · rw [ho _ (by omega) (by omega) (by omega)]
    exact h.vals j hj
theorem NodeC.put {ok : Nat → Prop} {w : World} {nv : Nat → Value} {s : NodeL} (h : NodeC ok w nv s) {k f : Nat} (hk : k < 32) (hf : f < 6) {v : Value} (hv : fieldOK ok w (s.ent k) f v) : NodeC ok w (fun i => if i = k * 6 + f then v else nv i) s := by
  refine ⟨⟨fun i hi => EntC.of fun g hg => ?_, fun j hj => ?_⟩, ?_⟩
  · show fieldOK ok w (s.ent i) g (if i * 6 + g = k * 6 + f then v else nv (i * 6 + g))
    by_cases e : i * 6 + g = k * 6 + f
    · obtain rfl : i = k := by omega
      obtain rfl : g = f := by omega
      rw [if_pos rfl]
      exact hv
    · rw [if_neg e]
      exact (h.es.ent i hi).get g hg
  · show (if 193 + j = k * 6 + f then v else nv (193 + j)) = _
    rw [if_neg (by omega)]
    exact h.es.vals j hj
  · show IsI ok w (if 192 = k * 6 + f then v else nv 192) _
    rw [if_neg (by omega)]
    exact h.order

theorem Try.infoNode : (Try.prog.info? 41).map (·.size) = some 201 := by kernel_rfl
theorem Try.infoEnts : (Try.prog.info? 38).map (·.size) = some 192 := by kernel_rfl
theorem Try.infoEntry : (Try.prog.info? 37).map (·.size) = some 6 := by kernel_rfl

end Go.Proofs.Ytkoefoccbjhoiab
