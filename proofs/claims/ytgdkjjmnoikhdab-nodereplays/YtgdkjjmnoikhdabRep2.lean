/-
  A search behind a pointer, as it lies in memory: one block of 1186 cells, and a stack of its own.
  The contracts of the small functions of package graph.
  The contracts of package graph's include and ahead, and of slices.Index over ints.
  The contract of package graph's ahead.
-/
import Derived.Test.YtgdkjjmnoikhdabRep1
import Derived.Deep.MidRow
import Derived.Laws.StructEq
import Derived.Outline
import Derived.Deep.RegionHeld3
import Derived.Deep.Cut
import Derived.Deep.CutRange
namespace Go.Proofs.Ytgdkjjmnoikhdab
open Go.RowKit

/-- N cells, as the cells of a block. -/
def rowF (N : Nat) (f : Nat → Value) : Array Value := ((List.range N).map f).toArray
theorem rowF_size (N : Nat) (f : Nat → Value) : (rowF N f).size = N := by simp [rowF]
theorem rowF_get {N : Nat} (f : Nat → Value) {i : Nat} (h : i < N) : (rowF N f)[i]? = some (f i) := by simp [rowF, h]
theorem rowF_set {N : Nat} (f : Nat → Value) {m : Nat} (v : Value) : (rowF N f).setIfInBounds m v = rowF N (fun i => if i = m then v else f i) := by
  apply Array.ext_getElem?
  intro i
  rw [Array.getElem?_setIfInBounds]
  by_cases hi : i < N
  · by_cases e : m = i
    · subst e
      simp [rowF, hi]
    · rw [if_neg e]
      simp [rowF, hi, show ¬ i = m from fun h => e h.symm]
  · have h1 : (rowF N f).size ≤ i := by rw [rowF_size]; omega
    have h2 : (rowF N (fun i => if i = m then v else f i)).size ≤ i := by rw [rowF_size]; omega
    rw [Array.getElem?_eq_none h1, Array.getElem?_eq_none h2]
    simp
    omega
theorem rowF_congr {N : Nat} {f g : Nat → Value} (h : ∀ i, i < N → f i = g i) : rowF N f = rowF N g := by
  unfold rowF
  rw [List.map_congr_left fun i hi => h i (List.mem_range.1 hi)]

def BlkAt (N : Nat) (w : World) (c : Nat) (f : Nat → Value) : Prop := ∃ t, w.heap[c]? = some (.cells (rowF N f) t (0, 0))
theorem BlkAt.congr {N : Nat} {w : World} {c : Nat} {f g : Nat → Value} (h : BlkAt N w c f) (e : ∀ i, i < N → f i = g i) : BlkAt N w c g := by
  obtain ⟨t, h⟩ := h
  exact ⟨t, by rw [← rowF_congr e]; exact h⟩
theorem BlkAt.cell {N : Nat} {w : World} {c : Nat} {f : Nat → Value} (h : BlkAt N w c f) {i : Nat} (hi : i < N) : w.cell? ⟨c, i, none⟩ = some (f i) := by
  obtain ⟨t, h⟩ := h
  rw [cell_of_row w c i _ t _ h, rowF_get f hi]
theorem BlkAt.frozen {N : Nat} {w : World} {c : Nat} {f : Nat → Value} (h : BlkAt N w c f) (i : Nat) : w.frozen? ⟨c, i, none⟩ = false := by
  obtain ⟨t, h⟩ := h
  exact frozen_of_row w c i _ t h
theorem BlkAt.put {N : Nat} {w : World} {c : Nat} {f : Nat → Value} (h : BlkAt N w c f) (m : Nat) (v : Value) : BlkAt N (w.setCell ⟨c, m, none⟩ v) c (fun i => if i = m then v else f i) := by
  obtain ⟨t, h⟩ := h
  exact ⟨t, by rw [heap_setCell_same w c m _ t _ h, rowF_set]⟩
theorem BlkAt.lt {N : Nat} {w : World} {c : Nat} {f : Nat → Value} (h : BlkAt N w c f) : c < w.heap.size := by
  obtain ⟨t, h⟩ := h
  by_cases hc : c < w.heap.size
  · exact hc
  · rw [Array.getElem?_eq_none (by omega)] at h
    cases h
theorem BlkAt.later {N B : Nat} {w w' : World} {c : Nat} {f : Nat → Value} (h : BlkAt N w c f) (hb : Below B w w') (hc : c < B) : BlkAt N w' c f := by
  obtain ⟨t, h⟩ := h
  exact ⟨t, by rw [hb.block c hc]; exact h⟩

/-- Part of a block. -/
theorem BlkAt.range {N : Nat} {w : World} {c : Nat} {f : Nat → Value} (h : BlkAt N w c f) {o n : Nat} (ho : o + n ≤ N) : w.rangeAt c o ((List.range n).map fun i => f (o + i)) := by
  intro j v hv
  have hj : j < n := by
    have := (List.getElem?_eq_some_iff.1 hv).1
    simpa using this
  rw [h.cell (by omega)]
  simp [hj] at hv
  rw [hv]
theorem BlkAt.there {N : Nat} {w : World} {c : Nat} {f : Nat → Value} (h : BlkAt N w c f) {o n : Nat} (ho : o + n ≤ N) : w.there c o n := by
  intro j hj
  rw [h.cell (by omega)]
  exact ⟨rfl, h.frozen _⟩
theorem BlkAt.puts {N : Nat} {c : Nat} : ∀ (vs : List Value) (o : Nat) {w : World} {f : Nat → Value}, BlkAt N w c f → o + vs.length ≤ N → BlkAt N (w.setCells c o vs) c (fun i => if o ≤ i ∧ i < o + vs.length then vs.getD (i - o) (.bool false) else f i)
  | [], o, w, f, h, _ => by
    refine h.congr fun i _ => ?_
    rw [if_neg (by simp)]
  | v :: vs, o, w, f, h, hl => by
    rw [World.setCells]
    refine (BlkAt.puts vs (o + 1) (h.put o v) (by simp at hl; omega)).congr fun i _ => ?_
    simp only [List.length_cons]
    by_cases e : i = o
    · subst e
      rw [if_neg (by omega), if_pos rfl, if_pos (by omega)]
      simp
    · by_cases e2 : o + 1 ≤ i ∧ i < o + 1 + vs.length
      · rw [if_pos e2, if_pos (by omega)]
        obtain ⟨k, hk⟩ : ∃ k, i - o = k + 1 := ⟨i - o - 1, by omega⟩
        rw [hk, show i - (o + 1) = k by omega]
        simp
      · rw [if_neg e2, if_neg e, if_neg (by omega)]

def sameB (n : Nat) (S T : Nat → Bool) : Bool := (List.range n).all fun i => S i == T i
theorem sameB_iff {n : Nat} {S T : Nat → Bool} : sameB n S T = true ↔ ∀ i, i < n → S i = T i := by
  unfold sameB
  simp

theorem run_part_bools {P : Program} {e : TypeId} (he : P.underlying e = some .bool) (hi : (P.info? e).map (·.size) = some 1) {n : Nat} (S : Nat → Bool) {k : Nat} (hk : k < n) (w : World) :
    (part e (bools n S) k).run P w = .ok (.bool (S k)) w := by
  cases hq : P.info? e with
  | none => simp [hq] at hi
  | some i =>
    have hs : i.size = 1 := by simpa [hq] using hi
    have hg := bools_get S hk
    simp [part, isAgg, run_underlying he, sizeOf, typeInfo, hq, hs, hg, go_sem]
    try omega

theorem run_equalIn_bools {P : Program} {t e : TypeId} {n : Nat} (d : Nat) (ht : P.underlying t = some (.array n e)) (he : P.underlying e = some .bool) (hi : (P.info? e).map (·.size) = some 1) (S T : Nat → Bool) (w : World) :
    (Op.equalIn (d + 2) t (.agg (bools n S)) (.agg (bools n T))).run P w = .ok (sameB n S T) w := by
  have hsz : ∀ w, (sizeOf e).run P w = .ok 1 w := by
    intro w
    cases hq : P.info? e with
    | none => simp [hq] at hi
    | some i =>
      have hs : i.size = 1 := by simpa [hq] using hi
      simp [sizeOf, typeInfo, hq, hs]
  unfold sameB
  rw [List.range_eq_range', Op.equalIn]
  simp only [Sem.run_bind, run_underlying ht, Result.andThen_ok, hsz, Std.Legacy.Range.forIn_eq_forIn_range', Std.Legacy.Range.size, Nat.sub_zero, Nat.add_sub_cancel, Nat.div_one]
  have hl : ∀ i ∈ List.range' 0 n 1, i < n := fun i hi => by simpa using (List.mem_range'_1.1 hi).2
  generalize List.range' 0 n 1 = l at hl ⊢
  induction l with
  | nil => simp
  | cons i l ih =>
    have hk : i < n := hl i (by simp)
    have px := run_part_bools he hi S hk w
    have py := run_part_bools he hi T hk w
    have pe : (Op.equalIn (d + 1) e (.bool (S i)) (.bool (T i))).run P w = .ok (S i == T i) w := run_equalIn_bool' w d e _ _ he
    simp only [List.forIn_cons, Sem.run_bind, Nat.mul_one, px, py, pe, Result.andThen_ok, List.all_cons]
    cases hb : (S i == T i)
    · simp
    · simp only [Bool.not_true, Bool.false_eq_true, if_false, Sem.run_pure, Result.andThen_ok, Bool.true_and]
      simpa only [Nat.mul_one] using ih fun j hj => hl j (by simp [hj])

/-- A graph: which are known, and what stands ahead of each. -/
structure GraphL where
  known : Nat → Bool
  deps : Nat → List Int
/-- What stands right ahead, as far as that is known. -/
def GraphL.adj (g : GraphL) (x y : Nat) : Bool := decide (x < 32) && decide (y < 32) && g.known x && (g.deps x).contains (y : Int)
theorem GraphL.adj_lt (g : GraphL) : ∀ x y, g.adj x y = true → y < 32 := by
  intro x y h
  simp [GraphL.adj] at h
  exact h.1.1.2

/-- The 64 cells of a graph, its lists in blocks below B. -/
structure GraphC (B : Nat) (w : World) (gv : Nat → Value) (g : GraphL) : Prop where
  known : ∀ i, i < 32 → gv i = .bool (g.known i)
  deps : ∀ i, i < 32 → ∃ a cap, gv (32 + i) = .slice a (g.deps i).length cap ∧ IntsAt B w a (g.deps i) ∧ (g.deps i).length ≤ maxLen
theorem GraphC.later {B : Nat} {w w' : World} {gv : Nat → Value} {g : GraphL} (h : GraphC B w gv g) (hb : Below B w w') : GraphC B w' gv g :=
  ⟨h.known, fun i hi => by
    obtain ⟨a, cap, e, h1, h2⟩ := h.deps i hi
    exact ⟨a, cap, e, h1.later hb, h2⟩⟩
theorem GraphC.mono {B B' : Nat} {w : World} {gv : Nat → Value} {g : GraphL} (h : GraphC B w gv g) (hb : B ≤ B') : GraphC B' w gv g :=
  ⟨h.known, fun i hi => by
    obtain ⟨a, cap, e, h1, h2⟩ := h.deps i hi
    exact ⟨a, cap, e, h1.mono hb, h2⟩⟩

/-- The cells of a search. -/
def sCell (gv : Nat → Value) (s : St) (sv : Value) (o : Nat) : Value :=
  if o < 64 then gv o else if o < 65 then .int .i64 s.met else if o < 97 then .int .i64 (s.turn (o - 65)) else if o < 129 then .int .i64 (s.back (o - 97)) else if o < 130 then sv
  else if o < 162 then .bool (s.opn (o - 130)) else .bool (s.reach ((o - 162) / 32) ((o - 162) % 32))
theorem sCell_graph (gv : Nat → Value) (s : St) (sv : Value) {o : Nat} (h : o < 64) : sCell gv s sv o = gv o := by unfold sCell; rw [if_pos h]
theorem sCell_turn (gv : Nat → Value) (s : St) (sv : Value) {n : Nat} (h : n < 32) : sCell gv s sv (65 + n) = .int .i64 (s.turn n) := by
  unfold sCell; rw [if_neg (by omega), if_neg (by omega), if_pos (by omega), show 65 + n - 65 = n by omega]
theorem sCell_back (gv : Nat → Value) (s : St) (sv : Value) {n : Nat} (h : n < 32) : sCell gv s sv (97 + n) = .int .i64 (s.back n) := by
  unfold sCell; rw [if_neg (by omega), if_neg (by omega), if_neg (by omega), if_pos (by omega), show 97 + n - 97 = n by omega]
theorem sCell_opn (gv : Nat → Value) (s : St) (sv : Value) {n : Nat} (h : n < 32) : sCell gv s sv (130 + n) = .bool (s.opn n) := by
  unfold sCell; rw [if_neg (by omega), if_neg (by omega), if_neg (by omega), if_neg (by omega), if_neg (by omega), if_pos (by omega), show 130 + n - 130 = n by omega]
theorem sCell_reach (gv : Nat → Value) (s : St) (sv : Value) {n m : Nat} (hm : m < 32) : sCell gv s sv (162 + n * 32 + m) = .bool (s.reach n m) := by
  unfold sCell; rw [if_neg (by omega), if_neg (by omega), if_neg (by omega), if_neg (by omega), if_neg (by omega), if_neg (by omega), show (162 + n * 32 + m - 162) / 32 = n by omega, show (162 + n * 32 + m - 162) % 32 = m by omega]

/-- A search at block c. -/
def StAt (w : World) (c : Nat) (gv : Nat → Value) (s : St) (sv : Value) : Prop := BlkAt 1186 w c (sCell gv s sv)

theorem StAt.putMet {w : World} {c : Nat} {gv : Nat → Value} {s : St} {sv : Value} (h : StAt w c gv s sv) (m : Nat) : StAt (w.setCell ⟨c, 64, none⟩ (.int .i64 m)) c gv { s with met := m } sv := by
  refine (BlkAt.put h 64 _).congr fun i _ => ?_
  by_cases e : i = 64
  · subst e; rfl
  · rw [if_neg e]; unfold sCell; by_cases h : i < 64
    · rw [if_pos h, if_pos h]
    · simp only [h, show ¬ i < 65 by omega, if_false]
theorem StAt.putTurn {w : World} {c : Nat} {gv : Nat → Value} {s : St} {sv : Value} (h : StAt w c gv s sv) {n : Nat} (hn : n < 32) (m : Nat) : StAt (w.setCell ⟨c, 65 + n, none⟩ (.int .i64 m)) c gv { s with turn := upd s.turn n m } sv := by
  refine (BlkAt.put h (65 + n) _).congr fun i _ => ?_
  by_cases e : i = 65 + n
  · subst e; rw [if_pos rfl, sCell_turn _ _ _ hn]; simp [upd]
  · rw [if_neg e]; unfold sCell
    by_cases h1 : 65 ≤ i ∧ i < 97
    · rw [if_neg (by omega), if_neg (by omega), if_pos (by omega), if_neg (by omega), if_neg (by omega), if_pos (by omega)]
      simp only [upd, if_neg (show ¬ i - 65 = n by omega)]
    · by_cases h2 : i < 65
      · by_cases h3 : i < 64
        · rw [if_pos h3, if_pos h3]
        · rw [if_neg h3, if_neg h3, if_pos h2, if_pos h2]
      · rw [if_neg (by omega), if_neg (by omega), if_neg (by omega), if_neg (show ¬ i < 64 by omega), if_neg (show ¬ i < 65 by omega), if_neg (show ¬ i < 97 by omega)]
theorem StAt.putBack {w : World} {c : Nat} {gv : Nat → Value} {s : St} {sv : Value} (h : StAt w c gv s sv) {n : Nat} (hn : n < 32) (m : Nat) : StAt (w.setCell ⟨c, 97 + n, none⟩ (.int .i64 m)) c gv { s with back := upd s.back n m } sv := by
  refine (BlkAt.put h (97 + n) _).congr fun i _ => ?_
  by_cases e : i = 97 + n
  · subst e; rw [if_pos rfl, sCell_back _ _ _ hn]; simp [upd]
  · rw [if_neg e]; unfold sCell
    by_cases h1 : 97 ≤ i ∧ i < 129
    · rw [if_neg (by omega), if_neg (by omega), if_neg (by omega), if_pos (by omega), if_neg (by omega), if_neg (by omega), if_neg (by omega), if_pos (by omega)]
      simp only [upd, if_neg (show ¬ i - 97 = n by omega)]
    · by_cases h2 : i < 97
      · simp only [h2, if_true]
      · simp only [h2, show ¬ i < 129 by omega, if_false]
theorem StAt.putStack {w : World} {c : Nat} {gv : Nat → Value} {s : St} {sv : Value} (h : StAt w c gv s sv) (sv' : Value) (l : List Nat) : StAt (w.setCell ⟨c, 129, none⟩ sv') c gv { s with stack := l } sv' := by
  refine (BlkAt.put h 129 _).congr fun i _ => ?_
  by_cases e : i = 129
  · subst e; rfl
  · rw [if_neg e]; unfold sCell
    by_cases h2 : i < 129
    · simp only [h2, if_true]
    · simp only [h2, show ¬ i < 130 by omega, if_false]
theorem StAt.putOpn {w : World} {c : Nat} {gv : Nat → Value} {s : St} {sv : Value} (h : StAt w c gv s sv) {n : Nat} (hn : n < 32) (b : Bool) : StAt (w.setCell ⟨c, 130 + n, none⟩ (.bool b)) c gv { s with opn := upd s.opn n b } sv := by
  refine (BlkAt.put h (130 + n) _).congr fun i _ => ?_
  by_cases e : i = 130 + n
  · subst e; rw [if_pos rfl, sCell_opn _ _ _ hn]; simp [upd]
  · rw [if_neg e]; unfold sCell
    by_cases h2 : i < 130
    · simp only [h2, if_true]
    · by_cases h3 : i < 162
      · simp only [h2, h3, if_true, if_false]
        simp only [upd, if_neg (show ¬ i - 130 = n by omega)]
      · simp only [h2, h3, if_false]
theorem StAt.putReach {w : World} {c : Nat} {gv : Nat → Value} {s : St} {sv : Value} (h : StAt w c gv s sv) {n m : Nat} (hm : m < 32) (b : Bool) :
    StAt (w.setCell ⟨c, 162 + n * 32 + m, none⟩ (.bool b)) c gv { s with reach := upd s.reach n (upd (s.reach n) m b) } sv := by
  refine (BlkAt.put h (162 + n * 32 + m) _).congr fun i _ => ?_
  by_cases e : i = 162 + n * 32 + m
  · subst e; rw [if_pos rfl, sCell_reach _ _ _ hm]; simp [upd]
  · rw [if_neg e]; unfold sCell
    by_cases h3 : i < 162
    · simp only [h3, if_true]
    · simp only [h3, if_false]
      by_cases e1 : (i - 162) / 32 = n
      · have : ¬ (i - 162) % 32 = m := by omega
        simp [upd, e1, this]
      · simp [upd, e1]
/-- The truths of row n of the sets. -/
theorem StAt.row {w : World} {c : Nat} {gv : Nat → Value} {s : St} {sv : Value} (h : StAt w c gv s sv) {n : Nat} (hn : n < 32) : w.rangeAt c (162 + n * 32) (bools 32 (s.reach n)).toList := by
  have := BlkAt.range h (o := 162 + n * 32) (n := 32) (by omega)
  have e : (List.range 32).map (fun i => sCell gv s sv (162 + n * 32 + i)) = (bools 32 (s.reach n)).toList := by
    unfold bools
    simp only []
    exact List.map_congr_left fun i hi => sCell_reach gv s sv (List.mem_range.1 hi)
  rw [← e]
  exact this
theorem StAt.putRow {w : World} {c : Nat} {gv : Nat → Value} {s : St} {sv : Value} (h : StAt w c gv s sv) {n : Nat} (hn : n < 32) (T : Nat → Bool) :
    StAt (w.setCells c (162 + n * 32) (bools 32 T).toList) c gv { s with reach := upd s.reach n T } sv := by
  refine (BlkAt.puts (bools 32 T).toList (162 + n * 32) h (by simp [bools_size]; omega)).congr fun i _ => ?_
  have hl : (bools 32 T).toList.length = 32 := by simp [bools]
  rw [hl]
  by_cases e : 162 + n * 32 ≤ i ∧ i < 162 + n * 32 + 32
  · rw [if_pos e]
    obtain ⟨j, rfl⟩ : ∃ j, i = 162 + n * 32 + j := ⟨i - (162 + n * 32), by omega⟩
    have hj : j < 32 := by omega
    rw [sCell_reach _ _ _ hj, show 162 + n * 32 + j - (162 + n * 32) = j by omega]
    simp [bools, upd, hj]
  · rw [if_neg e]; unfold sCell
    by_cases h3 : i < 162
    · simp only [h3, if_true]
    · simp only [h3, if_false]
      have e1 : ¬ (i - 162) / 32 = n := by omega
      simp [upd, e1]

end Go.Proofs.Ytgdkjjmnoikhdab

namespace Go.Proofs.Ytgdkjjmnoikhdab
open Go.RowKit

def txnB' (n : Int) : Bool := decide (0 ≤ n ∧ n < 32)

set_option maxRecDepth 100000 in
set_option maxHeartbeats 400000 in
theorem g_isTxn (n : Int) (w : World) :
    Calls Try.prog 40 #[.int .i64 n] w fun e w' => e = .returned (.bool (txnB' n)) ∧ w' = w := by
  by_cases h1 : 0 ≤ n
  · by_cases h2 : n < 32
    · have E : Hid (txnB' n = true) := by unfold txnB' Hid; simp; omega
      have d1 : decide (0 ≤ n) = true := by simpa using h1
      have d2 : decide (n < 32) = true := by simpa using h2
      go_enter Try.func40, Try.ntmps40
      go_wp2
      go_ret
      exact ⟨ret_bool E.out.symm, rfl⟩
    · have E : Hid (txnB' n = false) := by unfold txnB' Hid; simp; omega
      have d1 : decide (0 ≤ n) = true := by simpa using h1
      have d2 : decide (n < 32) = false := by simpa using h2
      go_enter Try.func40, Try.ntmps40
      go_wp2
      go_ret
      exact ⟨ret_bool E.out.symm, rfl⟩
  · have E : Hid (txnB' n = false) := by unfold txnB' Hid; simp; omega
    have d1 : decide (0 ≤ n) = false := by simpa using h1
    go_enter Try.func40, Try.ntmps40
    go_wp2
    go_ret
    exact ⟨ret_bool E.out.symm, rfl⟩

theorem Try.setGuard : Try.prog.eqGuardType Try.prog.depth 22 = false := by kernel_rfl

theorem bools_len (n : Nat) (S : Nat → Bool) : (bools n S).toList.length = n := by simp [bools]
theorem StAt.drewN {w : World} {c : Nat} {gv : Nat → Value} {s : St} {sv : Value} (h : StAt w c gv s sv) (k : Nat) : StAt (w.drewN k) c gv s sv := h
theorem StAt.drew {w : World} {c : Nat} {gv : Nat → Value} {s : St} {sv : Value} (h : StAt w c gv s sv) : StAt w.drew c gv s sv := h

theorem bools_one (n : Nat) (S : Nat → Bool) : ∀ v ∈ (bools n S).toList, v.oneCell' = true := by
  intro v hv
  simp [bools] at hv
  obtain ⟨i, _, rfl⟩ := hv
  rfl
theorem Try.sizeSet (S : Nat → Bool) : (Try.prog.info? 22).map (·.size) = some (bools 32 S).toList.length := by rw [bools_len]; exact Try.infoSet

/-- In a region that only reads: a load of many cells. -/
theorem wpQuiet_load_mid {P : Program} {ops : Array Oper} {w0 : World} {Q : Act → Prop} {a : Act} {o : Oper} {rest : List Oper} (hw : Region.wanted o (yielded ops a.tmps) = true) (ty : TypeId) (x : Operand) (ho : o.op = .load ty x)
    (b off : Nat) (hx : a.eval x = .pointer (some ⟨b, off, none⟩)) (cs : List Value) (d : TypeDesc) (hc : w0.rangeAt b off cs) (hu : P.underlying ty = some d) (hd : d.isRow = true) (hi : (P.info? ty).map (·.size) = some cs.length)
    (h : wpQuiet P ops (fun w' => ∃ n, w' = w0.drewN n) Q rest (a.put o.dst (.agg cs.toArray))) : wpQuiet P ops (fun w' => ∃ n, w' = w0.drewN n) Q (o :: rest) a := by
  unfold wpQuiet
  rw [if_pos hw]
  refine ⟨.agg cs.toArray, ?_, h⟩
  rintro w' ⟨n, rfl⟩
  unfold Oper.quietAt execOp
  simp only [ho, hx, Instr.loadAt, Instr.sureAddr, Sem.run_bind, Sem.run_pure, Result.andThen_ok, run_loadVar_mid (w0.drewN n) b off ty cs d hc hu hd hi]
  exact ⟨rfl, rfl⟩

set_option maxRecDepth 100000 in
set_option maxHeartbeats 400000 in
theorem together_any (c : Nat) (gv : Nat → Value) (s : St) (sv : Value) (n m : Nat) (hn : n < 32) (hm : m < 32) (w : World) (hs : StAt w c gv s sv) :
    Calls Try.prog 94 #[.pointer (some ⟨c, 0, none⟩), .int .i64 n, .int .i64 m] w fun e w' => e = .returned (.bool (sameB 32 (s.reach n) (s.reach m))) ∧ ∃ k, w' = w.drewN k := by
  have r1 := hs.row hn
  have r2 := hs.row hm
  have hg := Try.setGuard
  have he := fun w => run_equalIn_bools 9998 Try.underlying22 Try.underlying4 Try.infoBool (s.reach n) (s.reach m) w
  have n1 : (0 : Int) ≤ (n : Int) ∧ (n : Int) < 32 := by omega
  have m1 : (0 : Int) ≤ (m : Int) ∧ (m : Int) < 32 := by omega
  go_enter Try.func94, Try.ntmps94
  go_wp2
  refine wp_region_quiet_lit (by kernel_rfl) (by kernel_rfl) ?_
  repeat (quiet_step (fail))
  refine wpQuiet_load_mid (by rfl) _ _ rfl _ _ rfl (bools 32 (s.reach n)).toList _ r1 Try.underlying22 rfl (Try.sizeSet _) ?_
  simp only [Act.put, List.setIfInBounds_toArray, List.set_cons_zero, List.set_cons_succ, Array.toArray_toList]
  repeat (quiet_step (fail))
  refine wpQuiet_load_mid (by rfl) _ _ rfl _ _ rfl (bools 32 (s.reach m)).toList _ r2 Try.underlying22 rfl (Try.sizeSet _) ?_
  simp only [Act.put, List.setIfInBounds_toArray, List.set_cons_zero, List.set_cons_succ, Array.toArray_toList]
  repeat (quiet_step (fail))
  refine wpQuiet_nil ?_
  rintro _ ⟨nq, rfl⟩
  go_wp2
  go_ret
  exact ⟨rfl, _, rfl⟩

end Go.Proofs.Ytgdkjjmnoikhdab

namespace Go.Proofs.Ytgdkjjmnoikhdab
open Go.RowKit

theorem size_push (w : World) (o : Obj) : (w.alloc o).heap.size = w.heap.size + 1 := by show (w.heap.push o).size = _; simp
theorem grown_alloc {w w1 : World} {row : Option Nat} (h : w.grownBy w1 row) (o : Obj) : w.grownBy (w1.alloc o) row :=
  ⟨h.os, h.tape, h.output, by have := h.size; rw [size_push]; omega, fun k hk hr => by rw [Below.heap_alloc _ _ _ (by have := h.size; omega)]; exact h.block k hk hr⟩
theorem grown_put_same {w w1 : World} {c : Nat} (h : w.grownBy w1 (some c)) (o : Nat) (u : Value) : w.grownBy (w1.setCell ⟨c, o, none⟩ u) (some c) :=
  ⟨h.os, h.tape, h.output, by have := h.size; simpa [World.setCell] using this, fun k hk hr => by rw [Below.heap_setCell _ _ _ _ (fun e => hr (by rw [e]))]; exact h.block k hk hr⟩
theorem grown_put_new {w w1 : World} {row : Option Nat} (h : w.grownBy w1 row) {b : Nat} (hb : w.heap.size ≤ b) (o : Nat) (u : Value) : w.grownBy (w1.setCell ⟨b, o, none⟩ u) row :=
  ⟨h.os, h.tape, h.output, by have := h.size; simpa [World.setCell] using this, fun k hk hr => by rw [Below.heap_setCell _ _ _ _ (show k ≠ b by omega)]; exact h.block k hk hr⟩
theorem grown_drew {w w1 : World} {row : Option Nat} (h : w.grownBy w1 row) : w.grownBy w1.drew row := ⟨h.os, h.tape, h.output, h.size, h.block⟩
theorem grown_trans {w w1 w2 : World} {row : Option Nat} (h : w.grownBy w1 row) (k : w1.grownBy w2 row) : w.grownBy w2 row :=
  ⟨k.os.trans h.os, k.tape.trans h.tape, k.output.trans h.output, Nat.le_trans h.size k.size, fun i hi hr => (k.block i (Nat.lt_of_lt_of_le hi h.size) hr).trans (h.block i hi hr)⟩
theorem grown_below {w w1 : World} {c : Nat} (h : w.grownBy w1 (some c)) (hc : c < w.heap.size) : Below c w w1 :=
  (Below.refl _ _).grown h (by omega) (by intro k hk; cases hk; exact Nat.le_refl _)
theorem below_grown {w w1 : World} (h : Below w.heap.size w w1) (row : Option Nat) : w.grownBy w1 row := ⟨h.os, h.tape, h.output, h.size, fun k hk _ => h.block k hk⟩
theorem StAt.later {w w1 : World} {c B : Nat} {gv : Nat → Value} {s : St} {sv : Value} (h : StAt w c gv s sv) (hb : Below B w w1) (hc : c < B) : StAt w1 c gv s sv := BlkAt.later h hb hc
theorem StAt.lt {w : World} {c : Nat} {gv : Nat → Value} {s : St} {sv : Value} (h : StAt w c gv s sv) : c < w.heap.size := BlkAt.lt h
theorem StAt.alloc {w : World} {c : Nat} {gv : Nat → Value} {s : St} {sv : Value} (h : StAt w c gv s sv) (o : Obj) : StAt (w.alloc o) c gv s sv :=
  h.later (B := w.heap.size) ((Below.refl _ _).alloc (Nat.le_refl _) _) h.lt

def inclTo (s : St) (n : Nat) (T : Nat → Bool) (k : Nat) : St := { s with reach := upd s.reach n (fun j => s.reach n j || (decide (j < k) && T j)) }
theorem inclTo_zero (s : St) (n : Nat) (T : Nat → Bool) : inclTo s n T 0 = s := by
  unfold inclTo
  have : upd s.reach n (fun j => s.reach n j || (decide (j < 0) && T j)) = s.reach := by
    funext i j
    unfold upd
    split
    · rename_i e; subst e; simp
    · rfl
  rw [this]
theorem inclTo_hit (s : St) (n : Nat) (T : Nat → Bool) (k : Nat) (h : T k = true) : ({ inclTo s n T k with reach := upd (inclTo s n T k).reach n (upd ((inclTo s n T k).reach n) k true) } : St) = inclTo s n T (k + 1) := by
  unfold inclTo
  simp only [upd_same]
  congr 1
  funext i j
  unfold upd
  by_cases e : i = n
  · simp only [e, if_true]
    by_cases e2 : j = k
    · subst e2; simp [h]
    · have : decide (j < k + 1) = decide (j < k) := by rw [Bool.eq_iff_iff]; simp; omega
      simp [e2, this]
  · simp [e]
theorem inclTo_miss (s : St) (n : Nat) (T : Nat → Bool) (k : Nat) (h : T k = false) : inclTo s n T (k + 1) = inclTo s n T k := by
  unfold inclTo
  congr 2
  funext j
  by_cases e2 : j = k
  · subst e2; simp [h]
  · have : decide (j < k + 1) = decide (j < k) := by rw [Bool.eq_iff_iff]; simp; omega
    rw [this]
theorem StAt.same {w : World} {c : Nat} {gv : Nat → Value} {s s' : St} {sv : Value} (h : StAt w c gv s sv) (h1 : s.met = s'.met) (h2 : ∀ i, i < 32 → s.turn i = s'.turn i) (h3 : ∀ i, i < 32 → s.back i = s'.back i) (h4 : ∀ i, i < 32 → s.opn i = s'.opn i)
    (h5 : ∀ i j, i < 32 → j < 32 → s.reach i j = s'.reach i j) : StAt w c gv s' sv := by
  refine BlkAt.congr h fun i hi => ?_
  unfold sCell
  repeat' split
  · rfl
  · rw [h1]
  · rw [h2 _ (by omega)]
  · rw [h3 _ (by omega)]
  · rfl
  · rw [h4 _ (by omega)]
  · rw [h5 _ _ (by omega) (by omega)]

set_option maxRecDepth 100000 in
set_option maxHeartbeats 400000 in
theorem incl_any (c : Nat) (gv : Nat → Value) (s : St) (sv : Value) (n : Nat) (hn : n < 32) (T : Nat → Bool) (w : World) (hs : StAt w c gv s sv) :
    Calls Try.prog 92 #[.pointer (some ⟨c, 162 + n * 32, none⟩), .agg (bools 32 T)] w fun e w' => e = .returned (.tuple #[]) ∧ StAt w' c gv { s with reach := upd s.reach n (fun j => s.reach n j || T j) } sv ∧ w.grownBy w' (some c) := by
  have hlt := hs.lt
  go_enter Try.func92, Try.ntmps92
  go_wp2_with (refine wpList_load_row rfl 22 _ rfl w.heap.size rfl 22 (bools 32 T) (0, 0) _ (heap_new _ _) Try.underlying22 rfl (by rw [bools_size]; exact Try.infoSet) ?_)
  have hg0 : w.grownBy (w.alloc (.cells (bools 32 T) 22)) (some c) := grown_alloc (World.grownBy.refl _ _) _
  have hs0 := hs.alloc (.cells (bools 32 T) 22)
  rw [← inclTo_zero s n T] at hs0
  clear hs
  go_loopw [7] (fun i wr => ∃ k : Nat, k ≤ 32 ∧ i = .int .i64 k ∧ StAt wr c gv (inclTo s n T k) sv ∧ w.grownBy wr (some c)) (fun i _ => 32 - (intOf i).toNat)
  case atStart => exact ⟨0, Nat.zero_le _, rfl, hs0, hg0⟩
  case round =>
    obtain ⟨k, hk, rfl, hS, hG⟩ := hrel
    clear hs0 hg0
    by_cases hlt : k < 32
    · have hix := fun wx => run_index_bools Try.underlying22 Try.underlying4 Try.infoBool T hlt wx
      cases tk : T k
      · rw [tk] at hix
        have HM : Hid (inclTo s n T (k + 1) = inclTo s n T k) := inclTo_miss s n T k tk
        go_wp2
        go_roundw
        case rel => exact ⟨k + 1, by omega, by go_num, by rw [HM.out]; exact hS, hG⟩
        case measure => simp [intOf]; omega
      · rw [tk] at hix
        have c0 : wr.cell? ⟨c, 162 + n * 32 + k, none⟩ = some (.bool ((inclTo s n T k).reach n k)) := by rw [BlkAt.cell hS (by omega), sCell_reach _ _ _ hlt]
        have f0 : wr.frozen? ⟨c, 162 + n * 32 + k, none⟩ = false := BlkAt.frozen hS _
        have HS : Hid (StAt wr c gv (inclTo s n T k) sv) := hS
        have HM : Hid (_ = inclTo s n T (k + 1)) := inclTo_hit s n T k tk
        clear hS
        go_wp2
        go_roundw
        case rel => exact ⟨k + 1, by omega, by go_num, by rw [← HM.out]; exact HS.out.putReach hlt true, grown_put_same hG _ _⟩
        case measure => simp [intOf]; omega
    · go_wp2
      go_end0
      obtain rfl : k = 32 := by omega
      refine ⟨rfl, hS.same rfl (fun _ _ => rfl) (fun _ _ => rfl) (fun _ _ => rfl) (fun i j _ hj => ?_), hG⟩
      unfold inclTo upd
      by_cases e : i = n
      · simp [e, hj]
      · simp [e]

set_option maxRecDepth 100000 in
set_option maxHeartbeats 400000 in
theorem index_any (a : Option Addr) (cap : Nat) (zs : List Int) (n : Int) (i : Nat) (w : World) (hl : zs.length ≤ maxLen) (hz : IntsAt w.heap.size w a zs) (hi : i < zs.length) (hn : zs.getD i 0 = n) (hb : ∀ j, j < i → zs.getD j 0 ≠ n) :
    Calls Try.prog 106 #[.slice a zs.length cap, .int .i64 n] w fun e w' => e = .returned (.int .i64 i) ∧ w' = w := by
  unfold maxLen at hl
  rcases hz with rfl | ⟨b, off, rfl, _, hc⟩
  · simp at hi
  · have h64 : (zs.length : Int) ≤ 9223372036854775807 := by omega
    go_enter Try.func106, Try.ntmps106
    go_wp2
    go_loop [8] (fun v => ∃ k : Nat, k ≤ i ∧ v = .int .i64 k) (fun v => zs.length - (intOf v).toNat)
    case atStart => exact ⟨0, Nat.zero_le _, rfl⟩
    case round =>
      obtain ⟨k, hk, rfl⟩ := hrel
      have hlt : k < zs.length := by omega
      obtain ⟨q, Hq⟩ : ∃ q : Int, Hid (zs.getD k 0 = q) := ⟨_, rfl⟩
      have e0 : w.cell? ⟨b, off + k, none⟩ = some (.int .i64 q) := by rw [← Hq.out]; exact hc k hlt
      clear hc
      by_cases e : k = i
      · subst e
        have hq : (n == q) = true := by rw [← Hq.out, hn]; simp
        go_wp2
        go_ret
        exact ⟨rfl, rfl⟩
      · have hq : (n == q) = false := by
          have := hb k (by omega)
          rw [Hq.out] at this
          exact beq_eq_false_iff_ne.2 (fun h => this h.symm)
        go_wp2
        go_round
        case rel => exact ⟨k + 1, by omega, by go_num⟩
        case measure => simp [intOf]; omega

end Go.Proofs.Ytgdkjjmnoikhdab

namespace Go.Proofs.Ytgdkjjmnoikhdab
open Go.RowKit

theorem bools_all (n : Nat) (S : Nat → Bool) : (bools n S).all (·.oneCell') = true := by
  have := all_oneCell_toArray (bools_one n S)
  simpa using this
theorem Try.sizeSet' (S : Nat → Bool) : (Try.prog.info? 22).map (·.size) = some (bools 32 S).size := by rw [bools_size]; exact Try.infoSet
theorem two_rows (w : World) (A B : Obj) : ((w.alloc A).alloc B).heap[w.heap.size]? = some A ∧ ((w.alloc A).alloc B).heap[w.heap.size + 1]? = some B :=
  ⟨heap_alloc2_old w A B, heap_alloc2_new w A B⟩
theorem setRow_below {B : Nat} {a w : World} (h : Below B a w) {g : Nat} (hg : B ≤ g) (cs : Array Value) : Below B a (w.setRow g cs) :=
  ⟨h.os, h.tape, h.output, by rw [size_setRow]; exact h.size, fun k hk => by
    rw [← h.block k hk]
    simp [World.setRow, Array.getElem?_modify]
    intro e; omega⟩
theorem heap_setRow {w : World} {g : Nat} {old cs : Array Value} {t : TypeId} {fr : Nat × Nat} (h : w.heap[g]? = some (.cells old t fr)) : (w.setRow g cs).heap[g]? = some (.cells cs t fr) := by
  simp [World.setRow, Array.getElem?_modify, h]

set_option maxRecDepth 100000 in
set_option maxHeartbeats 400000 in
theorem ahead_any (c : Nat) (gv : Nat → Value) (g : GraphL) (s : St) (sv : Value) (n : Nat) (hn : n < 32) (w : World) (hs : StAt w c gv s sv) (hg : GraphC c w gv g) :
    Calls Try.prog 91 #[.pointer (some ⟨c, 0, none⟩), .int .i64 n] w fun e w' => e = .returned (.agg (bools 32 (g.adj n))) ∧ Below w.heap.size w w' := by
  have hlt := hs.lt
  have n1 : (0 : Int) ≤ (n : Int) ∧ (n : Int) < 32 := by omega
  have k0 : w.cell? ⟨c, n, none⟩ = some (.bool (g.known n)) := by rw [BlkAt.cell hs (by omega), sCell_graph _ _ _ (by omega), hg.known n hn]
  cases hk : g.known n
  · rw [hk] at k0
    have E : Hid (bools 32 (g.adj n) = bools 32 (fun _ => false)) := by
      unfold Hid
      congr 1
      funext j
      simp [GraphL.adj, hk]
    go_enter Try.func91, Try.ntmps91
    go_upto_region 3 with fail
    rw [← Try.zero22]
    obtain ⟨W, hW⟩ : ∃ W, W = (w.alloc (.cells (bools 32 fun _ => false) 22)).alloc (.cells (bools 32 fun _ => false) 22) := ⟨_, rfl⟩
    have hr := two_rows w (.cells (bools 32 fun _ => false) 22) (.cells (bools 32 fun _ => false) 22)
    have hb : Below w.heap.size w W := by rw [hW]; exact ((Below.refl _ _).alloc (Nat.le_refl _) _).alloc (by rw [size_push]; omega) _
    rw [← hW] at hr ⊢
    obtain ⟨hr1, hr2⟩ := hr
    clear hW hs hg k0
    go_wp2_with (first
      | (refine wpList_load_row rfl 22 _ rfl (w.heap.size + 1) rfl 22 (bools 32 fun _ => false) (0, 0) _ hr2 Try.underlying22 rfl (Try.sizeSet' _) ?_)
      | (refine wpList_store_row rfl 22 _ _ rfl w.heap.size (bools 32 fun _ => false) rfl rfl 22 _ hr1 (Try.sizeSet' _) rfl (bools_all _ _) ?_))
    refine bodyPost_ret (v := .agg (bools 32 fun _ => false)) (results_cell_row Try.results91 _ _ w.heap.size 22 _ (0, 0) _ rfl (heap_setRow hr1) Try.underlying22 rfl (Try.sizeSet' _)) rfl ⟨by rw [E.out], setRow_below hb (Nat.le_refl _) _⟩
  · rw [hk] at k0
    obtain ⟨a, cap, hd, hz, hl⟩ := hg.deps n hn
    have d0 : w.cell? ⟨c, 32 + n, none⟩ = some (.slice a (g.deps n).length cap) := by rw [BlkAt.cell hs (by omega), sCell_graph _ _ _ (by omega), hd]
    have E : Hid (bools 32 (g.adj n) = bools 32 (fun j => (g.deps n).contains (j : Int))) := by
      unfold Hid bools
      congr 1
      refine List.map_congr_left fun j hj => ?_
      have := List.mem_range.1 hj
      simp [GraphL.adj, hk, hn, this]
    generalize g.deps n = zs at hz hl d0 E
    clear hd
    have hl' := hl
    unfold maxLen at hl'
    have h64 : (zs.length : Int) ≤ 9223372036854775807 := by omega
    go_enter Try.func91, Try.ntmps91
    go_upto_region 4 with fail
    rw [← Try.zero22]
    obtain ⟨W, hW⟩ : ∃ W, W = (w.alloc (.cells (bools 32 fun _ => false) 22)).alloc (.cells (bools 32 fun _ => false) 22) := ⟨_, rfl⟩
    have hr := two_rows w (.cells (bools 32 fun _ => false) 22) (.cells (bools 32 fun _ => false) 22)
    have hb : Below w.heap.size w W := by rw [hW]; exact ((Below.refl _ _).alloc (Nat.le_refl _) _).alloc (by rw [size_push]; omega) _
    rw [← hW] at hr ⊢
    obtain ⟨hr1, hr2⟩ := hr
    have d1 : W.cell? ⟨c, 32 + n, none⟩ = some (.slice a zs.length cap) := by rw [hb.cell (p := ⟨c, 32 + n, none⟩) hlt]; exact d0
    have hS0 : SetAt 32 W (w.heap.size + 1) (fun _ => false) := ⟨22, hr2⟩
    have hz' : IntsAt w.heap.size w a zs := hz.mono (by omega)
    clear hW hs hg k0 d0 hr2 hz
    rcases hz' with rfl | ⟨b, off, rfl, hbb, hc⟩
    · go_wp2_with fail
      refine wp_loop_rounds 1 ?_; rw [rounds_succ]
      obtain ⟨t, hS0⟩ := hS0
      go_wp2_with (first
        | (refine wpList_load_row rfl 22 _ rfl (w.heap.size + 1) rfl t (bools 32 fun _ => false) (0, 0) _ hS0 Try.underlying22 rfl (Try.sizeSet' _) ?_)
        | (refine wpList_store_row rfl 22 _ _ rfl w.heap.size (bools 32 fun _ => false) rfl rfl 22 _ hr1 (Try.sizeSet' _) rfl (bools_all _ _) ?_))
      refine bodyPost_ret (v := .agg (bools 32 fun _ => false)) (results_cell_row Try.results91 _ _ w.heap.size 22 _ (0, 0) _ rfl (heap_setRow hr1) Try.underlying22 rfl (Try.sizeSet' _)) rfl ⟨by rw [E.out]; rfl, setRow_below hb (Nat.le_refl _) _⟩
    · go_wp2_with fail
      go_loopw [23] (fun i wr => ∃ k : Nat, k ≤ zs.length ∧ i = .int .i64 k ∧ SetAt 32 wr (w.heap.size + 1) (fun i => (zs.take k).contains (i : Int)) ∧ Below w.heap.size w wr ∧ wr.heap[w.heap.size]? = some (.cells (bools 32 fun _ => false) 22 (0, 0))) (fun i _ => zs.length - (intOf i).toNat)
      case atStart => exact ⟨0, Nat.zero_le _, rfl, hS0.congr (by simp), hb, hr1⟩
      case round =>
        obtain ⟨k, hk', rfl, hS, hBw, hr⟩ := hrel
        clear hS0 hr1 d1
        have hsz := hBw.size
        by_cases hlt' : k < zs.length
        · obtain ⟨q, Hq⟩ : ∃ q : Int, Hid (zs.getD k 0 = q) := ⟨_, rfl⟩
          have e0 : wr.cell? ⟨b, off + k, none⟩ = some (.int .i64 q) := by rw [hBw.cell (p := ⟨b, off + k, none⟩) hbb, ← Hq.out]; exact hc k hlt'
          have HC : Hid (∀ i : Nat, (zs.take (k + 1)).contains (i : Int) = ((zs.take k).contains (i : Int) || (i : Int) == q)) := contains_step hlt' Hq.out
          clear hc
          by_cases t1 : 0 ≤ q ∧ q < 32
          · obtain ⟨m, rfl⟩ := Int.eq_ofNat_of_zero_le t1.1
            have hm : m < 32 := by omega
            have tb : txnB' (m : Int) = true := by simp [txnB']; omega
            have f0 := hS.cell hm
            have f1 := hS.frozen m
            have HS : Hid (SetAt 32 wr (w.heap.size + 1) (fun i => (zs.take k).contains (i : Int))) := hS
            have m1 : (0 : Int) ≤ (m : Int) ∧ (m : Int) < 32 := t1
            clear hS
            go_wp2_with (go_at_call 40; refine (g_isTxn _ _).mono ?_; rintro e w' ⟨rfl, rfl⟩)
            go_roundw
            case rel =>
              refine ⟨k + 1, by omega, by go_num, (HS.out.put m true).congr (fun i _ => ?_), hBw.setCell (by simp) _, by rw [heap_setCell_other _ _ _ _ (by simp)]; exact hr⟩
              rw [HC.out]
              have := or_cast false ((zs.take k).contains (i : Int)) i m
              simpa using this
            case measure => simp [intOf]; omega
          · have tb : txnB' q = false := by simp [txnB']; omega
            go_wp2_with (go_at_call 40; refine (g_isTxn _ _).mono ?_; rintro e w' ⟨rfl, rfl⟩)
            go_roundw
            case rel =>
              refine ⟨k + 1, by omega, by go_num, hS.congr (fun i hi => ?_), hBw, hr⟩
              rw [HC.out]
              have : ((i : Int) == q) = false := by simp; omega
              rw [this, Bool.or_false]
            case measure => simp [intOf]; omega
        · have hS' : SetAt 32 wr (w.heap.size + 1) (fun j => zs.contains (j : Int)) := hS.congr (fun i hi => by rw [List.take_of_length_le (by omega)])
          obtain ⟨t, hS'⟩ := hS'
          clear hS
          go_wp2_with (first
            | (refine wpList_load_row rfl 22 _ rfl (w.heap.size + 1) rfl t (bools 32 fun j => zs.contains (j : Int)) (0, 0) _ hS' Try.underlying22 rfl (Try.sizeSet' _) ?_)
            | (refine wpList_store_row rfl 22 _ _ rfl w.heap.size (bools 32 fun j => zs.contains (j : Int)) rfl rfl 22 _ hr (Try.sizeSet' _) rfl (bools_all _ _) ?_))
          refine bodyPost_ret (v := .agg (bools 32 fun j => zs.contains (j : Int))) (results_cell_row Try.results91 _ _ w.heap.size 22 _ (0, 0) _ rfl (heap_setRow hr) Try.underlying22 rfl (Try.sizeSet' _)) rfl ⟨by rw [E.out], setRow_below hBw (Nat.le_refl _) _⟩

end Go.Proofs.Ytgdkjjmnoikhdab
