/-
  A search behind a pointer, as it lies in memory: one block of 1186 cells, and a stack of its own.
-/
import Derived.Test.YtkoefoccbjhoiabBase
import Derived.Test.YtkoefoccbjhoiabGTarjan
import Derived.Deep.MidRow
import Derived.Laws.StructEq
import Derived.Outline
set_option linter.unusedVariables false
set_option linter.unusedSimpArgs false
namespace Go.Proofs.Ytkoefoccbjhoiab
open Go.RowKit

/-- N cells, as the cells of a block. -/
def rowF (N : Nat) (f : Nat → Value) : Array Value := ((List.range N).map f).toArray
theorem rowF_size (N : Nat) (f : Nat → Value) : (rowF N f).size = N := by simp [rowF]
theorem rowF_get {N : Nat} (f : Nat → Value) {i : Nat} (h : i < N) : (rowF N f)[i]? = some (f i) := by simp [rowF, h]
theorem rowF_set {N : Nat} (f : Nat → Value) {m : Nat} (v : Value) : (rowF N f).setIfInBounds m v = rowF N (fun i => if i = m then v else f i) := by
  apply Array.ext_getElem?
  intro i
  rw [Array.getElem?_setIfInBounds]
  by_cases hi : i < N
  · by_cases e : m = i
    · subst e
      simp [rowF, hi]
    · rw [if_neg e]
      simp [rowF, hi, show ¬ i = m from fun h => e h.symm]
  · have h1 : (rowF N f).size ≤ i := by rw [rowF_size]; omega
    have h2 : (rowF N (fun i => if i = m then v else f i)).size ≤ i := by rw [rowF_size]; omega
    rw [Array.getElem?_eq_none h1, Array.getElem?_eq_none h2]
    simp
    omega
theorem rowF_congr {N : Nat} {f g : Nat → Value} (h : ∀ i, i < N → f i = g i) : rowF N f = rowF N g := by
  unfold rowF
  rw [List.map_congr_left fun i hi => h i (List.mem_range.1 hi)]

def BlkAt (N : Nat) (w : World) (c : Nat) (f : Nat → Value) : Prop := ∃ t, w.heap[c]? = some (.cells (rowF N f) t (0, 0))
theorem BlkAt.congr {N : Nat} {w : World} {c : Nat} {f g : Nat → Value} (h : BlkAt N w c f) (e : ∀ i, i < N → f i = g i) : BlkAt N w c g := by
  obtain ⟨t, h⟩ := h
  exact ⟨t, by rw [← rowF_congr e]; exact h⟩
theorem BlkAt.cell {N : Nat} {w : World} {c : Nat} {f : Nat → Value} (h : BlkAt N w c f) {i : Nat} (hi : i < N) : w.cell? ⟨c, i, none⟩ = some (f i) := by
  obtain ⟨t, h⟩ := h
  rw [cell_of_row w c i _ t _ h, rowF_get f hi]
theorem BlkAt.frozen {N : Nat} {w : World} {c : Nat} {f : Nat → Value} (h : BlkAt N w c f) (i : Nat) : w.frozen? ⟨c, i, none⟩ = false := by
  obtain ⟨t, h⟩ := h
  exact frozen_of_row w c i _ t h
theorem BlkAt.put {N : Nat} {w : World} {c : Nat} {f : Nat → Value} (h : BlkAt N w c f) (m : Nat) (v : Value) : BlkAt N (w.setCell ⟨c, m, none⟩ v) c (fun i => if i = m then v else f i) := by
  obtain ⟨t, h⟩ := h
  exact ⟨t, by rw [heap_setCell_same w c m _ t _ h, rowF_set]⟩
theorem BlkAt.lt {N : Nat} {w : World} {c : Nat} {f : Nat → Value} (h : BlkAt N w c f) : c < w.heap.size := by
  obtain ⟨t, h⟩ := h
  by_cases hc : c < w.heap.size
  · exact hc
  · rw [Array.getElem?_eq_none (by omega)] at h
    cases h
theorem BlkAt.later {N B : Nat} {w w' : World} {c : Nat} {f : Nat → Value} (h : BlkAt N w c f) (hb : Below B w w') (hc : c < B) : BlkAt N w' c f := by
  obtain ⟨t, h⟩ := h
  exact ⟨t, by rw [hb.block c hc]; exact h⟩

/-- Part of a block. -/
theorem BlkAt.range {N : Nat} {w : World} {c : Nat} {f : Nat → Value} (h : BlkAt N w c f) {o n : Nat} (ho : o + n ≤ N) : w.rangeAt c o ((List.range n).map fun i => f (o + i)) := by
  intro j v hv
  have hj : j < n := by
    have := (List.getElem?_eq_some_iff.1 hv).1
    simpa using this
  rw [h.cell (by omega)]
  simp [hj] at hv
  rw [hv]
theorem BlkAt.there {N : Nat} {w : World} {c : Nat} {f : Nat → Value} (h : BlkAt N w c f) {o n : Nat} (ho : o + n ≤ N) : w.there c o n := by
  intro j hj
  rw [h.cell (by omega)]
  exact ⟨rfl, h.frozen _⟩
theorem BlkAt.puts {N : Nat} {c : Nat} : ∀ (vs : List Value) (o : Nat) {w : World} {f : Nat → Value}, BlkAt N w c f → o + vs.length ≤ N → BlkAt N (w.setCells c o vs) c (fun i => if o ≤ i ∧ i < o + vs.length then vs.getD (i - o) (.bool false) else f i)
  | [], o, w, f, h, _ => by
    refine h.congr fun i _ => ?_
    rw [if_neg (by simp)]
  | v :: vs, o, w, f, h, hl => by
    rw [World.setCells]
    refine (BlkAt.puts vs (o + 1) (h.put o v) (by simp at hl; omega)).congr fun i _ => ?_
    simp only [List.length_cons]
    by_cases e : i = o
    · subst e
      rw [if_neg (by omega), if_pos rfl, if_pos (by omega)]
      simp
    · by_cases e2 : o + 1 ≤ i ∧ i < o + 1 + vs.length
      · rw [if_pos e2, if_pos (by omega)]
        obtain ⟨k, hk⟩ : ∃ k, i - o = k + 1 := ⟨i - o - 1, by omega⟩
        rw [hk, show i - (o + 1) = k by omega]
        simp
      · rw [if_neg e2, if_neg e, if_neg (by omega)]

theorem bools_row (n : Nat) (S : Nat → Bool) : bools n S = rowF n (fun i => .bool (S i)) := rfl

def sameB (n : Nat) (S T : Nat → Bool) : Bool := (List.range n).all fun i => S i == T i
theorem sameB_iff {n : Nat} {S T : Nat → Bool} : sameB n S T = true ↔ ∀ i, i < n → S i = T i := by
  unfold sameB
  simp

theorem run_part_bools {P : Program} {e : TypeId} (he : P.underlying e = some .bool) (hi : (P.info? e).map (·.size) = some 1) {n : Nat} (S : Nat → Bool) {k : Nat} (hk : k < n) (w : World) :
    (part e (bools n S) k).run P w = .ok (.bool (S k)) w := by
  cases hq : P.info? e with
  | none => simp [hq] at hi
  | some i =>
    have hs : i.size = 1 := by simpa [hq] using hi
    have hg := bools_get S hk
    simp [part, isAgg, run_underlying he, sizeOf, typeInfo, hq, hs, hg, go_sem]
    try omega

theorem run_equalIn_bools {P : Program} {t e : TypeId} {n : Nat} (d : Nat) (ht : P.underlying t = some (.array n e)) (he : P.underlying e = some .bool) (hi : (P.info? e).map (·.size) = some 1) (S T : Nat → Bool) (w : World) :
    (Op.equalIn (d + 2) t (.agg (bools n S)) (.agg (bools n T))).run P w = .ok (sameB n S T) w := by
  have hsz : ∀ w, (sizeOf e).run P w = .ok 1 w := by
    intro w
    cases hq : P.info? e with
    | none => simp [hq] at hi
    | some i =>
      have hs : i.size = 1 := by simpa [hq] using hi
      simp [sizeOf, typeInfo, hq, hs]
  unfold sameB
  rw [List.range_eq_range', Op.equalIn]
  simp only [Sem.run_bind, run_underlying ht, Result.andThen_ok, hsz, Std.Legacy.Range.forIn_eq_forIn_range', Std.Legacy.Range.size, Nat.sub_zero, Nat.add_sub_cancel, Nat.div_one]
  have hl : ∀ i ∈ List.range' 0 n 1, i < n := fun i hi => by simpa using (List.mem_range'_1.1 hi).2
  generalize List.range' 0 n 1 = l at hl ⊢
  induction l with
  | nil => simp
  | cons i l ih =>
    have hk : i < n := hl i (by simp)
    have px := run_part_bools he hi S hk w
    have py := run_part_bools he hi T hk w
    have pe : (Op.equalIn (d + 1) e (.bool (S i)) (.bool (T i))).run P w = .ok (S i == T i) w := run_equalIn_bool' w d e _ _ he
    simp only [List.forIn_cons, Sem.run_bind, Nat.mul_one, px, py, pe, Result.andThen_ok, List.all_cons]
    cases hb : (S i == T i)
    · simp
    · simp only [Bool.not_true, Bool.false_eq_true, if_false, Sem.run_pure, Result.andThen_ok, Bool.true_and]
      simpa only [Nat.mul_one] using ih fun j hj => hl j (by simp [hj])

/-- A graph: which are known, and what stands ahead of each. -/
structure GraphL where
  known : Nat → Bool
  deps : Nat → List Int
/-- What stands right ahead, as far as that is known. -/
def GraphL.adj (g : GraphL) (x y : Nat) : Bool := decide (x < 32) && decide (y < 32) && g.known x && (g.deps x).contains (y : Int)
theorem GraphL.adj_lt (g : GraphL) : ∀ x y, g.adj x y = true → y < 32 := by
  intro x y h
  simp [GraphL.adj] at h
  exact h.1.1.2

/-- The 64 cells of a graph, its lists in blocks below B. -/
structure GraphC (B : Nat) (w : World) (gv : Nat → Value) (g : GraphL) : Prop where
  known : ∀ i, i < 32 → gv i = .bool (g.known i)
  deps : ∀ i, i < 32 → ∃ a cap, gv (32 + i) = .slice a (g.deps i).length cap ∧ IntsAt B w a (g.deps i) ∧ (g.deps i).length ≤ maxLen
theorem GraphC.later {B : Nat} {w w' : World} {gv : Nat → Value} {g : GraphL} (h : GraphC B w gv g) (hb : Below B w w') : GraphC B w' gv g :=
  ⟨h.known, fun i hi => by
    obtain ⟨a, cap, e, h1, h2⟩ := h.deps i hi
    exact ⟨a, cap, e, h1.later hb, h2⟩⟩
theorem GraphC.mono {B B' : Nat} {w : World} {gv : Nat → Value} {g : GraphL} (h : GraphC B w gv g) (hb : B ≤ B') : GraphC B' w gv g :=
  ⟨h.known, fun i hi => by
    obtain ⟨a, cap, e, h1, h2⟩ := h.deps i hi
    exact ⟨a, cap, e, h1.mono hb, h2⟩⟩

/-- The cells of a search. -/
def sCell (gv : Nat → Value) (s : St) (sv : Value) (o : Nat) : Value :=
  if o < 64 then gv o else if o < 65 then .int .i64 s.met else if o < 97 then .int .i64 (s.turn (o - 65)) else if o < 129 then .int .i64 (s.back (o - 97)) else if o < 130 then sv
  else if o < 162 then .bool (s.opn (o - 130)) else .bool (s.reach ((o - 162) / 32) ((o - 162) % 32))
theorem sCell_graph (gv : Nat → Value) (s : St) (sv : Value) {o : Nat} (h : o < 64) : sCell gv s sv o = gv o := by unfold sCell; rw [if_pos h]
theorem sCell_met (gv : Nat → Value) (s : St) (sv : Value) : sCell gv s sv 64 = .int .i64 s.met := rfl
theorem sCell_turn (gv : Nat → Value) (s : St) (sv : Value) {n : Nat} (h : n < 32) : sCell gv s sv (65 + n) = .int .i64 (s.turn n) := by
  unfold sCell; rw [if_neg (by omega), if_neg (by omega), if_pos (by omega), show 65 + n - 65 = n by omega]
theorem sCell_back (gv : Nat → Value) (s : St) (sv : Value) {n : Nat} (h : n < 32) : sCell gv s sv (97 + n) = .int .i64 (s.back n) := by
  unfold sCell; rw [if_neg (by omega), if_neg (by omega), if_neg (by omega), if_pos (by omega), show 97 + n - 97 = n by omega]
theorem sCell_stack (gv : Nat → Value) (s : St) (sv : Value) : sCell gv s sv 129 = sv := rfl
theorem sCell_opn (gv : Nat → Value) (s : St) (sv : Value) {n : Nat} (h : n < 32) : sCell gv s sv (130 + n) = .bool (s.opn n) := by
  unfold sCell; rw [if_neg (by omega), if_neg (by omega), if_neg (by omega), if_neg (by omega), if_neg (by omega), if_pos (by omega), show 130 + n - 130 = n by omega]
theorem sCell_reach (gv : Nat → Value) (s : St) (sv : Value) {n m : Nat} (hm : m < 32) : sCell gv s sv (162 + n * 32 + m) = .bool (s.reach n m) := by
  unfold sCell; rw [if_neg (by omega), if_neg (by omega), if_neg (by omega), if_neg (by omega), if_neg (by omega), if_neg (by omega), show (162 + n * 32 + m - 162) / 32 = n by omega, show (162 + n * 32 + m - 162) % 32 = m by omega]

/-- A search at block c. -/
def StAt (w : World) (c : Nat) (gv : Nat → Value) (s : St) (sv : Value) : Prop := BlkAt 1186 w c (sCell gv s sv)

theorem StAt.putMet {w : World} {c : Nat} {gv : Nat → Value} {s : St} {sv : Value} (h : StAt w c gv s sv) (m : Nat) : StAt (w.setCell ⟨c, 64, none⟩ (.int .i64 m)) c gv { s with met := m } sv := by
  refine (BlkAt.put h 64 _).congr fun i _ => ?_
  by_cases e : i = 64
  · subst e; rfl
  · rw [if_neg e]; unfold sCell; by_cases h : i < 64
    · rw [if_pos h, if_pos h]
    · simp only [h, show ¬ i < 65 by omega, if_false]
theorem StAt.putTurn {w : World} {c : Nat} {gv : Nat → Value} {s : St} {sv : Value} (h : StAt w c gv s sv) {n : Nat} (hn : n < 32) (m : Nat) : StAt (w.setCell ⟨c, 65 + n, none⟩ (.int .i64 m)) c gv { s with turn := upd s.turn n m } sv := by
  refine (BlkAt.put h (65 + n) _).congr fun i _ => ?_
  by_cases e : i = 65 + n
  · subst e; rw [if_pos rfl, sCell_turn _ _ _ hn]; simp [upd]
  · rw [if_neg e]; unfold sCell
    by_cases h1 : 65 ≤ i ∧ i < 97
    · rw [if_neg (by omega), if_neg (by omega), if_pos (by omega), if_neg (by omega), if_neg (by omega), if_pos (by omega)]
      simp only [upd, if_neg (show ¬ i - 65 = n by omega)]
    · by_cases h2 : i < 65
      · by_cases h3 : i < 64
        · rw [if_pos h3, if_pos h3]
        · rw [if_neg h3, if_neg h3, if_pos h2, if_pos h2]
      · rw [if_neg (by omega), if_neg (by omega), if_neg (by omega), if_neg (show ¬ i < 64 by omega), if_neg (show ¬ i < 65 by omega), if_neg (show ¬ i < 97 by omega)]
theorem StAt.putBack {w : World} {c : Nat} {gv : Nat → Value} {s : St} {sv : Value} (h : StAt w c gv s sv) {n : Nat} (hn : n < 32) (m : Nat) : StAt (w.setCell ⟨c, 97 + n, none⟩ (.int .i64 m)) c gv { s with back := upd s.back n m } sv := by
  refine (BlkAt.put h (97 + n) _).congr fun i _ => ?_
  by_cases e : i = 97 + n
  · subst e; rw [if_pos rfl, sCell_back _ _ _ hn]; simp [upd]
  · rw [if_neg e]; unfold sCell
    by_cases h1 : 97 ≤ i ∧ i < 129
    · rw [if_neg (by omega), if_neg (by omega), if_neg (by omega), if_pos (by omega), if_neg (by omega), if_neg (by omega), if_neg (by omega), if_pos (by omega)]
      simp only [upd, if_neg (show ¬ i - 97 = n by omega)]
    · by_cases h2 : i < 97
      · simp only [h2, if_true]
      · simp only [h2, show ¬ i < 129 by omega, if_false]
theorem StAt.putStack {w : World} {c : Nat} {gv : Nat → Value} {s : St} {sv : Value} (h : StAt w c gv s sv) (sv' : Value) (l : List Nat) : StAt (w.setCell ⟨c, 129, none⟩ sv') c gv { s with stack := l } sv' := by
  refine (BlkAt.put h 129 _).congr fun i _ => ?_
  by_cases e : i = 129
  · subst e; rfl
  · rw [if_neg e]; unfold sCell
    by_cases h2 : i < 129
    · simp only [h2, if_true]
    · simp only [h2, show ¬ i < 130 by omega, if_false]
theorem StAt.putOpn {w : World} {c : Nat} {gv : Nat → Value} {s : St} {sv : Value} (h : StAt w c gv s sv) {n : Nat} (hn : n < 32) (b : Bool) : StAt (w.setCell ⟨c, 130 + n, none⟩ (.bool b)) c gv { s with opn := upd s.opn n b } sv := by
  refine (BlkAt.put h (130 + n) _).congr fun i _ => ?_
  by_cases e : i = 130 + n
  · subst e; rw [if_pos rfl, sCell_opn _ _ _ hn]; simp [upd]
  · rw [if_neg e]; unfold sCell
    by_cases h2 : i < 130
    · simp only [h2, if_true]
    · by_cases h3 : i < 162
      · simp only [h2, h3, if_true, if_false]
        simp only [upd, if_neg (show ¬ i - 130 = n by omega)]
      · simp only [h2, h3, if_false]
theorem StAt.putReach {w : World} {c : Nat} {gv : Nat → Value} {s : St} {sv : Value} (h : StAt w c gv s sv) {n m : Nat} (hm : m < 32) (b : Bool) :
    StAt (w.setCell ⟨c, 162 + n * 32 + m, none⟩ (.bool b)) c gv { s with reach := upd s.reach n (upd (s.reach n) m b) } sv := by
  refine (BlkAt.put h (162 + n * 32 + m) _).congr fun i _ => ?_
  by_cases e : i = 162 + n * 32 + m
  · subst e; rw [if_pos rfl, sCell_reach _ _ _ hm]; simp [upd]
  · rw [if_neg e]; unfold sCell
    by_cases h3 : i < 162
    · simp only [h3, if_true]
    · simp only [h3, if_false]
      by_cases e1 : (i - 162) / 32 = n
      · have : ¬ (i - 162) % 32 = m := by omega
        simp [upd, e1, this]
      · simp [upd, e1]
/-- The truths of row n of the sets. -/
theorem StAt.row {w : World} {c : Nat} {gv : Nat → Value} {s : St} {sv : Value} (h : StAt w c gv s sv) {n : Nat} (hn : n < 32) : w.rangeAt c (162 + n * 32) (bools 32 (s.reach n)).toList := by
  have := BlkAt.range h (o := 162 + n * 32) (n := 32) (by omega)
  have e : (List.range 32).map (fun i => sCell gv s sv (162 + n * 32 + i)) = (bools 32 (s.reach n)).toList := by
    unfold bools
    simp only []
    exact List.map_congr_left fun i hi => sCell_reach gv s sv (List.mem_range.1 hi)
  rw [← e]
  exact this
theorem StAt.putRow {w : World} {c : Nat} {gv : Nat → Value} {s : St} {sv : Value} (h : StAt w c gv s sv) {n : Nat} (hn : n < 32) (T : Nat → Bool) :
    StAt (w.setCells c (162 + n * 32) (bools 32 T).toList) c gv { s with reach := upd s.reach n T } sv := by
  refine (BlkAt.puts (bools 32 T).toList (162 + n * 32) h (by simp [bools_size]; omega)).congr fun i _ => ?_
  have hl : (bools 32 T).toList.length = 32 := by simp [bools]
  rw [hl]
  by_cases e : 162 + n * 32 ≤ i ∧ i < 162 + n * 32 + 32
  · rw [if_pos e]
    obtain ⟨j, rfl⟩ : ∃ j, i = 162 + n * 32 + j := ⟨i - (162 + n * 32), by omega⟩
    have hj : j < 32 := by omega
    rw [sCell_reach _ _ _ hj, show 162 + n * 32 + j - (162 + n * 32) = j by omega]
    simp [bools, upd, hj]
  · rw [if_neg e]; unfold sCell
    by_cases h3 : i < 162
    · simp only [h3, if_true]
    · simp only [h3, if_false]
      have e1 : ¬ (i - 162) / 32 = n := by omega
      simp [upd, e1]

end Go.Proofs.Ytkoefoccbjhoiab
