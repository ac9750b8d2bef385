/-
  A search behind a pointer, as it lies in memory: one block of 1186 cells, and a stack of its own.
  Cells and rows of memory: small facts that all walks use.
  The contracts of the small functions of package txn (Shard, Of, nearest, Do): what each returns at every number, the old memory as it was.
  The contracts of package txn's functions on lists of operations (meets, Conflict, Touches).
  The contracts of goodOp and GoodOps, and of the document's own IsOps.
  The contracts of Rising and of the statements' own 'has', and what holds of the union.
-/
import Derived.Test.YtkoefoccbjhoiabPbg1
import Derived.Deep.MidRow
import Derived.Laws.StructEq
import Derived.Outline
import Derived.Deep.RegionHeld3
import Derived.Deep.Cut
import Derived.Deep.CutRange
set_option linter.unusedVariables false
set_option linter.unusedSimpArgs false
namespace Go.Proofs.Ytkoefoccbjhoiab
open Go.RowKit

/-- N cells, as the cells of a block. -/
def rowF (N : Nat) (f : Nat → Value) : Array Value := ((List.range N).map f).toArray
theorem rowF_size (N : Nat) (f : Nat → Value) : (rowF N f).size = N := by simp [rowF]
theorem rowF_get {N : Nat} (f : Nat → Value) {i : Nat} (h : i < N) : (rowF N f)[i]? = some (f i) := by simp [rowF, h]
theorem rowF_set {N : Nat} (f : Nat → Value) {m : Nat} (v : Value) : (rowF N f).setIfInBounds m v = rowF N (fun i => if i = m then v else f i) := by
  apply Array.ext_getElem?
  intro i
  rw [Array.getElem?_setIfInBounds]
  by_cases hi : i < N
  · by_cases e : m = i
    · subst e
      simp [rowF, hi]
    · rw [if_neg e]
      simp [rowF, hi, show ¬ i = m from fun h => e h.symm]
  · have h1 : (rowF N f).size ≤ i := by rw [rowF_size]; omega
    have h2 : (rowF N (fun i => if i = m then v else f i)).size ≤ i := by rw [rowF_size]; omega
    rw [Array.getElem?_eq_none h1, Array.getElem?_eq_none h2]
    simp
    omega
theorem rowF_congr {N : Nat} {f g : Nat → Value} (h : ∀ i, i < N → f i = g i) : rowF N f = rowF N g := by
  unfold rowF
  rw [List.map_congr_left fun i hi => h i (List.mem_range.1 hi)]

def BlkAt (N : Nat) (w : World) (c : Nat) (f : Nat → Value) : Prop := ∃ t, w.heap[c]? = some (.cells (rowF N f) t (0, 0))
theorem BlkAt.congr {N : Nat} {w : World} {c : Nat} {f g : Nat → Value} (h : BlkAt N w c f) (e : ∀ i, i < N → f i = g i) : BlkAt N w c g := by
  obtain ⟨t, h⟩ := h
  exact ⟨t, by rw [← rowF_congr e]; exact h⟩
theorem BlkAt.cell {N : Nat} {w : World} {c : Nat} {f : Nat → Value} (h : BlkAt N w c f) {i : Nat} (hi : i < N) : w.cell? ⟨c, i, none⟩ = some (f i) := by
  obtain ⟨t, h⟩ := h
  rw [cell_of_row w c i _ t _ h, rowF_get f hi]
theorem BlkAt.frozen {N : Nat} {w : World} {c : Nat} {f : Nat → Value} (h : BlkAt N w c f) (i : Nat) : w.frozen? ⟨c, i, none⟩ = false := by
  obtain ⟨t, h⟩ := h
  exact frozen_of_row w c i _ t h
theorem BlkAt.put {N : Nat} {w : World} {c : Nat} {f : Nat → Value} (h : BlkAt N w c f) (m : Nat) (v : Value) : BlkAt N (w.setCell ⟨c, m, none⟩ v) c (fun i => if i = m then v else f i) := by
  obtain ⟨t, h⟩ := h
  exact ⟨t, by rw [heap_setCell_same w c m _ t _ h, rowF_set]⟩
theorem BlkAt.lt {N : Nat} {w : World} {c : Nat} {f : Nat → Value} (h : BlkAt N w c f) : c < w.heap.size := by
  obtain ⟨t, h⟩ := h
  by_cases hc : c < w.heap.size
  · exact hc
  · rw [Array.getElem?_eq_none (by omega)] at h
    cases h
theorem BlkAt.later {N B : Nat} {w w' : World} {c : Nat} {f : Nat → Value} (h : BlkAt N w c f) (hb : Below B w w') (hc : c < B) : BlkAt N w' c f := by
  obtain ⟨t, h⟩ := h
  exact ⟨t, by rw [hb.block c hc]; exact h⟩

/-- Part of a block. -/
theorem BlkAt.range {N : Nat} {w : World} {c : Nat} {f : Nat → Value} (h : BlkAt N w c f) {o n : Nat} (ho : o + n ≤ N) : w.rangeAt c o ((List.range n).map fun i => f (o + i)) := by
  intro j v hv
  have hj : j < n := by
    have := (List.getElem?_eq_some_iff.1 hv).1
    simpa using this
  rw [h.cell (by omega)]
  simp [hj] at hv
  rw [hv]
theorem BlkAt.there {N : Nat} {w : World} {c : Nat} {f : Nat → Value} (h : BlkAt N w c f) {o n : Nat} (ho : o + n ≤ N) : w.there c o n := by
  intro j hj
  rw [h.cell (by omega)]
  exact ⟨rfl, h.frozen _⟩
theorem BlkAt.puts {N : Nat} {c : Nat} : ∀ (vs : List Value) (o : Nat) {w : World} {f : Nat → Value}, BlkAt N w c f → o + vs.length ≤ N → BlkAt N (w.setCells c o vs) c (fun i => if o ≤ i ∧ i < o + vs.length then vs.getD (i - o) (.bool false) else f i)
  | [], o, w, f, h, _ => by
    refine h.congr fun i _ => ?_
    rw [if_neg (by simp)]
  | v :: vs, o, w, f, h, hl => by
    rw [World.setCells]
    refine (BlkAt.puts vs (o + 1) (h.put o v) (by simp at hl; omega)).congr fun i _ => ?_
    simp only [List.length_cons]
    by_cases e : i = o
    · subst e
      rw [if_neg (by omega), if_pos rfl, if_pos (by omega)]
      simp
    · by_cases e2 : o + 1 ≤ i ∧ i < o + 1 + vs.length
      · rw [if_pos e2, if_pos (by omega)]
        obtain ⟨k, hk⟩ : ∃ k, i - o = k + 1 := ⟨i - o - 1, by omega⟩
        rw [hk, show i - (o + 1) = k by omega]
        simp
      · rw [if_neg e2, if_neg e, if_neg (by omega)]

theorem bools_row (n : Nat) (S : Nat → Bool) : bools n S = rowF n (fun i => .bool (S i)) := rfl

def sameB (n : Nat) (S T : Nat → Bool) : Bool := (List.range n).all fun i => S i == T i
theorem sameB_iff {n : Nat} {S T : Nat → Bool} : sameB n S T = true ↔ ∀ i, i < n → S i = T i := by
  unfold sameB
  simp

theorem run_part_bools {P : Program} {e : TypeId} (he : P.underlying e = some .bool) (hi : (P.info? e).map (·.size) = some 1) {n : Nat} (S : Nat → Bool) {k : Nat} (hk : k < n) (w : World) :
    (part e (bools n S) k).run P w = .ok (.bool (S k)) w := by
  cases hq : P.info? e with
  | none => simp [hq] at hi
  | some i =>
    have hs : i.size = 1 := by simpa [hq] using hi
    have hg := bools_get S hk
    simp [part, isAgg, run_underlying he, sizeOf, typeInfo, hq, hs, hg, go_sem]
    try omega

theorem run_equalIn_bools {P : Program} {t e : TypeId} {n : Nat} (d : Nat) (ht : P.underlying t = some (.array n e)) (he : P.underlying e = some .bool) (hi : (P.info? e).map (·.size) = some 1) (S T : Nat → Bool) (w : World) :
    (Op.equalIn (d + 2) t (.agg (bools n S)) (.agg (bools n T))).run P w = .ok (sameB n S T) w := by
  have hsz : ∀ w, (sizeOf e).run P w = .ok 1 w := by
    intro w
    cases hq : P.info? e with
    | none => simp [hq] at hi
    | some i =>
      have hs : i.size = 1 := by simpa [hq] using hi
      simp [sizeOf, typeInfo, hq, hs]
  unfold sameB
  rw [List.range_eq_range', Op.equalIn]
  simp only [Sem.run_bind, run_underlying ht, Result.andThen_ok, hsz, Std.Legacy.Range.forIn_eq_forIn_range', Std.Legacy.Range.size, Nat.sub_zero, Nat.add_sub_cancel, Nat.div_one]
  have hl : ∀ i ∈ List.range' 0 n 1, i < n := fun i hi => by simpa using (List.mem_range'_1.1 hi).2
  generalize List.range' 0 n 1 = l at hl ⊢
  induction l with
  | nil => simp
  | cons i l ih =>
    have hk : i < n := hl i (by simp)
    have px := run_part_bools he hi S hk w
    have py := run_part_bools he hi T hk w
    have pe : (Op.equalIn (d + 1) e (.bool (S i)) (.bool (T i))).run P w = .ok (S i == T i) w := run_equalIn_bool' w d e _ _ he
    simp only [List.forIn_cons, Sem.run_bind, Nat.mul_one, px, py, pe, Result.andThen_ok, List.all_cons]
    cases hb : (S i == T i)
    · simp
    · simp only [Bool.not_true, Bool.false_eq_true, if_false, Sem.run_pure, Result.andThen_ok, Bool.true_and]
      simpa only [Nat.mul_one] using ih fun j hj => hl j (by simp [hj])

/-- A graph: which are known, and what stands ahead of each. -/
structure GraphL where
  known : Nat → Bool
  deps : Nat → List Int
/-- What stands right ahead, as far as that is known. -/
def GraphL.adj (g : GraphL) (x y : Nat) : Bool := decide (x < 32) && decide (y < 32) && g.known x && (g.deps x).contains (y : Int)
theorem GraphL.adj_lt (g : GraphL) : ∀ x y, g.adj x y = true → y < 32 := by
  intro x y h
  simp [GraphL.adj] at h
  exact h.1.1.2

/-- The 64 cells of a graph, its lists in blocks below B. -/
structure GraphC (B : Nat) (w : World) (gv : Nat → Value) (g : GraphL) : Prop where
  known : ∀ i, i < 32 → gv i = .bool (g.known i)
  deps : ∀ i, i < 32 → ∃ a cap, gv (32 + i) = .slice a (g.deps i).length cap ∧ IntsAt B w a (g.deps i) ∧ (g.deps i).length ≤ maxLen
theorem GraphC.later {B : Nat} {w w' : World} {gv : Nat → Value} {g : GraphL} (h : GraphC B w gv g) (hb : Below B w w') : GraphC B w' gv g :=
  ⟨h.known, fun i hi => by
    obtain ⟨a, cap, e, h1, h2⟩ := h.deps i hi
    exact ⟨a, cap, e, h1.later hb, h2⟩⟩
theorem GraphC.mono {B B' : Nat} {w : World} {gv : Nat → Value} {g : GraphL} (h : GraphC B w gv g) (hb : B ≤ B') : GraphC B' w gv g :=
  ⟨h.known, fun i hi => by
    obtain ⟨a, cap, e, h1, h2⟩ := h.deps i hi
    exact ⟨a, cap, e, h1.mono hb, h2⟩⟩

/-- The cells of a search. -/
def sCell (gv : Nat → Value) (s : St) (sv : Value) (o : Nat) : Value :=
  if o < 64 then gv o else if o < 65 then .int .i64 s.met else if o < 97 then .int .i64 (s.turn (o - 65)) else if o < 129 then .int .i64 (s.back (o - 97)) else if o < 130 then sv
  else if o < 162 then .bool (s.opn (o - 130)) else .bool (s.reach ((o - 162) / 32) ((o - 162) % 32))
theorem sCell_graph (gv : Nat → Value) (s : St) (sv : Value) {o : Nat} (h : o < 64) : sCell gv s sv o = gv o := by unfold sCell; rw [if_pos h]
theorem sCell_met (gv : Nat → Value) (s : St) (sv : Value) : sCell gv s sv 64 = .int .i64 s.met := rfl
theorem sCell_turn (gv : Nat → Value) (s : St) (sv : Value) {n : Nat} (h : n < 32) : sCell gv s sv (65 + n) = .int .i64 (s.turn n) := by
  unfold sCell; rw [if_neg (by omega), if_neg (by omega), if_pos (by omega), show 65 + n - 65 = n by omega]
theorem sCell_back (gv : Nat → Value) (s : St) (sv : Value) {n : Nat} (h : n < 32) : sCell gv s sv (97 + n) = .int .i64 (s.back n) := by
  unfold sCell; rw [if_neg (by omega), if_neg (by omega), if_neg (by omega), if_pos (by omega), show 97 + n - 97 = n by omega]
theorem sCell_stack (gv : Nat → Value) (s : St) (sv : Value) : sCell gv s sv 129 = sv := rfl
theorem sCell_opn (gv : Nat → Value) (s : St) (sv : Value) {n : Nat} (h : n < 32) : sCell gv s sv (130 + n) = .bool (s.opn n) := by
  unfold sCell; rw [if_neg (by omega), if_neg (by omega), if_neg (by omega), if_neg (by omega), if_neg (by omega), if_pos (by omega), show 130 + n - 130 = n by omega]
theorem sCell_reach (gv : Nat → Value) (s : St) (sv : Value) {n m : Nat} (hm : m < 32) : sCell gv s sv (162 + n * 32 + m) = .bool (s.reach n m) := by
  unfold sCell; rw [if_neg (by omega), if_neg (by omega), if_neg (by omega), if_neg (by omega), if_neg (by omega), if_neg (by omega), show (162 + n * 32 + m - 162) / 32 = n by omega, show (162 + n * 32 + m - 162) % 32 = m by omega]

/-- A search at block c. -/
def StAt (w : World) (c : Nat) (gv : Nat → Value) (s : St) (sv : Value) : Prop := BlkAt 1186 w c (sCell gv s sv)

theorem StAt.putMet {w : World} {c : Nat} {gv : Nat → Value} {s : St} {sv : Value} (h : StAt w c gv s sv) (m : Nat) : StAt (w.setCell ⟨c, 64, none⟩ (.int .i64 m)) c gv { s with met := m } sv := by
  refine (BlkAt.put h 64 _).congr fun i _ => ?_
  by_cases e : i = 64
  · subst e; rfl
  · rw [if_neg e]; unfold sCell; by_cases h : i < 64
    · rw [if_pos h, if_pos h]
    · simp only [h, show ¬ i < 65 by omega, if_false]
theorem StAt.putTurn {w : World} {c : Nat} {gv : Nat → Value} {s : St} {sv : Value} (h : StAt w c gv s sv) {n : Nat} (hn : n < 32) (m : Nat) : StAt (w.setCell ⟨c, 65 + n, none⟩ (.int .i64 m)) c gv { s with turn := upd s.turn n m } sv := by
  refine (BlkAt.put h (65 + n) _).congr fun i _ => ?_
  by_cases e : i = 65 + n
  · subst e; rw [if_pos rfl, sCell_turn _ _ _ hn]; simp [upd]
  · rw [if_neg e]; unfold sCell
    by_cases h1 : 65 ≤ i ∧ i < 97
    · rw [if_neg (by omega), if_neg (by omega), if_pos (by omega), if_neg (by omega), if_neg (by omega), if_pos (by omega)]
      simp only [upd, if_neg (show ¬ i - 65 = n by omega)]
    · by_cases h2 : i < 65
      · by_cases h3 : i < 64
        · rw [if_pos h3, if_pos h3]
        · rw [if_neg h3, if_neg h3, if_pos h2, if_pos h2]
      · rw [if_neg (by omega), if_neg (by omega), if_neg (by omega), if_neg (show ¬ i < 64 by omega), if_neg (show ¬ i < 65 by omega), if_neg (show ¬ i < 97 by omega)]
theorem StAt.putBack {w : World} {c : Nat} {gv : Nat → Value} {s : St} {sv : Value} (h : StAt w c gv s sv) {n : Nat} (hn : n < 32) (m : Nat) : StAt (w.setCell ⟨c, 97 + n, none⟩ (.int .i64 m)) c gv { s with back := upd s.back n m } sv := by
  refine (BlkAt.put h (97 + n) _).congr fun i _ => ?_
  by_cases e : i = 97 + n
  · subst e; rw [if_pos rfl, sCell_back _ _ _ hn]; simp [upd]
  · rw [if_neg e]; unfold sCell
    by_cases h1 : 97 ≤ i ∧ i < 129
    · rw [if_neg (by omega), if_neg (by omega), if_neg (by omega), if_pos (by omega), if_neg (by omega), if_neg (by omega), if_neg (by omega), if_pos (by omega)]
      simp only [upd, if_neg (show ¬ i - 97 = n by omega)]
    · by_cases h2 : i < 97
      · simp only [h2, if_true]
      · simp only [h2, show ¬ i < 129 by omega, if_false]
theorem StAt.putStack {w : World} {c : Nat} {gv : Nat → Value} {s : St} {sv : Value} (h : StAt w c gv s sv) (sv' : Value) (l : List Nat) : StAt (w.setCell ⟨c, 129, none⟩ sv') c gv { s with stack := l } sv' := by
  refine (BlkAt.put h 129 _).congr fun i _ => ?_
  by_cases e : i = 129
  · subst e; rfl
  · rw [if_neg e]; unfold sCell
    by_cases h2 : i < 129
    · simp only [h2, if_true]
    · simp only [h2, show ¬ i < 130 by omega, if_false]
theorem StAt.putOpn {w : World} {c : Nat} {gv : Nat → Value} {s : St} {sv : Value} (h : StAt w c gv s sv) {n : Nat} (hn : n < 32) (b : Bool) : StAt (w.setCell ⟨c, 130 + n, none⟩ (.bool b)) c gv { s with opn := upd s.opn n b } sv := by
  refine (BlkAt.put h (130 + n) _).congr fun i _ => ?_
  by_cases e : i = 130 + n
  · subst e; rw [if_pos rfl, sCell_opn _ _ _ hn]; simp [upd]
  · rw [if_neg e]; unfold sCell
    by_cases h2 : i < 130
    · simp only [h2, if_true]
    · by_cases h3 : i < 162
      · simp only [h2, h3, if_true, if_false]
        simp only [upd, if_neg (show ¬ i - 130 = n by omega)]
      · simp only [h2, h3, if_false]
theorem StAt.putReach {w : World} {c : Nat} {gv : Nat → Value} {s : St} {sv : Value} (h : StAt w c gv s sv) {n m : Nat} (hm : m < 32) (b : Bool) :
    StAt (w.setCell ⟨c, 162 + n * 32 + m, none⟩ (.bool b)) c gv { s with reach := upd s.reach n (upd (s.reach n) m b) } sv := by
  refine (BlkAt.put h (162 + n * 32 + m) _).congr fun i _ => ?_
  by_cases e : i = 162 + n * 32 + m
  · subst e; rw [if_pos rfl, sCell_reach _ _ _ hm]; simp [upd]
  · rw [if_neg e]; unfold sCell
    by_cases h3 : i < 162
    · simp only [h3, if_true]
    · simp only [h3, if_false]
      by_cases e1 : (i - 162) / 32 = n
      · have : ¬ (i - 162) % 32 = m := by omega
        simp [upd, e1, this]
      · simp [upd, e1]
/-- The truths of row n of the sets. -/
theorem StAt.row {w : World} {c : Nat} {gv : Nat → Value} {s : St} {sv : Value} (h : StAt w c gv s sv) {n : Nat} (hn : n < 32) : w.rangeAt c (162 + n * 32) (bools 32 (s.reach n)).toList := by
  have := BlkAt.range h (o := 162 + n * 32) (n := 32) (by omega)
  have e : (List.range 32).map (fun i => sCell gv s sv (162 + n * 32 + i)) = (bools 32 (s.reach n)).toList := by
    unfold bools
    simp only []
    exact List.map_congr_left fun i hi => sCell_reach gv s sv (List.mem_range.1 hi)
  rw [← e]
  exact this
theorem StAt.putRow {w : World} {c : Nat} {gv : Nat → Value} {s : St} {sv : Value} (h : StAt w c gv s sv) {n : Nat} (hn : n < 32) (T : Nat → Bool) :
    StAt (w.setCells c (162 + n * 32) (bools 32 T).toList) c gv { s with reach := upd s.reach n T } sv := by
  refine (BlkAt.puts (bools 32 T).toList (162 + n * 32) h (by simp [bools_size]; omega)).congr fun i _ => ?_
  have hl : (bools 32 T).toList.length = 32 := by simp [bools]
  rw [hl]
  by_cases e : 162 + n * 32 ≤ i ∧ i < 162 + n * 32 + 32
  · rw [if_pos e]
    obtain ⟨j, rfl⟩ : ∃ j, i = 162 + n * 32 + j := ⟨i - (162 + n * 32), by omega⟩
    have hj : j < 32 := by omega
    rw [sCell_reach _ _ _ hj, show 162 + n * 32 + j - (162 + n * 32) = j by omega]
    simp [bools, upd, hj]
  · rw [if_neg e]; unfold sCell
    by_cases h3 : i < 162
    · simp only [h3, if_true]
    · simp only [h3, if_false]
      have e1 : ¬ (i - 162) / 32 = n := by omega
      simp [upd, e1]

end Go.Proofs.Ytkoefoccbjhoiab

namespace Go.Proofs.Ytkoefoccbjhoiab
open Go.RowKit

theorem bools_len (n : Nat) (S : Nat → Bool) : (bools n S).toList.length = n := by simp [bools]
theorem bools_one (n : Nat) (S : Nat → Bool) : ∀ v ∈ (bools n S).toList, v.oneCell' = true := by
  intro v hv
  simp [bools] at hv
  obtain ⟨i, _, rfl⟩ := hv
  rfl
/-- In a region that only reads: a load of many cells. -/
theorem wpQuiet_load_mid {P : Program} {ops : Array Oper} {w0 : World} {Q : Act → Prop} {a : Act} {o : Oper} {rest : List Oper} (hw : Region.wanted o (yielded ops a.tmps) = true) (ty : TypeId) (x : Operand) (ho : o.op = .load ty x)
    (b off : Nat) (hx : a.eval x = .pointer (some ⟨b, off, none⟩)) (cs : List Value) (d : TypeDesc) (hc : w0.rangeAt b off cs) (hu : P.underlying ty = some d) (hd : d.isRow = true) (hi : (P.info? ty).map (·.size) = some cs.length)
    (h : wpQuiet P ops (fun w' => ∃ n, w' = w0.drewN n) Q rest (a.put o.dst (.agg cs.toArray))) : wpQuiet P ops (fun w' => ∃ n, w' = w0.drewN n) Q (o :: rest) a := by
  unfold wpQuiet
  rw [if_pos hw]
  refine ⟨.agg cs.toArray, ?_, h⟩
  rintro w' ⟨n, rfl⟩
  unfold Oper.quietAt execOp
  simp only [ho, hx, Instr.loadAt, Instr.sureAddr, Sem.run_bind, Sem.run_pure, Result.andThen_ok, run_loadVar_mid (w0.drewN n) b off ty cs d hc hu hd hi]
  exact ⟨rfl, rfl⟩
theorem size_push (w : World) (o : Obj) : (w.alloc o).heap.size = w.heap.size + 1 := by show (w.heap.push o).size = _; simp
theorem grown_alloc {w w1 : World} {row : Option Nat} (h : w.grownBy w1 row) (o : Obj) : w.grownBy (w1.alloc o) row :=
  ⟨h.os, h.tape, h.output, by have := h.size; rw [size_push]; omega, fun k hk hr => by rw [Below.heap_alloc _ _ _ (by have := h.size; omega)]; exact h.block k hk hr⟩
theorem grown_put_same {w w1 : World} {c : Nat} (h : w.grownBy w1 (some c)) (o : Nat) (u : Value) : w.grownBy (w1.setCell ⟨c, o, none⟩ u) (some c) :=
  ⟨h.os, h.tape, h.output, by have := h.size; simpa [World.setCell] using this, fun k hk hr => by rw [Below.heap_setCell _ _ _ _ (fun e => hr (by rw [e]))]; exact h.block k hk hr⟩
theorem grown_put_new {w w1 : World} {row : Option Nat} (h : w.grownBy w1 row) {b : Nat} (hb : w.heap.size ≤ b) (o : Nat) (u : Value) : w.grownBy (w1.setCell ⟨b, o, none⟩ u) row :=
  ⟨h.os, h.tape, h.output, by have := h.size; simpa [World.setCell] using this, fun k hk hr => by rw [Below.heap_setCell _ _ _ _ (show k ≠ b by omega)]; exact h.block k hk hr⟩
theorem bools_all (n : Nat) (S : Nat → Bool) : (bools n S).all (·.oneCell') = true := by
  have := all_oneCell_toArray (bools_one n S)
  simpa using this
theorem two_rows (w : World) (A B : Obj) : ((w.alloc A).alloc B).heap[w.heap.size]? = some A ∧ ((w.alloc A).alloc B).heap[w.heap.size + 1]? = some B :=
  ⟨heap_alloc2_old w A B, heap_alloc2_new w A B⟩
theorem setRow_below {B : Nat} {a w : World} (h : Below B a w) {g : Nat} (hg : B ≤ g) (cs : Array Value) : Below B a (w.setRow g cs) :=
  ⟨h.os, h.tape, h.output, by rw [size_setRow]; exact h.size, fun k hk => by
    rw [← h.block k hk]
    simp [World.setRow, Array.getElem?_modify]
    intro e; omega⟩
theorem heap_setRow {w : World} {g : Nat} {old cs : Array Value} {t : TypeId} {fr : Nat × Nat} (h : w.heap[g]? = some (.cells old t fr)) : (w.setRow g cs).heap[g]? = some (.cells cs t fr) := by
  simp [World.setRow, Array.getElem?_modify, h]
/-- 'wpAnyH_take', the slot that is written named. -/
theorem wpAnyH_takeD {P : Program} {md : Region.Mode} {ops : Array Oper} {Q : Exit → Act → World → Prop} {S : World → Prop} {i : Nat} {oi : Oper} {d : Option Tmp} {v : Value} {fuel : Nat} {listed : Array Bool} {a : Act} {w : World} (hi : ops[i]? = some oi) (hd : oi.dst = d)
    (hs : Region.noSelect ops = true) (hf : Region.free md ops listed i = true) (hr : (Region.ready md ops listed).contains i = true)
    (hQ : ∀ c a w, Q (.panic c) (a.put oi.dst v) w → Q (.panic c) a w) (hy : YieldsIf P ops S oi v a) (hS : S w)
    (h : wpAnyH P md ops Q S fuel (listed.setIfInBounds i true) (a.put d v) w) : wpAnyH P md ops Q S (fuel + 1) listed a w :=
  wpAnyH_take hi hs hf hr hQ hy hS (by rw [hd]; exact h)

end Go.Proofs.Ytkoefoccbjhoiab

namespace Go.Proofs.Ytkoefoccbjhoiab
open Go.RowKit

theorem tmod2 (k : Int) : (k.tmod 2 == 0) = (k % 2 == 0) := by
  have e := Int.tmod_eq_emod (a := k) (b := 2)
  have : k.tmod 2 = 0 ↔ k % 2 = 0 := by rw [e]; split <;> omega
  rw [Bool.eq_iff_iff]; simpa using this

set_option maxRecDepth 100000 in
set_option maxHeartbeats 400000 in
theorem shard_any (k : Int) (w : World) :
    Calls Try.prog 104 #[.int .i64 k] w fun e w' => e = .returned (.int .i64 (k % 2)) ∧ w' = w := by
  have e := tmod2 k
  by_cases h : k % 2 = 0
  · have h1 : (k.tmod 2 == 0) = true := by rw [e]; simpa using h
    clear e
    go_enter Try.func104, Try.ntmps104
    go_wp2
    go_ret
    exact ⟨ret_int (by omega), rfl⟩
  · have h1 : (k.tmod 2 == 0) = false := by rw [e]; simpa using h
    clear e
    go_enter Try.func104, Try.ntmps104
    go_wp2
    go_ret
    exact ⟨ret_int (by omega), rfl⟩

def ofL (k : Int) : Int := if k < 3 then 0 else 1

set_option maxRecDepth 100000 in
set_option maxHeartbeats 400000 in
theorem of_any (k : Int) (w : World) :
    Calls Try.prog 58 #[.int .i64 k] w fun e w' => e = .returned (.int .i64 (ofL k)) ∧ w' = w := by
  by_cases h : k < 3
  · have E : Hid (ofL k = 0) := by unfold ofL Hid; rw [if_pos h]
    go_enter Try.func58, Try.ntmps58
    go_wp2
    go_ret
    exact ⟨ret_int E.out.symm, rfl⟩
  · have E : Hid (ofL k = 1) := by unfold ofL Hid; rw [if_neg h]
    go_enter Try.func58, Try.ntmps58
    go_wp2
    go_ret
    exact ⟨ret_int E.out.symm, rfl⟩

def near (n : Int) : Int := if n < -1099511627776 then -1099511627776 else if 1099511627776 < n then 1099511627776 else n
theorem near_lo (n : Int) : -1099511627776 ≤ near n := by
  unfold near; split
  · omega
  · split <;> omega
theorem near_hi (n : Int) : near n ≤ 1099511627776 := by
  unfold near; split
  · omega
  · split <;> omega

set_option maxRecDepth 100000 in
set_option maxHeartbeats 400000 in
theorem nearest_any (n : Int) (w : World) :
    Calls Try.prog 139 #[.int .i64 n] w fun e w' => e = .returned (.int .i64 (near n)) ∧ w' = w := by
  by_cases h1 : n < -1099511627776
  · have e : near n = -1099511627776 := by unfold near; rw [if_pos h1]
    have E : Hid (near n = -1099511627776) := e
    clear e
    go_enter Try.func139, Try.ntmps139
    go_wp2
    go_ret
    exact ⟨ret_int E.out.symm, rfl⟩
  · by_cases h2 : 1099511627776 < n
    · have E : Hid (near n = 1099511627776) := by unfold near Hid; rw [if_neg h1, if_pos h2]
      go_enter Try.func139, Try.ntmps139
      go_wp2
      go_ret
      exact ⟨ret_int E.out.symm, rfl⟩
    · have E : Hid (near n = n) := by unfold near Hid; rw [if_neg h1, if_neg h2]
      go_enter Try.func139, Try.ntmps139
      go_wp2
      go_ret
      exact ⟨ret_int E.out.symm, rfl⟩

def doL (v kind n : Int) : Int := if kind = 2 then near n else if kind = 3 then near (near v + near n) else near v

set_option maxRecDepth 100000 in
set_option maxHeartbeats 400000 in
theorem do_any (v kind key n : Int) (w : World) :
    Calls Try.prog 142 #[.int .i64 v, .agg #[.int .i64 kind, .int .i64 key, .int .i64 n]] w fun e w' => e = .returned (.int .i64 (doL v kind n)) ∧ Below w.heap.size w w' := by
  by_cases h2 : kind = 2
  · have E : Hid (doL v kind n = near n) := by unfold doL Hid; rw [if_pos h2]
    have h2' : (kind == 2) = true := by simpa using h2
    clear h2
    go_enter Try.func142, Try.ntmps142
    go_wp2_with (go_at_call 139; refine (nearest_any _ _).mono ?_; rintro e w' ⟨rfl, rfl⟩)
    go_ret
    exact ⟨ret_int E.out.symm, (Below.refl _ _).alloc (Nat.le_refl _) _⟩
  · by_cases h3 : kind = 3
    · have E : Hid (doL v kind n = near (near v + near n)) := by unfold doL Hid; rw [if_neg h2, if_pos h3]
      have h2' : (kind == 2) = false := by simpa using h2
      have h3' : (kind == 3) = true := by simpa using h3
      have l1 := near_lo v
      have l2 := near_hi v
      have l3 := near_lo n
      have l4 := near_hi n
      clear h2 h3
      go_enter Try.func142, Try.ntmps142
      go_wp2
      go_quiet ((go_at_call 139; exact Calls.quiet_of_same (nearest_any _ _)))
      go_wp2
      go_ret
      exact ⟨ret_int E.out.symm, below_drewN ((Below.refl _ _).alloc (Nat.le_refl _) _) _⟩
    · have E : Hid (doL v kind n = near v) := by unfold doL Hid; rw [if_neg h2, if_neg h3]
      have h2' : (kind == 2) = false := by simpa using h2
      have h3' : (kind == 3) = false := by simpa using h3
      clear h2 h3
      go_enter Try.func142, Try.ntmps142
      go_wp2_with (go_at_call 139; refine (nearest_any _ _).mono ?_; rintro e w' ⟨rfl, rfl⟩)
      go_ret
      exact ⟨ret_int E.out.symm, (Below.refl _ _).alloc (Nat.le_refl _) _⟩

end Go.Proofs.Ytkoefoccbjhoiab

namespace Go.Proofs.Ytkoefoccbjhoiab
open Go.RowKit

/-- an operation: kind, key, N -/
abbrev OpL := Int × Int × Int

/-- A slice of operations that lies in memory: nothing, or its cells, three an element. -/
def OpsAt (w : World) (a : Option Addr) (zs : List OpL) : Prop :=
  zs = [] ∨ ∃ b off, a = some ⟨b, off, none⟩ ∧ b < w.heap.size ∧ ∀ i, i < zs.length → w.cell? ⟨b, off + i * 3, none⟩ = some (.int .i64 (zs.getD i (0, 0, 0)).1) ∧
    w.cell? ⟨b, off + i * 3 + 1, none⟩ = some (.int .i64 (zs.getD i (0, 0, 0)).2.1) ∧ w.cell? ⟨b, off + i * 3 + 2, none⟩ = some (.int .i64 (zs.getD i (0, 0, 0)).2.2)

theorem OpsAt.later {w w' : World} {a : Option Addr} {zs : List OpL} (h : OpsAt w a zs) (hB : Below w.heap.size w w') : OpsAt w' a zs := by
  rcases h with h | ⟨b, off, ha, hb, hc⟩
  · exact Or.inl h
  · refine Or.inr ⟨b, off, ha, Nat.lt_of_lt_of_le hb hB.size, fun i hi => ?_⟩
    rw [hB.cell (p := ⟨b, off + i * 3, none⟩) hb, hB.cell (p := ⟨b, off + i * 3 + 1, none⟩) hb, hB.cell (p := ⟨b, off + i * 3 + 2, none⟩) hb]
    exact hc i hi

/-- the element at k, in a later world -/
theorem OpsAt.at {w wr : World} {B b off : Nat} {zs : List OpL} (hc : ∀ i, i < zs.length → w.cell? ⟨b, off + i * 3, none⟩ = some (.int .i64 (zs.getD i (0, 0, 0)).1) ∧
    w.cell? ⟨b, off + i * 3 + 1, none⟩ = some (.int .i64 (zs.getD i (0, 0, 0)).2.1) ∧ w.cell? ⟨b, off + i * 3 + 2, none⟩ = some (.int .i64 (zs.getD i (0, 0, 0)).2.2))
    (hb : b < B) (hB : Below B w wr) {k : Nat} (hk : k < zs.length) :
    ∃ q0 q1 q2 : Int, Hid (zs.getD k (0, 0, 0) = (q0, q1, q2)) ∧ wr.cell? ⟨b, off + k * 3, none⟩ = some (.int .i64 q0) ∧ wr.cell? ⟨b, off + k * 3 + 1, none⟩ = some (.int .i64 q1) ∧ wr.cell? ⟨b, off + k * 3 + 2, none⟩ = some (.int .i64 q2) := by
  refine ⟨_, _, _, rfl, ?_⟩
  rw [hB.cell (p := ⟨b, off + k * 3, none⟩) hb, hB.cell (p := ⟨b, off + k * 3 + 1, none⟩) hb, hB.cell (p := ⟨b, off + k * 3 + 2, none⟩) hb]
  exact hc k hk

def meetB (o p : OpL) : Bool := o.2.1 == p.2.1 && (o.1 != 1 || p.1 != 1)
def meetsL (o : OpL) (zs : List OpL) : Bool := zs.any (meetB o)

set_option maxRecDepth 100000 in
set_option maxHeartbeats 400000 in
theorem meets_any (o0 o1 o2 : Int) (a : Option Addr) (cap : Nat) (zs : List OpL) (w : World) (hl : zs.length ≤ maxLen) (hz : OpsAt w a zs) :
    Calls Try.prog 141 #[.agg #[.int .i64 o0, .int .i64 o1, .int .i64 o2], .slice a zs.length cap] w fun e w' => e = .returned (.bool (meetsL (o0, o1, o2) zs)) ∧ Below w.heap.size w w' := by
  unfold maxLen at hl
  rcases hz with rfl | ⟨b, off, rfl, hb, hc⟩
  · go_enter Try.func141, Try.ntmps141
    go_wp2
    refine wp_loop_rounds 1 ?_; rw [rounds_succ]
    go_wp2
    go_ret
    exact ⟨rfl, (Below.refl _ _).alloc (Nat.le_refl _) _⟩
  · go_enter Try.func141, Try.ntmps141
    go_wp2
    go_loopw [9] (fun i wr => ∃ k : Nat, k ≤ zs.length ∧ i = .int .i64 k ∧ (zs.take k).any (meetB (o0, o1, o2)) = false ∧ Below (w.heap.size + 1) (w.alloc (.cells #[.int .i64 o0, .int .i64 o1, .int .i64 o2] 108)) wr) (fun i _ => zs.length - (intOf i).toNat)
    case atStart => exact ⟨0, Nat.zero_le _, rfl, rfl, Below.refl _ _⟩
    case round =>
      obtain ⟨k, hk, rfl, hno, hB⟩ := hrel
      have hBw : Below w.heap.size w wr := ((Below.refl _ w).alloc (Nat.le_refl _) _).trans (hB.mono (by omega))
      have hsz := hBw.size
      have hsz1 : w.heap.size < wr.heap.size := by have := hB.size; simp at this; omega
      have c0 := hB.cell (p := ⟨w.heap.size, 0, none⟩) (by simp)
      have c1 := hB.cell (p := ⟨w.heap.size, 1, none⟩) (by simp)
      simp at c0 c1
      by_cases hlt : k < zs.length
      · obtain ⟨q0, q1, q2, Hq, e0, e1, e2⟩ := OpsAt.at hc hb hBw hlt
        have hm : Hid (meetB (o0, o1, o2) (q0, q1, q2) = (o1 == q1 && (o0 != 1 || q0 != 1))) := rfl
        clear hc
        cases t1 : o1 == q1
        · go_wp2
          go_roundw
          case rel => exact ⟨k + 1, by omega, by go_num, any_step hlt Hq.out hno (by rw [hm.out, t1]; rfl), hB.alloc (by omega) _⟩
          case measure => simp [intOf]; omega
        · cases t2 : o0 != 1
          · cases t3 : q0 != 1
            · go_wp2
              go_roundw
              case rel => exact ⟨k + 1, by omega, by go_num, any_step hlt Hq.out hno (by rw [hm.out, t1, t2, t3]; rfl), hB.alloc (by omega) _⟩
              case measure => simp [intOf]; omega
            · go_wp2
              go_ret
              exact ⟨ret_bool (any_hit hlt Hq.out (by rw [hm.out, t1, t2, t3]; rfl)).symm, hBw.alloc hsz _⟩
          · go_wp2
            go_ret
            exact ⟨ret_bool (any_hit hlt Hq.out (by rw [hm.out, t1, t2]; rfl)).symm, hBw.alloc hsz _⟩
      · go_wp2
        go_ret
        exact ⟨ret_bool (any_end hlt hno).symm, hBw⟩

def touchB (s : Int) (o : OpL) : Bool := o.2.1 % 2 == s
def touchesL (zs : List OpL) (s : Int) : Bool := zs.any (touchB s)

set_option maxRecDepth 100000 in
set_option maxHeartbeats 400000 in
theorem touches_any (a : Option Addr) (cap : Nat) (zs : List OpL) (s : Int) (w : World) (hl : zs.length ≤ maxLen) (hz : OpsAt w a zs) :
    Calls Try.prog 57 #[.slice a zs.length cap, .int .i64 s] w fun e w' => e = .returned (.bool (touchesL zs s)) ∧ Below w.heap.size w w' := by
  unfold maxLen at hl
  rcases hz with rfl | ⟨b, off, rfl, hb, hc⟩
  · go_enter Try.func57, Try.ntmps57
    go_wp2
    refine wp_loop_rounds 1 ?_; rw [rounds_succ]
    go_wp2
    go_ret
    exact ⟨rfl, Below.refl _ _⟩
  · go_enter Try.func57, Try.ntmps57
    go_wp2
    go_loopw [9] (fun i wr => ∃ k : Nat, k ≤ zs.length ∧ i = .int .i64 k ∧ (zs.take k).any (touchB s) = false ∧ Below w.heap.size w wr) (fun i _ => zs.length - (intOf i).toNat)
    case atStart => exact ⟨0, Nat.zero_le _, rfl, rfl, Below.refl _ _⟩
    case round =>
      obtain ⟨k, hk, rfl, hno, hBw⟩ := hrel
      have hsz := hBw.size
      by_cases hlt : k < zs.length
      · obtain ⟨q0, q1, q2, Hq, e0, e1, e2⟩ := OpsAt.at hc hb hBw hlt
        have hm : Hid (touchB s (q0, q1, q2) = (q1 % 2 == s)) := rfl
        clear hc
        cases t1 : q1 % 2 == s
        · go_wp2_with (go_at_call 104; refine (shard_any _ _).mono ?_; rintro e w' ⟨rfl, rfl⟩)
          go_roundw
          case rel => exact ⟨k + 1, by omega, by go_num, any_step hlt Hq.out hno (by rw [hm.out, t1]), hBw.alloc hsz _⟩
          case measure => simp [intOf]; omega
        · go_wp2_with (go_at_call 104; refine (shard_any _ _).mono ?_; rintro e w' ⟨rfl, rfl⟩)
          go_ret
          exact ⟨ret_bool (any_hit hlt Hq.out (by rw [hm.out, t1])).symm, hBw.alloc hsz _⟩
      · go_wp2
        go_ret
        exact ⟨ret_bool (any_end hlt hno).symm, hBw⟩

def conflictB (b : List OpL) (s : Int) (o : OpL) : Bool := o.2.1 % 2 == s && meetsL o b
def conflictL (a b : List OpL) (s : Int) : Bool := a.any (conflictB b s)

set_option maxRecDepth 100000 in
set_option maxHeartbeats 400000 in
theorem conflict_any (a : Option Addr) (cap : Nat) (zs : List OpL) (a' : Option Addr) (cap' : Nat) (ys : List OpL) (s : Int) (w : World) (hl : zs.length ≤ maxLen) (hz : OpsAt w a zs) (hl' : ys.length ≤ maxLen) (hy : OpsAt w a' ys) :
    Calls Try.prog 132 #[.slice a zs.length cap, .slice a' ys.length cap', .int .i64 s] w fun e w' => e = .returned (.bool (conflictL zs ys s)) ∧ Below w.heap.size w w' := by
  have hl2 := hl
  unfold maxLen at hl
  rcases hz with rfl | ⟨b, off, rfl, hb, hc⟩
  · go_enter Try.func132, Try.ntmps132
    go_wp2
    refine wp_loop_rounds 1 ?_; rw [rounds_succ]
    go_wp2
    go_ret
    exact ⟨rfl, Below.refl _ _⟩
  · go_enter Try.func132, Try.ntmps132
    go_wp2
    go_loopw [11] (fun i wr => ∃ k : Nat, k ≤ zs.length ∧ i = .int .i64 k ∧ (zs.take k).any (conflictB ys s) = false ∧ Below w.heap.size w wr) (fun i _ => zs.length - (intOf i).toNat)
    case atStart => exact ⟨0, Nat.zero_le _, rfl, rfl, Below.refl _ _⟩
    case round =>
      obtain ⟨k, hk, rfl, hno, hBw⟩ := hrel
      have hsz := hBw.size
      by_cases hlt : k < zs.length
      · obtain ⟨q0, q1, q2, Hq, e0, e1, e2⟩ := OpsAt.at hc hb hBw hlt
        have hm : Hid (conflictB ys s (q0, q1, q2) = (q1 % 2 == s && meetsL (q0, q1, q2) ys)) := rfl
        have hy' : ∀ o, OpsAt (wr.alloc o) a' ys := fun o => hy.later (hBw.alloc hsz o)
        clear hc
        cases t1 : q1 % 2 == s
        · go_wp2_with (go_at_call 104; refine (shard_any _ _).mono ?_; rintro e w' ⟨rfl, rfl⟩)
          go_roundw
          case rel => exact ⟨k + 1, by omega, by go_num, any_step hlt Hq.out hno (by rw [hm.out, t1]; rfl), hBw.alloc hsz _⟩
          case measure => simp [intOf]; omega
        · go_wp2_with (go_at_call 104; refine (shard_any _ _).mono ?_; rintro e w' ⟨rfl, rfl⟩)
          refine (meets_any q0 q1 q2 a' cap' ys _ hl' (hy' _)).mono ?_
          rintro e w1 ⟨rfl, hb1⟩
          have hb2 : Below w.heap.size w w1 := (hBw.alloc hsz _).trans (hb1.mono (by simp; omega))
          clear hb1
          cases t2 : meetsL (q0, q1, q2) ys
          · go_wp2
            go_roundw
            case rel => exact ⟨k + 1, by omega, by go_num, any_step hlt Hq.out hno (by rw [hm.out, t1, t2]; rfl), hb2⟩
            case measure => simp [intOf]; omega
          · go_wp2
            go_ret
            exact ⟨ret_bool (any_hit hlt Hq.out (by rw [hm.out, t1, t2]; rfl)).symm, hb2⟩
      · go_wp2
        go_ret
        exact ⟨ret_bool (any_end hlt hno).symm, hBw⟩

end Go.Proofs.Ytkoefoccbjhoiab

namespace Go.Proofs.Ytkoefoccbjhoiab
open Go.RowKit

def goodB (o : OpL) : Bool := decide (0 ≤ o.2.1 ∧ o.2.1 < 8 ∧ (o.1 = 1 ∧ o.2.2 = 0 ∨ (o.1 = 2 ∨ o.1 = 3) ∧ -1099511627776 ≤ o.2.2 ∧ o.2.2 ≤ 1099511627776))

theorem near_eq (n : Int) : (n == near n) = decide (-1099511627776 ≤ n ∧ n ≤ 1099511627776) := by
  rw [Bool.eq_iff_iff]
  simp only [beq_iff_eq, decide_eq_true_eq]
  unfold near
  split
  · omega
  · split <;> omega

set_option maxRecDepth 100000 in
set_option maxHeartbeats 400000 in
theorem goodOp_any (o0 o1 o2 : Int) (w : World) :
    Calls Try.prog 124 #[.agg #[.int .i64 o0, .int .i64 o1, .int .i64 o2]] w fun e w' => e = .returned (.bool (goodB (o0, o1, o2))) ∧ Below w.heap.size w w' := by
  by_cases h1 : o1 < 0
  · have E : Hid (goodB (o0, o1, o2) = false) := by unfold goodB Hid; simp; omega
    go_enter Try.func124, Try.ntmps124
    go_wp2
    go_ret
    exact ⟨ret_bool E.out.symm, (Below.refl _ _).alloc (Nat.le_refl _) _⟩
  · by_cases h2 : 8 ≤ o1
    · have E : Hid (goodB (o0, o1, o2) = false) := by unfold goodB Hid; simp; omega
      go_enter Try.func124, Try.ntmps124
      go_wp2
      go_ret
      exact ⟨ret_bool E.out.symm, (Below.refl _ _).alloc (Nat.le_refl _) _⟩
    · cases t1 : o0 == 1
      · cases t2 : o0 == 2
        · cases t3 : o0 == 3
          · have E : Hid (goodB (o0, o1, o2) = false) := by simp at t1 t2 t3; unfold goodB Hid; simp; omega
            go_enter Try.func124, Try.ntmps124
            go_wp2
            go_ret
            exact ⟨ret_bool E.out.symm, (Below.refl _ _).alloc (Nat.le_refl _) _⟩
          · have E : Hid (goodB (o0, o1, o2) = (o2 == near o2)) := by simp at t3; rw [Hid, near_eq, Bool.eq_iff_iff]; unfold goodB; simp; omega
            go_enter Try.func124, Try.ntmps124
            go_wp2
            go_quiet ((go_at_call 139; exact Calls.quiet_of_same (nearest_any _ _)))
            go_wp2
            go_ret
            exact ⟨ret_bool E.out.symm, below_drewN ((Below.refl _ _).alloc (Nat.le_refl _) _) _⟩
        · have E : Hid (goodB (o0, o1, o2) = (o2 == near o2)) := by simp at t2; rw [Hid, near_eq, Bool.eq_iff_iff]; unfold goodB; simp; omega
          go_enter Try.func124, Try.ntmps124
          go_wp2
          go_quiet ((go_at_call 139; exact Calls.quiet_of_same (nearest_any _ _)))
          go_wp2
          go_ret
          exact ⟨ret_bool E.out.symm, below_drewN ((Below.refl _ _).alloc (Nat.le_refl _) _) _⟩
      · have E : Hid (goodB (o0, o1, o2) = (o2 == 0)) := by simp at t1; rw [Hid, Bool.eq_iff_iff]; unfold goodB; simp; omega
        go_enter Try.func124, Try.ntmps124
        go_wp2
        go_ret
        exact ⟨ret_bool E.out.symm, (Below.refl _ _).alloc (Nat.le_refl _) _⟩

def keyB (k : Int) (p : OpL) : Bool := p.2.1 == k
/-- the k-th is good, and none ahead of it has its key -/
def goodAt (zs : List OpL) (k : Nat) : Bool := goodB (zs.getD k (0, 0, 0)) && !(zs.take k).any (keyB (zs.getD k (0, 0, 0)).2.1)
def goodOpsL (zs : List OpL) : Bool := decide (1 ≤ zs.length ∧ zs.length ≤ 4) && (List.range zs.length).all (goodAt zs)

theorem range_step {p : Nat → Bool} {k : Nat} (h : (List.range k).all p = true) (hk : p k = true) : (List.range (k + 1)).all p = true := by
  rw [List.range_succ, List.all_append, h]
  simp [hk]
theorem range_miss {p : Nat → Bool} {k n : Nat} (hn : k < n) (hk : p k = false) : (List.range n).all p = false :=
  List.all_eq_false.2 ⟨k, List.mem_range.2 hn, by simp [hk]⟩

theorem good_len {zs : List OpL} (h : zs.length < 1 ∨ 4 < zs.length) : goodOpsL zs = false := by
  unfold goodOpsL
  rw [decide_eq_false (by omega), Bool.false_and]
theorem good_len_yes {zs : List OpL} (h : ¬ zs.length < 1) (h' : ¬ 4 < zs.length) : goodOpsL zs = (List.range zs.length).all (goodAt zs) := by
  unfold goodOpsL
  rw [decide_eq_true (by omega), Bool.true_and]

def seenOf (zs : List OpL) (k : Nat) (i : Nat) : Bool := (zs.take k).any (keyB (i : Int))
theorem seen_step {zs : List OpL} {k m : Nat} {q0 q2 : Int} (hk : k < zs.length) (hq : zs.getD k (0, 0, 0) = (q0, (m : Int), q2)) (i : Nat) : (if i = m then true else seenOf zs k i) = seenOf zs (k + 1) i := by
  have : zs[k] = (q0, (m : Int), q2) := by rw [← hq]; simp [List.getD, hk]
  unfold seenOf
  rw [List.take_succ_eq_append_getElem hk, List.any_append, this]
  by_cases e : i = m
  · subst e
    simp [keyB]
  · rw [if_neg e]
    have : keyB (i : Int) (q0, (m : Int), q2) = false := by simp [keyB]; omega
    simp [this]

theorem SetAt.later {n : Nat} {w w' : World} {c B : Nat} {S : Nat → Bool} (h : SetAt n w c S) (hB : Below B w w') (hc : c < B) : SetAt n w' c S := by
  obtain ⟨t, h⟩ := h
  exact ⟨t, by rw [hB.block c hc]; exact h⟩

theorem zero8 : bools 8 (fun _ => false) = #[.bool false, .bool false, .bool false, .bool false, .bool false, .bool false, .bool false, .bool false] := by rfl

theorem goodAt_no1 {zs : List OpL} {k : Nat} {q : OpL} (hq : zs.getD k (0, 0, 0) = q) (h : goodB q = false) : goodAt zs k = false := by
  unfold goodAt
  rw [hq, h, Bool.false_and]
theorem goodAt_no2 {zs : List OpL} {k m : Nat} {q0 q2 : Int} (hq : zs.getD k (0, 0, 0) = (q0, (m : Int), q2)) (h : seenOf zs k m = true) : goodAt zs k = false := by
  unfold goodAt
  rw [hq]
  unfold seenOf at h
  simp only [h, Bool.not_true, Bool.and_false]
theorem goodAt_yes {zs : List OpL} {k m : Nat} {q0 q2 : Int} (hq : zs.getD k (0, 0, 0) = (q0, (m : Int), q2)) (h1 : goodB (q0, (m : Int), q2) = true) (h : seenOf zs k m = false) : goodAt zs k = true := by
  unfold goodAt
  rw [hq]
  unfold seenOf at h
  simp only [h, h1, Bool.not_false, Bool.and_true]
theorem goodB_key {q0 q1 q2 : Int} (h : goodB (q0, q1, q2) = true) : 0 ≤ q1 ∧ q1 < 8 := by
  unfold goodB at h
  have := of_decide_eq_true h
  exact ⟨this.1, this.2.1⟩

set_option maxRecDepth 100000 in
set_option maxHeartbeats 1000000 in
theorem goodOps_any (a : Option Addr) (cap : Nat) (zs : List OpL) (w : World) (hl : zs.length ≤ maxLen) (hz : OpsAt w a zs) :
    Calls Try.prog 90 #[.slice a zs.length cap] w fun e w' => e = .returned (.bool (goodOpsL zs)) ∧ Below w.heap.size w w' := by
  unfold maxLen at hl
  by_cases h1 : zs.length < 1
  · have E : Hid (goodOpsL zs = false) := good_len (Or.inl h1)
    go_enter Try.func90, Try.ntmps90
    go_wp2
    go_ret
    exact ⟨ret_bool E.out.symm, Below.refl _ _⟩
  by_cases h2 : 4 < zs.length
  · have E : Hid (goodOpsL zs = false) := good_len (Or.inr h2)
    go_enter Try.func90, Try.ntmps90
    go_wp2
    go_ret
    exact ⟨ret_bool E.out.symm, Below.refl _ _⟩
  have E : Hid (goodOpsL zs = (List.range zs.length).all (goodAt zs)) := good_len_yes h1 h2
  rcases hz with rfl | ⟨b, off, rfl, hb, hc⟩
  · simp at h1
  go_enter Try.func90, Try.ntmps90
  go_wp2
  rw [← zero8]
  go_loopw [16] (fun i wr => ∃ k : Nat, k ≤ zs.length ∧ i = .int .i64 k ∧ Hid ((List.range k).all (goodAt zs) = true) ∧ SetAt 8 wr w.heap.size (seenOf zs k) ∧ Below w.heap.size w wr) (fun i _ => zs.length - (intOf i).toNat)
  case atStart => exact ⟨0, Nat.zero_le _, rfl, rfl, ⟨139, heap_new _ _⟩, (Below.refl _ _).alloc (Nat.le_refl _) _⟩
  case round =>
    obtain ⟨k, hk, rfl, hall, hS, hBw⟩ := hrel
    have hsz := hBw.size
    have hcl := hS.lt
    by_cases hlt : k < zs.length
    · obtain ⟨q0, q1, q2, Hq, e0, e1, e2⟩ := OpsAt.at hc hb hBw hlt
      clear hc
      go_wp2_with fail
      refine (goodOp_any q0 q1 q2 _).mono ?_
      rintro e w1 ⟨rfl, hb1⟩
      have f1 := hb1.cell (p := ⟨wr.heap.size, 1, none⟩) (by simp)
      simp at f1
      have hS1 : SetAt 8 w1 w.heap.size (seenOf zs k) := (hS.later ((Below.refl _ _).alloc (Nat.le_refl _) _) hcl).later hb1 (by simp; omega)
      have hb2 : Below w.heap.size w w1 := (hBw.alloc hsz _).trans (hb1.mono (by simp; omega))
      have hz1 : wr.heap.size < w1.heap.size := by have := hb1.size; simp at this; omega
      clear hb1
      cases tg : goodB (q0, q1, q2)
      · have N : Hid (goodOpsL zs = false) := by unfold Hid; rw [E.out]; exact range_miss hlt (goodAt_no1 Hq.out tg)
        go_wp2
        go_ret
        exact ⟨ret_bool N.out.symm, hb2⟩
      · obtain ⟨k0, k1⟩ := goodB_key tg
        obtain ⟨m, rfl⟩ := Int.eq_ofNat_of_zero_le k0
        have hm : m < 8 := by omega
        have g1 := hS1.cell hm
        have g2 := hS1.frozen m
        cases ts : seenOf zs k m
        · rw [ts] at g1
          have Y : Hid ((List.range (k + 1)).all (goodAt zs) = true) := range_step hall.out (goodAt_yes Hq.out tg ts)
          have HS : SetAt 8 (w1.setCell ⟨w.heap.size, m, none⟩ (.bool true)) w.heap.size (seenOf zs (k + 1)) := (hS1.put m true).congr (fun i _ => seen_step hlt Hq.out i)
          clear hS1 hS
          go_wp2
          go_roundw
          case rel => exact ⟨k + 1, by omega, by go_num, Y, HS, hb2.setCell (by simp) _⟩
          case measure => simp [intOf]; omega
        · rw [ts] at g1
          have N : Hid (goodOpsL zs = false) := by unfold Hid; rw [E.out]; exact range_miss hlt (goodAt_no2 Hq.out ts)
          go_wp2
          go_ret
          exact ⟨ret_bool N.out.symm, hb2⟩
    · have N : Hid (goodOpsL zs = true) := by
        unfold Hid
        have : k = zs.length := by omega
        rw [E.out, ← this]
        exact hall.out
      go_wp2
      go_ret
      exact ⟨ret_bool N.out.symm, hBw⟩

end Go.Proofs.Ytkoefoccbjhoiab

namespace Go.Proofs.Ytkoefoccbjhoiab
open Go.RowKit

def risingFrom : Int → List Int → Bool
  | _, [] => true
  | l, n :: r => !(decide (n ≤ l) || decide (32 ≤ n)) && risingFrom n r

theorem drop_at {zs : List Int} {k : Nat} {q : Int} (hk : k < zs.length) (hq : zs.getD k 0 = q) : zs.drop k = q :: zs.drop (k + 1) := by
  rw [List.drop_eq_getElem_cons hk]
  have : zs[k] = q := by rw [← hq]; simp [List.getD, hk]
  rw [this]

theorem rising_no {zs : List Int} {k : Nat} {q l m : Int} (hk : k < zs.length) (hq : zs.getD k 0 = q) (h : risingFrom m zs = risingFrom l (zs.drop k)) (hn : q ≤ l ∨ 32 ≤ q) : risingFrom m zs = false := by
  rw [h, drop_at hk hq, risingFrom]
  have : (decide (q ≤ l) || decide (32 ≤ q)) = true := by simpa using hn
  rw [this]
  rfl
theorem rising_yes {zs : List Int} {k : Nat} {q l m : Int} (hk : k < zs.length) (hq : zs.getD k 0 = q) (h : risingFrom m zs = risingFrom l (zs.drop k)) (h1 : ¬ q ≤ l) (h2 : ¬ 32 ≤ q) : risingFrom m zs = risingFrom q (zs.drop (k + 1)) := by
  rw [h, drop_at hk hq, risingFrom]
  simp [h1, h2]
theorem rising_end {zs : List Int} {k : Nat} {l m : Int} (hk : ¬ k < zs.length) (h : risingFrom m zs = risingFrom l (zs.drop k)) : risingFrom m zs = true := by
  rw [h, List.drop_of_length_le (by omega)]
  rfl

set_option maxRecDepth 100000 in
set_option maxHeartbeats 400000 in
theorem rising_any (a : Option Addr) (cap : Nat) (zs : List Int) (w : World) (hl : zs.length ≤ maxLen) (hz : IntsAt w.heap.size w a zs) :
    Calls Try.prog 97 #[.slice a zs.length cap] w fun e w' => e = .returned (.bool (risingFrom (-1) zs)) ∧ w' = w := by
  unfold maxLen at hl
  rcases hz with rfl | ⟨b, off, rfl, hb, hc⟩
  · go_enter Try.func97, Try.ntmps97
    go_wp2
    refine wp_loop_rounds 1 ?_; rw [rounds_succ]
    go_wp2
    go_ret
    exact ⟨rfl, rfl⟩
  · go_enter Try.func97, Try.ntmps97
    go_wp2
    go_loop [3, 8] (fun l i => ∃ (k : Nat) (q : Int), k ≤ zs.length ∧ i = .int .i64 k ∧ l = .int .i64 q ∧ Hid (risingFrom (-1) zs = risingFrom q (zs.drop k))) (fun _ i => zs.length - (intOf i).toNat)
    case atStart => exact ⟨0, -1, Nat.zero_le _, rfl, rfl, rfl⟩
    case round =>
      obtain ⟨k, l, hk, rfl, rfl, hno⟩ := hrel
      by_cases hlt : k < zs.length
      · obtain ⟨q, Hq, e0⟩ := IntsAt.at hc hb (Below.refl _ _) hlt
        clear hc
        by_cases t1 : q ≤ l
        · go_wp2
          go_ret
          exact ⟨ret_bool (rising_no hlt Hq.out hno.out (Or.inl t1)).symm, rfl⟩
        · by_cases t2 : 32 ≤ q
          · go_wp2
            go_ret
            exact ⟨ret_bool (rising_no hlt Hq.out hno.out (Or.inr t2)).symm, rfl⟩
          · go_wp2
            go_round
            case rel => exact ⟨k + 1, q, by omega, by go_num, rfl, rising_yes hlt Hq.out hno.out t1 t2⟩
            case measure => simp [intOf]; omega
      · go_wp2
        go_ret
        exact ⟨ret_bool (rising_end hlt hno.out).symm, rfl⟩

end Go.Proofs.Ytkoefoccbjhoiab
