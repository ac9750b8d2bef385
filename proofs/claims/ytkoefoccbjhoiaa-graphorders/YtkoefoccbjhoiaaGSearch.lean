/-
  The contracts of package graph's searchFrom, allKnown and Reach.
-/
import Derived.Test.YtkoefoccbjhoiaaGVisit
set_option linter.unusedVariables false
set_option linter.unusedSimpArgs false
namespace Go.Proofs.Ytkoefoccbjhoiaa
open Go.RowKit

/-- The cells of a graph of nothing. -/
def gv0 (o : Nat) : Value := if o < 32 then .bool false else .slice none 0 0
set_option maxRecDepth 100000 in
theorem Try.zeroSearch : (Try.prog.info? 89).map (fun i => (i.zero, i.size)) = some (some (.agg (rowF 1186 (sCell gv0 St.none (.slice none 0 0)))), 1186) := by kernel_rfl
theorem Try.places : (match Try.prog.underlying 89 with | some (.struct fields) => fields.toList.mapM (fun f => (Try.prog.info? f.type).map fun i => (f.offset, i.size)) | _ => none) = some [(0, 64), (64, 1), (65, 32), (97, 32), (129, 1), (130, 32), (162, 1024)] := by kernel_rfl
theorem Try.infoGraph : (Try.prog.info? 63).map (·.size) = some 64 := by kernel_rfl
theorem Try.sizeGraph (gv : Nat → Value) : (Try.prog.info? 63).map (·.size) = some (rowF 64 gv).size := by rw [rowF_size]; exact Try.infoGraph

theorem foldl_row {N : Nat} : ∀ (vs : List Value) (k : Nat) (f : Nat → Value), (vs.zipIdx k).foldl (fun cs (x : Value × Nat) => cs.setIfInBounds (0 + x.2) x.1) (rowF N f) = rowF N (fun i => if k ≤ i ∧ i < k + vs.length then vs.getD (i - k) (.bool false) else f i)
  | [], k, f => by
    simp only [List.zipIdx_nil, List.foldl_nil]
    refine rowF_congr fun i _ => ?_
    rw [if_neg (by simp)]
  | v :: vs, k, f => by
    rw [List.zipIdx_cons, List.foldl_cons, rowF_set, foldl_row vs (k + 1)]
    refine rowF_congr fun i _ => ?_
    simp only [List.length_cons, Nat.zero_add]
    by_cases e : i = k
    · subst e
      rw [if_neg (by omega), if_pos rfl, if_pos (by omega)]
      simp
    · by_cases e2 : k + 1 ≤ i ∧ i < k + 1 + vs.length
      · rw [if_pos e2, if_pos (by omega)]
        obtain ⟨j, hj⟩ : ∃ j, i - k = j + 1 := ⟨i - k - 1, by omega⟩
        rw [hj, show i - (k + 1) = j by omega]
        simp
      · rw [if_neg e2, if_neg e, if_neg (by omega)]

theorem built_struct {P : Program} {t : TypeId} {it : TypeInfo} {fields : Array Field} {z : Value} {places : List (Nat × Nat)} (parts : List (Nat × Value)) (hi : P.info? t = some it) (hu : P.underlying t = some (.struct fields)) (hz : it.zero = some z)
    (hp : fields.toList.mapM (fun f => (P.info? f.type).map fun i => (f.offset, i.size)) = some places) : P.built t parts = Instr.fill (places.toArray[·]?) z.cells parts := by
  unfold Program.built
  rw [hi, hu]
  simp only [hz, hp]

theorem fill_one {place : Nat → Option (Nat × Nat)} {cells : Array Value} {size : Nat} {gr : Array Value} (h : place 0 = some (0, size)) (hs : gr.size = size) (hl : size ≤ cells.size) :
    Instr.fill place cells [(0, .agg gr)] = some ((gr.toList.zipIdx 0).foldl (fun cs (x : Value × Nat) => cs.setIfInBounds (0 + x.2) x.1) cells) := by
  have e1 : (Value.agg gr).cells = gr := rfl
  unfold Instr.fill
  rw [h]
  simp only [e1]
  rw [if_neg (by simp; omega)]
  unfold Instr.fill
  congr 1
  rw [← Array.foldl_toList]
  simp
set_option maxRecDepth 100000 in
theorem Try.builtSearch (gv : Nat → Value) : Try.prog.built 89 [(0, .agg (rowF 64 gv))] = some (rowF 1186 (sCell gv St.none (.slice none 0 0))) := by
  obtain ⟨it, hi, hz⟩ : ∃ it, Try.prog.info? 89 = some it ∧ it.zero = some (.agg (rowF 1186 (sCell gv0 St.none (.slice none 0 0)))) := by
    have h := Try.zeroSearch
    cases hq : Try.prog.info? 89 with
    | none => rw [hq] at h; cases h
    | some it =>
      rw [hq] at h
      simp only [Option.map_some, Option.some.injEq, Prod.mk.injEq] at h
      exact ⟨it, rfl, h.1⟩
  have hp := Try.places
  rw [Try.underlying89] at hp
  rw [built_struct _ hi Try.underlying89 hz hp]
  have e2 : ∀ r : Array Value, (Value.agg r).cells = r := fun _ => rfl
  rw [e2, fill_one (size := 64) rfl (rowF_size _ _) (by rw [rowF_size]; decide), foldl_row]
  refine congrArg some (rowF_congr fun i _ => ?_)
  have hl : (rowF 64 gv).toList.length = 64 := by simp [rowF]
  rw [hl]
  by_cases e : i < 64
  · rw [if_pos (by omega), sCell_graph _ _ _ e]
    simp [rowF, e]
  · rw [if_neg (by omega)]
    unfold sCell
    rw [if_neg e, if_neg e]

theorem wpList_build_to {P : Program} {w : World} {ops : Array Oper} {rest : List Oper} {o : Oper} {a : Act} {Q : Exit → Act → World → Prop} (hg : o.guard = none) (t : TypeId) (parts : Array (Nat × Operand)) (ho : o.op = .build t parts) (vs : List (Nat × Value))
    (hv : (parts.map fun (i, x) => (i, a.eval x)).toList = vs) (cs : Array Value) (hb : P.built t vs = some cs) (h : wpList P ops Q rest (a.put o.dst (.agg cs)) w) : wpList P ops Q (o :: rest) a w := by
  subst hv
  refine wpList_build hg t parts ho (by rw [hb]; rfl) ?_
  rw [hb]
  exact h

set_option maxRecDepth 100000 in
set_option maxHeartbeats 800000 in
theorem searchFrom_any (gv : Nat → Value) (g : GraphL) (n : Nat) (w : World) (hn : n < 32) (hg : GraphC w.heap.size w gv g) :
    Calls Try.prog 85 #[.agg (rowF 64 gv), .int .i64 n] w fun e w' => ∃ c sv, e = .returned (.pointer (some ⟨c, 0, none⟩)) ∧ w.heap.size ≤ c ∧ StAt w' c gv (visitL g.adj 32 St.none n) sv ∧ Below w.heap.size w w' := by
  have hb := Try.builtSearch gv
  obtain ⟨row, hrow⟩ : ∃ row, row = rowF 1186 (sCell gv St.none (.slice none 0 0)) := ⟨_, rfl⟩
  obtain ⟨gr, hgr⟩ : ∃ gr, gr = rowF 64 gv := ⟨_, rfl⟩
  have hsz := Try.sizeGraph gv
  rw [← hrow, ← hgr] at hb
  rw [← hgr] at hsz ⊢
  have HR : Hid (row = rowF 1186 (sCell gv St.none (.slice none 0 0))) := hrow
  clear hrow hgr
  have hv : ∀ wx : World, wx.heap.size = w.heap.size + 1 → Below w.heap.size w wx → Calls Try.prog 93 #[.pointer (some ⟨w.heap.size + 1, 0, none⟩), .int .i64 n] (wx.alloc (.cells row 89)) fun e w' => e = .returned (.tuple #[]) ∧ ∃ sv', StAt w' (w.heap.size + 1) gv (visitL g.adj 32 St.none n) sv' ∧ Below w.heap.size w w' := by
    intro wx hx hbx
    have hs : StAt (wx.alloc (.cells row 89)) (w.heap.size + 1) gv St.none (.slice none 0 0) := ⟨89, by rw [← hx, ← HR.out]; exact heap_new _ _⟩
    have hb1 : Below w.heap.size w (wx.alloc (.cells row 89)) := hbx.alloc (by omega) _
    refine (visit_any (w.heap.size + 1) gv g 32 St.none n (.slice none 0 0) _ (pre_none g.adj hn) (by simp [St.none]) hs (World.ownsRow_nil _ _ _ _) ((hg.later hb1).mono (by omega))).mono ?_
    rintro e w' ⟨rfl, sv', h1, _, h3⟩
    exact ⟨rfl, sv', h1, hb1.trans (h3.mono (by omega))⟩
  go_enter Try.func85, Try.ntmps85
  go_wp2_with (first
    | (refine wpList_load_row rfl 63 _ rfl w.heap.size rfl 63 gr (0, 0) _ (heap_new _ _) Try.underlying63 rfl hsz ?_)
    | (refine wpList_build_to rfl 89 _ rfl [(0, .agg gr)] (by simp [Act.eval, Act.put]) row hb ?_))
  refine (hv _ (by rw [size_push]) ((Below.refl _ _).alloc (Nat.le_refl _) _)).mono ?_
  rintro e w' ⟨rfl, sv', h1, h2⟩
  go_wp2_with fail
  go_ret
  exact ⟨_, sv', rfl, by omega, h1, h2⟩

end Go.Proofs.Ytkoefoccbjhoiaa
