/-
  The contracts of package wire's appendWide and Encode.
  The contracts of the document's own isTxn, has and SameNumbers.
  The contract of the document's own IsRising.
  Plain mathematics of our own: the reader at a place of a text, and what a text's length tells of a frame.
  The contracts of the document's own SameOps and SameFrame, of fromSix and of the closure of DecodeFrame.
  The contracts of the document's own SameNumbers and SameOps, held against nothing.
-/
import Derived.Test.YtkoefoccbjhoiabPbg6
import Derived.Laws.IdiomStrings
import Derived.Test.YtkoefoccbjhoiabPbg1
import Derived.Test.YtkoefoccbjhoiabPbg2
import Derived.Test.YtkoefoccbjhoiabPbg3
set_option linter.unusedVariables false
set_option linter.unusedSimpArgs false
namespace Go.Proofs.Ytkoefoccbjhoiab
open Go.RowKit

def byCells (l : List UInt8) : List Value := l.map fun c => .int .u8 (c.toNat : Int)
theorem byCells_app (l m : List UInt8) : byCells (l ++ m) = byCells l ++ byCells m := by simp [byCells]
theorem byCells_one (n : Int) : byCells [byt n] = [.int .u8 (n % 256)] := by
  have : ((byt n).toNat : Int) = n % 256 := by rw [← byt_mod n]; exact byt_nat (by omega) (by omega)
  simp [byCells, this]
theorem Try.infoByte : (Try.prog.info? 5).map (fun i => (i.zero, i.size, i.bytes)) = some (some (.int .u8 0), 1, 1) := by kernel_rfl

/-- the row was v's, or is one that was made since -/
def RowOf (w : World) (v v' : Value) : Prop := v'.ownBlock = v.ownBlock ∨ ∃ g, v'.ownBlock = some g ∧ w.heap.size ≤ g
theorem grown_row {w w1 w2 : World} {v v1 : Value} (h : w.grownBy w1 v.ownBlock) (hr : RowOf w v v1) (k : w1.grownBy w2 v1.ownBlock) : w.grownBy w2 v.ownBlock :=
  ⟨k.os.trans h.os, k.tape.trans h.tape, k.output.trans h.output, Nat.le_trans h.size k.size, fun i hi hn => (k.block i (Nat.lt_of_lt_of_le hi h.size) (by
    rcases hr with e | ⟨g, e, hg⟩
    · rw [e]; exact hn
    · rw [e]; simp; omega)).trans (h.block i hi hn)⟩
theorem row_next {w : World} {v v1 : Value} {g n cap H : Nat} (hr : RowOf w v v1) (hs : w.heap.size ≤ H) (hat : v1.ownBlock = some g ∨ g = H) : RowOf w v (.slice (some ⟨g, 0, none⟩) n cap) := by
  rcases hat with h | rfl
  · rcases hr with e | ⟨g', e, hg⟩
    · left; rw [← e, h]; rfl
    · right; rw [h] at e; simp at e; exact ⟨g, rfl, by omega⟩
  · right; exact ⟨g, rfl, hs⟩
theorem grown_past {w1 w2 : World} {row : Option Nat} {o : Obj} (k : (w1.alloc o).grownBy w2 row) : w1.grownBy w2 row :=
  ⟨k.os, k.tape, k.output, by have := k.size; simp at this; omega, fun i hi hn => (k.block i (by simp; omega) hn).trans (Below.heap_alloc _ _ _ hi)⟩

theorem byt_val (x : Int) : ((byt x).toNat : Int) = x % 256 := by rw [← byt_mod x]; exact byt_nat (by omega) (by omega)
theorem six_steps {q : Int} (h0 : 0 ≤ q) (h1 : q < 281474976710656) :
    byCells ((sixAt q).take 1) = byCells ((sixAt q).take 0) ++ [.int .u8 (q / 1099511627776)] ∧ byCells ((sixAt q).take 2) = byCells ((sixAt q).take 1) ++ [.int .u8 (q / 4294967296 % 256)] ∧
    byCells ((sixAt q).take 3) = byCells ((sixAt q).take 2) ++ [.int .u8 (q / 16777216 % 256)] ∧ byCells ((sixAt q).take 4) = byCells ((sixAt q).take 3) ++ [.int .u8 (q / 65536 % 256)] ∧
    byCells ((sixAt q).take 5) = byCells ((sixAt q).take 4) ++ [.int .u8 (q / 256 % 256)] ∧ byCells ((sixAt q).take 6) = byCells ((sixAt q).take 5) ++ [.int .u8 (q % 256)] := by
  have e : q / 1099511627776 % 256 = q / 1099511627776 := by omega
  simp [sixAt, byCells, byt_val, e]

theorem one_any (u : Value) (h : u.oneCell' = true) : ∀ x ∈ [u], x.oneCell' = true := by simpa using h

set_option maxRecDepth 100000 in
set_option maxHeartbeats 1000000 in
theorem appendWide_any (base : Nat) (v : Value) (m : Nat) (xs : List Value) (n : Int) (w : World) (hown : w.ownsRow base 5 1 v m xs) (hm : m ≤ 1000) (hb : base ≤ w.heap.size) (h0 : -140737488355328 ≤ n) (h1 : n < 140737488355328) :
    Calls Try.prog 88 #[v, .int .i64 n] w fun e w' => ∃ v', e = .returned v' ∧ w'.ownsRow base 5 1 v' (m + 6) (xs ++ byCells (six n)) ∧ w.grownBy w' v.ownBlock ∧ RowOf w v v' := by
  obtain ⟨i0, hi, hz0, hz1, hz2⟩ := info_parts Try.infoByte
  obtain ⟨q, hq⟩ : ∃ q, q = n + 140737488355328 := ⟨_, rfl⟩
  have q0 : 0 ≤ q := by omega
  have q1 : q < 281474976710656 := by omega
  have HS : Hid (six n = sixAt q) := by unfold Hid six; rw [hq]
  have HQ : Hid (n + 140737488355328 = q) := hq.symm
  clear hq
  go_enter Try.func88, Try.ntmps88
  go_wp2
  rw [HQ.out]
  go_loopw [0, 5] (fun u i wr => ∃ (k : Nat), k ≤ 6 ∧ i = .int .i64 (5 - k) ∧ wr.ownsRow base 5 1 u (m + k) (xs ++ byCells ((sixAt q).take k)) ∧ w.grownBy wr v.ownBlock ∧ RowOf w v u) (fun _ i _ => (intOf i + 1).toNat)
  case atStart => exact ⟨0, by omega, rfl, by simpa [byCells] using hown, ⟨rfl, rfl, rfl, Nat.le_refl _, fun _ _ _ => rfl⟩, Or.inl rfl⟩
  case round =>
    obtain ⟨k, hk, rfl, ho, hg, hr⟩ := hrel
    have hk' : k = 0 ∨ k = 1 ∨ k = 2 ∨ k = 3 ∨ k = 4 ∨ k = 5 ∨ k = 6 := by omega
    obtain ⟨e1, e2, e3, e4, e5, e6⟩ := six_steps q0 q1
    have E1 : Hid _ := e1
    have E2 : Hid _ := e2
    have E3 : Hid _ := e3
    have E4 : Hid _ := e4
    have E5 : Hid _ := e5
    have E6 : Hid _ := e6
    clear e1 e2 e3 e4 e5 e6
    have hgs := hg.size
    have hbs : base ≤ wr.heap.size + 1 := by omega
    rcases hk' with rfl | rfl | rfl | rfl | rfl | rfl | rfl
    · go_wp2_with (first
        | (at_builtin; refine wpList_append_lies _ (by rfl) _ _ 112 (by rfl) base 5 i0 (.int .u8 0) 1 1 Try.underlying112 hi hz0 hz1 hz2 rfl (by decide) _ _ _ (by rfl) (ho.alloc _) ⟨wr.heap.size, 0, none⟩ 1 1 [_] (by rfl) (by rfl) (World.news_of_block (cs := #[_]) (fr := (0, 0)) (heap_new wr _)) ?c2 (by decide) ?c3 ?c4 ?c5 (wr.heap.size + 1) ?c6 ?_)
        | go_in)
      case c2 => exact one_any _ rfl
      case c3 => unfold maxLen; omega
      case c4 => omega
      case c5 => rw [alloc_size]; exact hbs
      case c6 => exact alloc_size _ _
      intro g cap w3 hown' hgrow hat hlt
      have hg' := grown_row hg hr (grown_past hgrow)
      have hr' := row_next (n := m + 0 + 1) (cap := cap) hr (by omega) hat
      clear hgrow hat
      go_wp2
      exact ⟨⟨1, by decide, rfl, by rw [E1.out]; simpa [Nat.add_assoc] using hown', hg', hr'⟩, by simp [intOf]⟩
    · go_wp2_with (first
        | (at_builtin; refine wpList_append_lies _ (by rfl) _ _ 112 (by rfl) base 5 i0 (.int .u8 0) 1 1 Try.underlying112 hi hz0 hz1 hz2 rfl (by decide) _ _ _ (by rfl) (ho.alloc _) ⟨wr.heap.size, 0, none⟩ 1 1 [_] (by rfl) (by rfl) (World.news_of_block (cs := #[_]) (fr := (0, 0)) (heap_new wr _)) ?c2 (by decide) ?c3 ?c4 ?c5 (wr.heap.size + 1) ?c6 ?_)
        | go_in)
      case c2 => exact one_any _ rfl
      case c3 => unfold maxLen; omega
      case c4 => omega
      case c5 => rw [alloc_size]; exact hbs
      case c6 => exact alloc_size _ _
      intro g cap w3 hown' hgrow hat hlt
      have hg' := grown_row hg hr (grown_past hgrow)
      have hr' := row_next (n := m + 1 + 1) (cap := cap) hr (by omega) hat
      clear hgrow hat
      go_wp2
      exact ⟨⟨2, by decide, rfl, by rw [E2.out]; simpa [Nat.add_assoc] using hown', hg', hr'⟩, by simp [intOf]⟩
    · go_wp2_with (first
        | (at_builtin; refine wpList_append_lies _ (by rfl) _ _ 112 (by rfl) base 5 i0 (.int .u8 0) 1 1 Try.underlying112 hi hz0 hz1 hz2 rfl (by decide) _ _ _ (by rfl) (ho.alloc _) ⟨wr.heap.size, 0, none⟩ 1 1 [_] (by rfl) (by rfl) (World.news_of_block (cs := #[_]) (fr := (0, 0)) (heap_new wr _)) ?c2 (by decide) ?c3 ?c4 ?c5 (wr.heap.size + 1) ?c6 ?_)
        | go_in)
      case c2 => exact one_any _ rfl
      case c3 => unfold maxLen; omega
      case c4 => omega
      case c5 => rw [alloc_size]; exact hbs
      case c6 => exact alloc_size _ _
      intro g cap w3 hown' hgrow hat hlt
      have hg' := grown_row hg hr (grown_past hgrow)
      have hr' := row_next (n := m + 2 + 1) (cap := cap) hr (by omega) hat
      clear hgrow hat
      go_wp2
      exact ⟨⟨3, by decide, rfl, by rw [E3.out]; simpa [Nat.add_assoc] using hown', hg', hr'⟩, by simp [intOf]⟩
    · go_wp2_with (first
        | (at_builtin; refine wpList_append_lies _ (by rfl) _ _ 112 (by rfl) base 5 i0 (.int .u8 0) 1 1 Try.underlying112 hi hz0 hz1 hz2 rfl (by decide) _ _ _ (by rfl) (ho.alloc _) ⟨wr.heap.size, 0, none⟩ 1 1 [_] (by rfl) (by rfl) (World.news_of_block (cs := #[_]) (fr := (0, 0)) (heap_new wr _)) ?c2 (by decide) ?c3 ?c4 ?c5 (wr.heap.size + 1) ?c6 ?_)
        | go_in)
      case c2 => exact one_any _ rfl
      case c3 => unfold maxLen; omega
      case c4 => omega
      case c5 => rw [alloc_size]; exact hbs
      case c6 => exact alloc_size _ _
      intro g cap w3 hown' hgrow hat hlt
      have hg' := grown_row hg hr (grown_past hgrow)
      have hr' := row_next (n := m + 3 + 1) (cap := cap) hr (by omega) hat
      clear hgrow hat
      go_wp2
      exact ⟨⟨4, by decide, rfl, by rw [E4.out]; simpa [Nat.add_assoc] using hown', hg', hr'⟩, by simp [intOf]⟩
    · go_wp2_with (first
        | (at_builtin; refine wpList_append_lies _ (by rfl) _ _ 112 (by rfl) base 5 i0 (.int .u8 0) 1 1 Try.underlying112 hi hz0 hz1 hz2 rfl (by decide) _ _ _ (by rfl) (ho.alloc _) ⟨wr.heap.size, 0, none⟩ 1 1 [_] (by rfl) (by rfl) (World.news_of_block (cs := #[_]) (fr := (0, 0)) (heap_new wr _)) ?c2 (by decide) ?c3 ?c4 ?c5 (wr.heap.size + 1) ?c6 ?_)
        | go_in)
      case c2 => exact one_any _ rfl
      case c3 => unfold maxLen; omega
      case c4 => omega
      case c5 => rw [alloc_size]; exact hbs
      case c6 => exact alloc_size _ _
      intro g cap w3 hown' hgrow hat hlt
      have hg' := grown_row hg hr (grown_past hgrow)
      have hr' := row_next (n := m + 4 + 1) (cap := cap) hr (by omega) hat
      clear hgrow hat
      go_wp2
      exact ⟨⟨5, by decide, rfl, by rw [E5.out]; simpa [Nat.add_assoc] using hown', hg', hr'⟩, by simp [intOf]⟩
    · go_wp2_with (first
        | (at_builtin; refine wpList_append_lies _ (by rfl) _ _ 112 (by rfl) base 5 i0 (.int .u8 0) 1 1 Try.underlying112 hi hz0 hz1 hz2 rfl (by decide) _ _ _ (by rfl) (ho.alloc _) ⟨wr.heap.size, 0, none⟩ 1 1 [_] (by rfl) (by rfl) (World.news_of_block (cs := #[_]) (fr := (0, 0)) (heap_new wr _)) ?c2 (by decide) ?c3 ?c4 ?c5 (wr.heap.size + 1) ?c6 ?_)
        | go_in)
      case c2 => exact one_any _ rfl
      case c3 => unfold maxLen; omega
      case c4 => omega
      case c5 => rw [alloc_size]; exact hbs
      case c6 => exact alloc_size _ _
      intro g cap w3 hown' hgrow hat hlt
      have hg' := grown_row hg hr (grown_past hgrow)
      have hr' := row_next (n := m + 5 + 1) (cap := cap) hr (by omega) hat
      clear hgrow hat
      go_wp2
      exact ⟨⟨6, by decide, rfl, by rw [E6.out]; simpa [Nat.add_assoc] using hown', hg', hr'⟩, by simp [intOf]⟩
    · go_wp2
      go_ret
      exact ⟨_, rfl, by rw [HS.out]; exact ho, hg, hr⟩

def encE (f : FrameL) : List UInt8 := if goodL f = 0 then encL f else []
theorem heap_new2 (w : World) (o p : Obj) : ((w.alloc o).alloc p).heap[w.heap.size + 1]? = some p := by
  have := heap_new (w.alloc o) p
  rwa [alloc_size] at this
theorem row_lt {w : World} {base : Nat} {e : TypeId} {size : Nat} {v : Value} {n : Nat} {xs : List Value} (h : w.ownsRow base e size v n xs) : some w.heap.size ≠ v.ownBlock := by
  intro e
  have := (h.lt _ e.symm).2
  omega
theorem encOps_take {zs : List OpL} {k : Nat} {o : OpL} (hk : k < zs.length) (ho : zs.getD k (0, 0, 0) = o) : encOps (zs.take (k + 1)) = encOps (zs.take k) ++ (byt o.1 :: byt o.2.1 :: six o.2.2) := by
  have : zs[k] = o := by rw [← ho]; simp [List.getD, hk]
  rw [List.take_succ_eq_append_getElem hk, this]
  simp [encOps]
theorem getD_mem {α : Type} {zs : List α} {k : Nat} {d x : α} (hk : k < zs.length) (hx : zs.getD k d = x) : x ∈ zs := by
  have : zs[k] = x := by rw [← hx]; simp [List.getD, hk]
  exact this ▸ List.getElem_mem hk
theorem byte_in {x : Int} (h0 : 0 ≤ x) (h1 : x < 256) : Value.int .u8 x = .int .u8 ((byt x).toNat : Int) := by rw [byt_nat h0 h1]

theorem OpsAt.get {w wr : World} {a : Option Addr} {zs : List OpL} (h : OpsAt w a zs) (hB : Below w.heap.size w wr) {k : Nat} (hk : k < zs.length) : ∃ q0 q1 q2 : Int, Hid (zs.getD k (0, 0, 0) = (q0, q1, q2)) ∧ ∃ b off, a = some ⟨b, off, none⟩ ∧
    wr.cell? ⟨b, off + k * 3, none⟩ = some (.int .i64 q0) ∧ wr.cell? ⟨b, off + k * 3 + 1, none⟩ = some (.int .i64 q1) ∧ wr.cell? ⟨b, off + k * 3 + 2, none⟩ = some (.int .i64 q2) := by
  rcases h with rfl | ⟨b, off, rfl, hb, hc⟩
  · simp at hk
  · obtain ⟨q0, q1, q2, h0, h1, h2, h3⟩ := OpsAt.at hc hb hB hk
    exact ⟨q0, q1, q2, h0, b, off, rfl, h1, h2, h3⟩
theorem goodB_in {q0 q1 q2 : Int} (h : goodB (q0, q1, q2) = true) : 0 ≤ q0 ∧ q0 < 256 ∧ 0 ≤ q1 ∧ q1 < 256 ∧ -140737488355328 ≤ q2 ∧ q2 < 140737488355328 := by
  unfold goodB at h
  simp only [decide_eq_true_eq] at h
  omega
theorem box_far {wr w3 : World} {o p : Obj} {row : Option Nat} (hg : ((wr.alloc o).alloc p).grownBy w3 row) (hr : some wr.heap.size ≠ row) (i : Nat) : w3.cell? ⟨wr.heap.size, i, none⟩ = (wr.alloc o).cell? ⟨wr.heap.size, i, none⟩ := by
  rw [hg.cell_far ⟨wr.heap.size, i, none⟩ (by rw [alloc_size, alloc_size]; simp; omega) hr]
  exact World.cell?_of_block (Below.heap_alloc _ _ _ (by rw [alloc_size]; simp))
theorem encNums_take {zs : List Int} {k : Nat} {n : Int} (hk : k < zs.length) (ho : zs.getD k 0 = n) : encNums (zs.take (k + 1)) = encNums (zs.take k) ++ [byt n] := by
  have : zs[k] = n := by rw [← ho]; simp [List.getD, hk]
  rw [List.take_succ_eq_append_getElem hk, this]
  simp [encNums]
theorem encTold_app : ∀ (xs vs : List Int) (a n : Int), vs.length = xs.length → encTold (xs ++ [a]) (vs ++ [n]) = encTold xs vs ++ (byt a :: six n)
  | [], [], a, n, _ => by simp [encTold]
  | [], _ :: _, _, _, h => by simp at h
  | _ :: _, [], _, _, h => by simp at h
  | x :: xs, v :: vs, a, n, h => by
    have := encTold_app xs vs a n (by simpa using h)
    simp [encTold, this]
theorem encTold_take {xs vs : List Int} {k : Nat} {a n : Int} (hk : k < xs.length) (hl : vs.length = xs.length) (ha : xs.getD k 0 = a) (hn : vs.getD k 0 = n) : encTold (xs.take (k + 1)) (vs.take (k + 1)) = encTold (xs.take k) (vs.take k) ++ (byt a :: six n) := by
  have e1 : xs[k] = a := by rw [← ha]; simp [List.getD, hk]
  have hk' : k < vs.length := by omega
  have e2 : vs[k] = n := by rw [← hn]; simp [List.getD, hk']
  rw [List.take_succ_eq_append_getElem hk, List.take_succ_eq_append_getElem hk', e1, e2]
  exact encTold_app _ _ _ _ (by simp; omega)
theorem IntsAt.getL {w wr : World} {a : Option Addr} {zs : List Int} (h : IntsAt w.heap.size w a zs) (hB : Below w.heap.size w wr) {k : Nat} (hk : k < zs.length) : ∃ q : Int, Hid (zs.getD k 0 = q) ∧ ∃ b off, a = some ⟨b, off, none⟩ ∧ wr.cell? ⟨b, off + k, none⟩ = some (.int .i64 q) :=
  IntsAt.get (h.later hB) hk
theorem Try.underString : Try.prog.underlying 9 = some .string := by kernel_rfl
theorem Try.underByte : Try.prog.underlying 5 = some (.int .u8) := by kernel_rfl
theorem conv_bytes {w : World} {base g n cap : Nat} {l : List UInt8} (h : w.ownsRow base 5 1 (.slice (some ⟨g, 0, none⟩) n cap) n (byCells l)) :
    (convert 112 9 (.slice (some ⟨g, 0, none⟩) n cap)).run Try.prog w = .ok (.string (str l)) w := by
  have hl : l.length = n := by have := h.1; simpa [byCells] using this
  subst hl
  refine run_convert_bytes_back w 112 9 5 ⟨g, 0, none⟩ cap l Try.underlying112 Try.underByte Try.underString ?_
  intro i hi
  rw [h.cells rfl i (.int .u8 ((l[i]).toNat : Int)) (by simp [byCells, hi])]
def encHead (f : FrameL) : List UInt8 := [byt f.kind, byt f.node, byt f.id, byt f.ops.length]
theorem head_cells {kind node id : Int} {ops : List OpL} {deps ats vals : List Int} (k1 : 1 ≤ kind) (k2 : kind ≤ 5) (n1 : 0 ≤ node) (n2 : node < 6) (i1 : 0 ≤ id) (i2 : id < 32) (o1 : ops.length ≤ 4) :
    byCells (encHead ⟨kind, node, id, ops, deps, ats, vals⟩) = [.int .u8 kind, .int .u8 node, .int .u8 id, .int .u8 ops.length] := by
  simp [encHead, byCells, byt_nat (show 0 ≤ kind by omega) (show kind < 256 by omega), byt_nat n1 (show node < 256 by omega), byt_nat i1 (show id < 256 by omega), byt_nat (show 0 ≤ (ops.length : Int) by omega) (show (ops.length : Int) < 256 by omega)]

set_option maxRecDepth 100000 in
set_option maxHeartbeats 2000000 in
theorem encode_any (v : Value) (f : FrameL) (w : World) (hv : FrameV w v f) :
    Calls Try.prog 42 #[v] w fun e w' => e = .returned (.tuple #[.string (str (encE f)), .int .i64 (goodL f)]) ∧ Below w.heap.size w w' := by
  obtain ⟨i0, hi, hz0, hz1, hz2⟩ := info_parts Try.infoByte
  have hvo := fun o => hv.later (frame_box w o)
  have hb0 := frame_box w
  obtain ⟨a3, c3, a4, c4, a5, c5, a6, c6, rfl, h3, h4, h5, h6⟩ := hv
  have HG : Hid (goodL f = 0 → _) := fun h => good_in h
  have HE : Hid (encE f = if goodL f = 0 then encL f else []) := rfl
  obtain ⟨kind, node, id, ops, deps, ats, vals⟩ := f
  simp only at hvo h3 h4 h5 h6
  go_enter Try.func42, Try.ntmps42
  go_wp2_with fail
  obtain ⟨wo, hwo⟩ : ∃ wo, wo = w.alloc (.cells #[.int .i64 kind, .int .i64 node, .int .i64 id, .slice a3 ops.length c3, .slice a4 deps.length c4, .slice a5 ats.length c5, .slice a6 vals.length c6] 43) := ⟨_, rfl⟩
  have hb1 := hb0 (.cells #[.int .i64 kind, .int .i64 node, .int .i64 id, .slice a3 ops.length c3, .slice a4 deps.length c4, .slice a5 ats.length c5, .slice a6 vals.length c6] 43)
  have hv1 := hvo (.cells #[.int .i64 kind, .int .i64 node, .int .i64 id, .slice a3 ops.length c3, .slice a4 deps.length c4, .slice a5 ats.length c5, .slice a6 vals.length c6] 43)
  have hf1 : FAt (w.alloc (.cells #[.int .i64 kind, .int .i64 node, .int .i64 id, .slice a3 ops.length c3, .slice a4 deps.length c4, .slice a5 ats.length c5, .slice a6 vals.length c6] 43)) w.heap.size kind node id (.slice a3 ops.length c3) (.slice a4 deps.length c4) (.slice a5 ats.length c5) (.slice a6 vals.length c6) := ⟨_, heap_new _ _⟩
  rw [← hwo] at hb1 hv1 hf1 ⊢
  clear hwo hvo hb0
  refine (wgood_any _ _ _ hv1).mono ?_
  rintro e w1 ⟨rfl, hc⟩
  have hb2 := hb1.trans (hc.mono hb1.size)
  have hf2 := hf1.block (hc.block _ hf1.lt)
  have lf := hf2.lt
  clear hc hb1 hv1 hf1
  cases tg : goodL ⟨kind, node, id, ops, deps, ats, vals⟩ != 0
  · have tg' : goodL ⟨kind, node, id, ops, deps, ats, vals⟩ = 0 := by simpa using tg
    have HE2 : Hid (encE ⟨kind, node, id, ops, deps, ats, vals⟩ = encL ⟨kind, node, id, ops, deps, ats, vals⟩) := by unfold Hid encE; rw [if_pos tg']
    have HT : Hid (goodL ⟨kind, node, id, ops, deps, ats, vals⟩ = 0) := tg'
    obtain ⟨⟨k1, k2⟩, ⟨n1, n2⟩, ⟨i1, i2⟩, ⟨o1, o2⟩, ⟨d1, d2⟩, ⟨t1, t2⟩, hl, vv⟩ := HG.out tg'
    simp only at *
    have HL : Hid (vals.length = ats.length) := hl
    obtain ⟨q0, q1, q2, q3, q4, q5, q6⟩ := hf2.cell
    clear HG HE tg' hl tg
    rw [HT.out]
    have HH : Hid (byCells (encHead ⟨kind, node, id, ops, deps, ats, vals⟩) = [.int .u8 kind, .int .u8 node, .int .u8 id, .int .u8 ops.length]) := head_cells k1 k2 n1 n2 i1 i2 o1
    go_wp2_with fail
    go_loopw [5, 34] (fun u i wr => ∃ (k : Nat), k ≤ ops.length ∧ i = .int .i64 k ∧ wr.ownsRow w1.heap.size 5 1 u (4 + k * 8) (byCells (encHead ⟨kind, node, id, ops, deps, ats, vals⟩ ++ encOps (ops.take k))) ∧ Below w1.heap.size w1 wr) (fun _ i _ => ops.length - (intOf i).toNat)
    case atStart => exact ⟨0, Nat.zero_le _, rfl, by rw [byCells_app, HH.out]; exact World.ownsRow_lit w1 #[.int .u8 kind, .int .u8 node, .int .u8 id, .int .u8 ops.length] 4 (Nat.le_refl _) (by decide) rfl, (Below.refl _ _).alloc (Nat.le_refl _) _⟩
    case round =>
      obtain ⟨k, hk, rfl, hown, hB⟩ := hrel
      have hsz := hB.size
      by_cases hlt : k < ops.length
      · obtain ⟨x0, x1, x2, Hx, b, off, rfl, e0, e1, e2⟩ := h3.1.get (hb2.trans (hB.mono hb2.size)) hlt
        obtain ⟨y0, y0', y1, y1', y2, y2'⟩ := goodB_in (o2 _ (getD_mem hlt Hx.out))
        have HN : Hid (encOps (ops.take (k + 1)) = encOps (ops.take k) ++ (byt x0 :: byt x1 :: six x2)) := encOps_take hlt Hx.out
        go_wp2_with (first
          | (at_builtin; refine wpList_append_lies _ (by rfl) _ _ 112 (by rfl) w1.heap.size 5 i0 (.int .u8 0) 1 1 Try.underlying112 hi hz0 hz1 hz2 rfl (by decide) _ _ _ (by rfl) ((hown.alloc _).alloc _) ⟨wr.heap.size + 1, 0, none⟩ 2 2 [_, _] (by rfl) (by rfl) (World.news_of_block (cs := #[_, _]) (fr := (0, 0)) (heap_new2 wr _ _)) ?c2 (by decide) ?c3 ?c4 ?c5 (wr.heap.size + 1 + 1) ?c6 ?_)
          | go_in)
        case c2 => simp [Value.oneCell']
        case c3 => unfold maxLen; omega
        case c4 => omega
        case c5 => rw [alloc_size, alloc_size]; omega
        case c6 => rw [alloc_size, alloc_size]
        intro g cap w3 hown3 hgrow hat hlt3
        have hB3 : Below w1.heap.size w1 w3 := ((hB.alloc hsz _).alloc (by rw [alloc_size]; omega) _).grown hgrow (by rw [alloc_size, alloc_size]; omega) (owns_block hown)
        have bx := box_far hgrow (row_lt hown) 2
        simp at bx
        have hs3 := hB3.size
        clear hgrow hat e0 e1 e2 hB hown
        go_wp2_with fail
        refine (appendWide_any w1.heap.size _ _ _ x2 _ hown3 (by omega) hs3 y2 y2').mono ?_
        rintro e w4 ⟨v4, rfl, hown4, hg4, hr4⟩
        have hB4 : Below w1.heap.size w1 w4 := hB3.grown hg4 hs3 (owns_block hown3)
        clear hg4 hr4 hB3 hown3 bx
        go_wp2
        go_roundw
        case rel =>
          refine ⟨k + 1, by omega, by go_num, ?_, hB4⟩
          rw [HN.out]
          have e1 : 4 + (k + 1) * 8 = 4 + k * 8 + 2 + 6 := by omega
          rw [e1]
          simp only [byCells_app] at hown4 ⊢
          have e2 : byCells (byt x0 :: byt x1 :: six x2) = [.int .u8 x0, .int .u8 x1] ++ byCells (six x2) := by simp [byCells, byt_nat y0 y0', byt_nat y1 y1']
          rw [e2]
          simpa only [List.append_assoc] using hown4
        case measure => simp [intOf]; omega
      · have ek : k = ops.length := by omega
        subst ek
        rw [List.take_length] at hown
        have p4 : wr.cell? ⟨w.heap.size, 4, none⟩ = some (.slice a4 deps.length c4) := by rw [hB.cell (p := ⟨w.heap.size, 4, none⟩) lf]; exact q4
        clear hk hlt
        obtain ⟨wx, hwx⟩ : ∃ wx, wx = wr := ⟨_, rfl⟩
        subst hwx
        go_wp2_with (first
          | (at_builtin; refine wpList_append_lies _ (by rfl) _ _ 112 (by rfl) w1.heap.size 5 i0 (.int .u8 0) 1 1 Try.underlying112 hi hz0 hz1 hz2 rfl (by decide) _ _ _ (by rfl) (hown.alloc _) ⟨wx.heap.size, 0, none⟩ 1 1 [_] (by rfl) (by rfl) (World.news_of_block (cs := #[_]) (fr := (0, 0)) (heap_new wx _)) ?c2 (by decide) ?c3 ?c4 ?c5 (wx.heap.size + 1) ?c6 ?_)
          | go_in)
        case c2 => exact one_any _ rfl
        case c3 => unfold maxLen; omega
        case c4 => omega
        case c5 => rw [alloc_size]; omega
        case c6 => exact alloc_size _ _
        intro g cap w3 hown3 hgrow hat hlt3
        have hB3 : Below w1.heap.size w1 w3 := (hB.alloc hsz _).grown hgrow (by rw [alloc_size]; omega) (owns_block hown)
        obtain ⟨L, hL⟩ : ∃ L, L = encHead ⟨kind, node, id, ops, deps, ats, vals⟩ ++ encOps ops ++ [byt deps.length] := ⟨_, rfl⟩
        have hown3' : w3.ownsRow w1.heap.size 5 1 (.slice (some ⟨g, 0, none⟩) (4 + ops.length * 8 + 1) cap) (4 + ops.length * 8 + 1) (byCells L) := by
          rw [hL, byCells_app, show byCells [byt deps.length] = [.int .u8 deps.length] from by simp [byCells, byt_nat (show 0 ≤ (deps.length : Int) by omega) (show (deps.length : Int) < 256 by omega)]]
          exact hown3
        have HL2 : Hid (L = encHead ⟨kind, node, id, ops, deps, ats, vals⟩ ++ encOps ops ++ [byt deps.length]) := hL
        have p4' : w3.cell? ⟨w.heap.size, 4, none⟩ = some (.slice a4 deps.length c4) := by rw [hB3.cell (p := ⟨w.heap.size, 4, none⟩) lf]; exact q4
        clear hgrow hat hL hown3 hown hB p4 hlt3 hsz
        go_wp2_with fail
        go_loopw [5, 62] (fun u i wr => ∃ (k : Nat), k ≤ deps.length ∧ i = .int .i64 k ∧ wr.ownsRow w1.heap.size 5 1 u (4 + ops.length * 8 + 1 + k) (byCells (L ++ encNums (deps.take k))) ∧ Below w1.heap.size w1 wr) (fun _ i _ => deps.length - (intOf i).toNat)
        case atStart => exact ⟨0, Nat.zero_le _, rfl, by simpa [encNums] using hown3', hB3⟩
        case round =>
          obtain ⟨k, hk, rfl, hown, hB⟩ := hrel
          have hsz := hB.size
          by_cases hlt : k < deps.length
          · obtain ⟨x0, Hx, b, off, rfl, e0⟩ := h4.1.getL (hb2.trans (hB.mono hb2.size)) hlt
            obtain ⟨y0, y0'⟩ := d2 _ (getD_mem hlt Hx.out)
            have HN : Hid (encNums (deps.take (k + 1)) = encNums (deps.take k) ++ [byt x0]) := encNums_take hlt Hx.out
            go_wp2_with (first
              | (at_builtin; refine wpList_append_lies _ (by rfl) _ _ 112 (by rfl) w1.heap.size 5 i0 (.int .u8 0) 1 1 Try.underlying112 hi hz0 hz1 hz2 rfl (by decide) _ _ _ (by rfl) (hown.alloc _) ⟨wr.heap.size, 0, none⟩ 1 1 [_] (by rfl) (by rfl) (World.news_of_block (cs := #[_]) (fr := (0, 0)) (heap_new wr _)) ?c2 (by decide) ?c3 ?c4 ?c5 (wr.heap.size + 1) ?c6 ?_)
              | go_in)
            case c2 => exact one_any _ rfl
            case c3 => unfold maxLen; omega
            case c4 => omega
            case c5 => rw [alloc_size]; omega
            case c6 => exact alloc_size _ _
            intro g2 cap2 w4 hown4 hgrow hat hlt4
            have hB4 : Below w1.heap.size w1 w4 := (hB.alloc hsz _).grown hgrow (by rw [alloc_size]; omega) (owns_block hown)
            clear hgrow hat hB hown e0
            go_wp2
            go_roundw
            case rel =>
              refine ⟨k + 1, by omega, by go_num, ?_, hB4⟩
              rw [HN.out]
              simp only [byCells_app] at hown4 ⊢
              have e2 : byCells [byt x0] = [.int .u8 x0] := by simp [byCells, byt_nat y0 y0']
              rw [e2]
              simpa only [List.append_assoc, Nat.add_assoc] using hown4
            case measure => simp [intOf]; omega
          · have ek : k = deps.length := by omega
            subst ek
            rw [List.take_length] at hown
            have p5 : wr.cell? ⟨w.heap.size, 5, none⟩ = some (.slice a5 ats.length c5) := by rw [hB.cell (p := ⟨w.heap.size, 5, none⟩) lf]; exact q5
            clear hk hlt hown3' hB3 p4'
            obtain ⟨wy, hwy⟩ : ∃ wy, wy = wr := ⟨_, rfl⟩
            subst hwy
            go_wp2_with (first
              | (at_builtin; refine wpList_append_lies _ (by rfl) _ _ 112 (by rfl) w1.heap.size 5 i0 (.int .u8 0) 1 1 Try.underlying112 hi hz0 hz1 hz2 rfl (by decide) _ _ _ (by rfl) (hown.alloc _) ⟨wy.heap.size, 0, none⟩ 1 1 [_] (by rfl) (by rfl) (World.news_of_block (cs := #[_]) (fr := (0, 0)) (heap_new wy _)) ?c2 (by decide) ?c3 ?c4 ?c5 (wy.heap.size + 1) ?c6 ?_)
              | go_in)
            case c2 => exact one_any _ rfl
            case c3 => unfold maxLen; omega
            case c4 => omega
            case c5 => rw [alloc_size]; omega
            case c6 => exact alloc_size _ _
            intro g2 cap2 w4 hown4 hgrow hat hlt4
            have hB4 : Below w1.heap.size w1 w4 := (hB.alloc hsz _).grown hgrow (by rw [alloc_size]; omega) (owns_block hown)
            obtain ⟨M, hM⟩ : ∃ M, M = L ++ encNums deps ++ [byt ats.length] := ⟨_, rfl⟩
            have hown4' : w4.ownsRow w1.heap.size 5 1 (.slice (some ⟨g2, 0, none⟩) (4 + ops.length * 8 + 1 + deps.length + 1) cap2) (4 + ops.length * 8 + 1 + deps.length + 1) (byCells M) := by
              rw [hM, byCells_app, show byCells [byt ats.length] = [.int .u8 ats.length] from by simp [byCells, byt_nat (show 0 ≤ (ats.length : Int) by omega) (show (ats.length : Int) < 256 by omega)]]
              exact hown4
            have HM : Hid (M = L ++ encNums deps ++ [byt ats.length]) := hM
            have p5' : w4.cell? ⟨w.heap.size, 5, none⟩ = some (.slice a5 ats.length c5) := by rw [hB4.cell (p := ⟨w.heap.size, 5, none⟩) lf]; exact q5
            clear hgrow hat hM hown4 hown hB p5 hlt4 hsz
            go_wp2_with fail
            go_loopw [5, 82] (fun u i wr => ∃ (k : Nat), k ≤ ats.length ∧ i = .int .i64 k ∧ wr.ownsRow w1.heap.size 5 1 u (4 + ops.length * 8 + 1 + deps.length + 1 + k * 7) (byCells (M ++ encTold (ats.take k) (vals.take k))) ∧ Below w1.heap.size w1 wr) (fun _ i _ => ats.length - (intOf i).toNat)
            case atStart => exact ⟨0, Nat.zero_le _, rfl, by simpa [encTold] using hown4', hB4⟩
            case round =>
              obtain ⟨k, hk, rfl, hown, hB⟩ := hrel
              have hsz := hB.size
              by_cases hlt : k < ats.length
              · obtain ⟨x0, Hx, b, off, rfl, e0⟩ := h5.1.getL (hb2.trans (hB.mono hb2.size)) hlt
                obtain ⟨y0, y0'⟩ := t2 _ (getD_mem hlt Hx.out)
                have hltv : k < vals.length := by rw [HL.out]; exact hlt
                obtain ⟨x1, Hy, b', off', rfl, f0⟩ := h6.1.getL (hb2.trans (hB.mono hb2.size)) hltv
                obtain ⟨y1, y1'⟩ := vv _ (getD_mem hltv Hy.out)
                have HN : Hid (encTold (ats.take (k + 1)) (vals.take (k + 1)) = encTold (ats.take k) (vals.take k) ++ (byt x0 :: six x1)) := encTold_take hlt HL.out Hx.out Hy.out
                go_wp2_with (first
                  | (at_builtin; refine wpList_append_lies _ (by rfl) _ _ 112 (by rfl) w1.heap.size 5 i0 (.int .u8 0) 1 1 Try.underlying112 hi hz0 hz1 hz2 rfl (by decide) _ _ _ (by rfl) (hown.alloc _) ⟨wr.heap.size, 0, none⟩ 1 1 [_] (by rfl) (by rfl) (World.news_of_block (cs := #[_]) (fr := (0, 0)) (heap_new wr _)) ?c2 (by decide) ?c3 ?c4 ?c5 (wr.heap.size + 1) ?c6 ?_)
                  | go_in)
                case c2 => exact one_any _ rfl
                case c3 => unfold maxLen; omega
                case c4 => omega
                case c5 => rw [alloc_size]; omega
                case c6 => exact alloc_size _ _
                intro g3 cap3 w5 hown5 hgrow hat hlt5
                have hB5 : Below w1.heap.size w1 w5 := (hB.alloc hsz _).grown hgrow (by rw [alloc_size]; omega) (owns_block hown)
                have hs5 := hB5.size
                have p6 : w5.cell? ⟨w.heap.size, 6, none⟩ = some (.slice (some ⟨b', off', none⟩) vals.length c6) := by rw [hB5.cell (p := ⟨w.heap.size, 6, none⟩) lf]; exact q6
                have f1 : w5.cell? ⟨b', off' + k, none⟩ = some (.int .i64 x1) := by
                  obtain ⟨x1', Hy', b'', off'', ee, f1⟩ := h6.1.getL (hb2.trans (hB5.mono hb2.size)) hltv
                  simp at ee
                  obtain ⟨rfl, rfl⟩ := ee
                  rw [f1, ← Hy'.out, Hy.out]
                have hvi : (k : Int) < (vals.length : Int) := by omega
                clear hgrow hat hB hown e0 f0
                go_wp2_with fail
                refine (appendWide_any w1.heap.size _ _ _ x1 _ hown5 (by omega) hs5 y1 y1').mono ?_
                rintro e w6 ⟨v6, rfl, hown6, hg6, hr6⟩
                have hB6 : Below w1.heap.size w1 w6 := hB5.grown hg6 hs5 (owns_block hown5)
                clear hg6 hr6 hB5 hown5 p6 f1
                go_wp2
                go_roundw
                case rel =>
                  refine ⟨k + 1, by omega, by go_num, ?_, hB6⟩
                  rw [HN.out]
                  have e1 : 4 + ops.length * 8 + 1 + deps.length + 1 + (k + 1) * 7 = 4 + ops.length * 8 + 1 + deps.length + 1 + k * 7 + 1 + 6 := by omega
                  rw [e1]
                  simp only [byCells_app] at hown6 ⊢
                  have e2 : byCells (byt x0 :: six x1) = [.int .u8 x0] ++ byCells (six x1) := by simp [byCells, byt_nat y0 y0']
                  rw [e2]
                  simpa only [List.append_assoc] using hown6
                case measure => simp [intOf]; omega
              · have ek : k = ats.length := by omega
                subst ek
                rw [List.take_length, List.take_of_length_le (by rw [HL.out]; exact Nat.le_refl _)] at hown
                obtain ⟨g9, cap9, rfl, hg9, _⟩ := hown.form (by omega)
                have hbb : Below w.heap.size w wr := hb2.trans (hB.mono hb2.size)
                have HF : Hid (encE ⟨kind, node, id, ops, deps, ats, vals⟩ = M ++ encTold ats vals) := by
                  unfold Hid
                  rw [HE2.out, HM.out, HL2.out]
                  simp [encL, encHead]
                have hcv := conv_bytes (l := M ++ encTold ats vals) hown
                clear hown
                go_wp2
                go_ret2
                exact ⟨by rw [HF.out, HT.out]; rfl, hbb⟩
  · have tg' : ¬ goodL ⟨kind, node, id, ops, deps, ats, vals⟩ = 0 := by simpa using tg
    have HE2 : Hid (encE ⟨kind, node, id, ops, deps, ats, vals⟩ = []) := by unfold Hid encE; rw [if_neg tg']
    clear tg'
    go_wp2
    go_ret2
    exact ⟨by rw [HE2.out]; rfl, hb2⟩

end Go.Proofs.Ytkoefoccbjhoiab

namespace Go.Proofs.Ytkoefoccbjhoiab
open Go.RowKit

def txnB (n : Int) : Bool := decide (0 ≤ n ∧ n < 32)

set_option maxRecDepth 100000 in
set_option maxHeartbeats 400000 in
theorem isTxn_any (n : Int) (w : World) :
    Calls Try.prog 81 #[.int .i64 n] w fun e w' => e = .returned (.bool (txnB n)) ∧ w' = w := by
  by_cases h1 : 0 ≤ n
  · by_cases h2 : n < 32
    · have E : Hid (txnB n = true) := decide_eq_true ⟨h1, h2⟩
      go_enter Try.func81, Try.ntmps81
      go_wp2
      go_ret
      exact ⟨ret_bool (by rw [E.out]), rfl⟩
    · have E : Hid (txnB n = false) := decide_eq_false (fun h => h2 h.2)
      go_enter Try.func81, Try.ntmps81
      go_wp2
      go_ret
      exact ⟨ret_bool (by rw [E.out]), rfl⟩
  · have E : Hid (txnB n = false) := decide_eq_false (fun h => h1 h.1)
    go_enter Try.func81, Try.ntmps81
    go_wp2
    go_ret
    exact ⟨ret_bool (by rw [E.out]), rfl⟩

set_option maxRecDepth 100000 in
set_option maxHeartbeats 400000 in
theorem ref_has (a : Option Addr) (cap : Nat) (zs : List Int) (n : Int) (w : World) (hl : zs.length ≤ maxLen) (hz : IntsAt w.heap.size w a zs) :
    Calls Try.prog 80 #[.slice a zs.length cap, .int .i64 n] w fun e w' => e = .returned (.bool (hasL zs n)) ∧ w' = w := by
  unfold maxLen at hl
  rcases hz with rfl | ⟨b, off, rfl, hb, hc⟩
  · go_enter Try.func80, Try.ntmps80
    go_wp2
    refine wp_loop_rounds 1 ?_; rw [rounds_succ]
    go_wp2
    go_ret
    exact ⟨rfl, rfl⟩
  · go_enter Try.func80, Try.ntmps80
    go_wp2
    go_loop [9] (fun i => ∃ k : Nat, k ≤ zs.length ∧ i = .int .i64 k ∧ (zs.take k).any (eqB n) = false) (fun i => zs.length - (intOf i).toNat)
    case atStart => exact ⟨0, Nat.zero_le _, rfl, rfl⟩
    case round =>
      obtain ⟨k, hk, rfl, hno⟩ := hrel
      by_cases hlt : k < zs.length
      · obtain ⟨q, Hq, e0⟩ := IntsAt.at hc hb (Below.refl _ _) hlt
        have hm : Hid (eqB n q = (q == n)) := rfl
        clear hc
        cases t1 : q == n
        · go_wp2
          go_round
          case rel => exact ⟨k + 1, by omega, by go_num, any_step hlt Hq.out hno (by rw [hm.out, t1])⟩
          case measure => simp [intOf]; omega
        · go_wp2
          go_ret
          exact ⟨ret_bool (any_hit hlt Hq.out (by rw [hm.out, t1])).symm, rfl⟩
      · go_wp2
        go_ret
        exact ⟨ret_bool (any_end hlt hno).symm, rfl⟩


theorem has_contains (zs : List Int) (n : Int) : hasL zs n = zs.contains n := by
  rw [Bool.eq_iff_iff]
  unfold hasL eqB
  simp

set_option maxRecDepth 100000 in
set_option maxHeartbeats 400000 in
theorem sameNumbers_any (a : Option Addr) (cap : Nat) (zs : List Int) (a' : Option Addr) (cap' : Nat) (w : World) (hl : zs.length ≤ maxLen) (hz : IntsAt w.heap.size w a zs) (hy : IntsAt w.heap.size w a' zs) :
    Calls Try.prog 35 #[.slice a zs.length cap, .slice a' zs.length cap'] w fun e w' => e = .returned (.bool true) ∧ Below w.heap.size w w' := by
  unfold maxLen at hl
  have hne : ((zs.length : Int) != (zs.length : Int)) = false := by simp
  rcases hz with rfl | ⟨b, off, rfl, hb, hc⟩
  · go_enter Try.func35, Try.ntmps35
    go_wp2
    refine wp_loop_rounds 1 ?_; rw [rounds_succ]
    go_wp2
    go_ret
    exact ⟨rfl, Below.refl _ _⟩
  rcases hy with rfl | ⟨b', off', rfl, hb', hc'⟩
  · go_enter Try.func35, Try.ntmps35
    go_wp2
    refine wp_loop_rounds 1 ?_; rw [rounds_succ]
    go_wp2
    go_ret
    exact ⟨rfl, Below.refl _ _⟩
  go_enter Try.func35, Try.ntmps35
  go_wp2
  go_loopw [13] (fun i wr => ∃ k : Nat, k ≤ zs.length ∧ i = .int .i64 k ∧ Below w.heap.size w wr) (fun i _ => zs.length - (intOf i).toNat)
  case atStart => exact ⟨0, Nat.zero_le _, rfl, Below.refl _ _⟩
  case round =>
    obtain ⟨k, hk, rfl, hB⟩ := hrel
    by_cases hlt : k < zs.length
    · obtain ⟨q, Hq, e0⟩ := IntsAt.at hc hb hB hlt
      have f0 : wr.cell? ⟨b', off' + k, none⟩ = some (.int .i64 q) := by rw [hB.cell (p := ⟨b', off' + k, none⟩) hb', ← Hq.out]; exact hc' k hlt
      have hi : (k : Int) < (zs.length : Int) := by omega
      clear hc hc'
      go_wp2
      go_quiet (fail)
      go_wp2
      go_roundw
      case rel => exact ⟨k + 1, by omega, by go_num, below_drewN hB _⟩
      case measure => simp [intOf]; omega
    · go_wp2
      go_ret
      exact ⟨rfl, hB⟩

end Go.Proofs.Ytkoefoccbjhoiab

namespace Go.Proofs.Ytkoefoccbjhoiab
open Go.RowKit

set_option maxRecDepth 100000 in
set_option maxHeartbeats 400000 in
theorem isRising_any (a : Option Addr) (cap : Nat) (zs : List Int) (w : World) (hl : zs.length ≤ maxLen) (hz : IntsAt w.heap.size w a zs) :
    Calls Try.prog 79 #[.slice a zs.length cap] w fun e w' => e = .returned (.bool (risingFrom (-1) zs)) ∧ w' = w := by
  unfold maxLen at hl
  rcases hz with rfl | ⟨b, off, rfl, hb, hc⟩
  · go_enter Try.func79, Try.ntmps79
    go_wp2
    refine wp_loop_rounds 1 ?_; rw [rounds_succ]
    go_wp2
    go_ret
    exact ⟨rfl, rfl⟩
  · go_enter Try.func79, Try.ntmps79
    go_wp2
    go_loop [3, 8] (fun l i => ∃ (k : Nat) (q : Int), k ≤ zs.length ∧ i = .int .i64 k ∧ l = .int .i64 q ∧ -1 ≤ q ∧ Hid (risingFrom (-1) zs = risingFrom q (zs.drop k))) (fun _ i => zs.length - (intOf i).toNat)
    case atStart => exact ⟨0, -1, Nat.zero_le _, rfl, rfl, by omega, rfl⟩
    case round =>
      obtain ⟨k, l, hk, rfl, rfl, hl0, hno⟩ := hrel
      by_cases hlt : k < zs.length
      · obtain ⟨q, Hq, e0⟩ := IntsAt.at hc hb (Below.refl _ _) hlt
        clear hc
        by_cases t1 : q ≤ l
        · go_wp2
          go_ret
          exact ⟨ret_bool (rising_no hlt Hq.out hno.out (Or.inl t1)).symm, rfl⟩
        · go_wp2_with fail
          refine (isTxn_any _ _).mono ?_
          rintro e wx ⟨rfl, hw⟩
          subst hw
          by_cases t2 : 32 ≤ q
          · have E : txnB q = false := decide_eq_false (by omega)
            rw [E]
            go_wp2
            go_ret
            exact ⟨ret_bool (rising_no hlt Hq.out hno.out (Or.inr t2)).symm, rfl⟩
          · have E : txnB q = true := decide_eq_true ⟨by omega, by omega⟩
            rw [E]
            clear E
            go_wp2
            go_round
            case rel => exact ⟨k + 1, q, by omega, by go_num, rfl, by omega, rising_yes hlt Hq.out hno.out (by omega) (by omega)⟩
            case measure => simp [intOf]; omega
      · go_wp2
        go_ret
        exact ⟨ret_bool (rising_end hlt hno.out).symm, rfl⟩


end Go.Proofs.Ytkoefoccbjhoiab

namespace Go.Proofs.Ytkoefoccbjhoiab
open Go.RowKit

def pos (l : List UInt8) (p : Nat) : Rd := ⟨l.drop p, false⟩
def bAt (l : List UInt8) (p : Nat) : Nat := (l.getD p 0).toNat
theorem bAt_lt (l : List UInt8) (p : Nat) : bAt l p < 256 := (l.getD p 0).toNat_lt
theorem pos_cons {l : List UInt8} {p : Nat} (h : p < l.length) : l.drop p = l.getD p 0 :: l.drop (p + 1) := by
  rw [List.drop_eq_getElem_cons h]
  simp [List.getD, h]
theorem pos_one {l : List UInt8} {p : Nat} (h : p < l.length) : (pos l p).one = (bAt l p : Int) := by
  unfold pos Rd.one
  rw [pos_cons h]
  rfl
theorem pos_next {l : List UInt8} {p : Nat} (h : p < l.length) : (pos l p).next = pos l (p + 1) := by
  unfold pos Rd.next
  rw [pos_cons h]
theorem pos_six {l : List UInt8} {p : Nat} (h : p + 6 ≤ l.length) : (pos l p).next6 = pos l (p + 6) := by
  unfold Rd.next6
  simp only [Rd.after]
  rw [pos_next (by omega), pos_next (by omega), pos_next (by omega), pos_next (by omega), pos_next (by omega), pos_next (by omega)]
theorem pos_end {l : List UInt8} {p : Nat} (h : p = l.length) : pos l p = ⟨[], false⟩ := by
  unfold pos
  rw [h, List.drop_length]

theorem getD_mid {A B : List UInt8} {x : UInt8} {k : Nat} (h : A.length = k) : (A ++ x :: B).getD k 0 = x := by
  subst h
  simp [List.getD]

theorem enc_shape {f : FrameL} (h : goodL f = 0) : bAt (encL f) 3 = f.ops.length ∧ bAt (encL f) (4 + 8 * f.ops.length) = f.deps.length ∧ bAt (encL f) (5 + 8 * f.ops.length + f.deps.length) = f.ats.length ∧
    (encL f).length = 6 + 8 * f.ops.length + f.deps.length + 7 * f.ats.length := by
  obtain ⟨hk, hn, hi, ⟨ho1, ho2⟩, ⟨hd1, hd2⟩, ⟨ha1, ha2⟩, hv1, hv2⟩ := good_in h
  have e1 := encOps_len f.ops
  have e2 := encTold_len f.ats f.vals hv1
  have e3 : (encNums f.deps).length = f.deps.length := by simp [encNums]
  have b1 := byt_nat (n := (f.ops.length : Int)) (by omega) (by omega)
  have b2 := byt_nat (n := (f.deps.length : Int)) (by omega) (by omega)
  have b3 := byt_nat (n := (f.ats.length : Int)) (by omega) (by omega)
  refine ⟨?_, ?_, ?_, ?_⟩
  · have : encL f = [byt f.kind, byt f.node, byt f.id] ++ byt f.ops.length :: (encOps f.ops ++ [byt f.deps.length] ++ encNums f.deps ++ [byt f.ats.length] ++ encTold f.ats f.vals) := by simp [encL]
    unfold bAt
    rw [this, getD_mid (k := 3) (by simp)]
    omega
  · have : encL f = ([byt f.kind, byt f.node, byt f.id, byt f.ops.length] ++ encOps f.ops) ++ byt f.deps.length :: (encNums f.deps ++ [byt f.ats.length] ++ encTold f.ats f.vals) := by simp [encL]
    unfold bAt
    rw [this, getD_mid (by simp [e1]; omega)]
    omega
  · have : encL f = ([byt f.kind, byt f.node, byt f.id, byt f.ops.length] ++ encOps f.ops ++ [byt f.deps.length] ++ encNums f.deps) ++ byt f.ats.length :: encTold f.ats f.vals := by simp [encL]
    unfold bAt
    rw [this, getD_mid (by simp [e1, e3]; omega)]
    omega
  · simp [encL, e1, e2, e3]
    omega

/-- A text that is a frame is as long as its counts say. -/
theorem ok_shape {l : List UInt8} (h : okL l = true) :
    l.length = 6 + 8 * bAt l 3 + bAt l (4 + 8 * bAt l 3) + 7 * bAt l (5 + 8 * bAt l 3 + bAt l (4 + 8 * bAt l 3)) := by
  obtain ⟨g1, g2⟩ := ok_sound h
  obtain ⟨s1, s2, s3, s4⟩ := enc_shape g1
  rw [g2] at s1 s2 s3 s4
  rw [s1, s2, s3, s4]

theorem not_ok {l : List UInt8} (h : ¬ l.length = 6 + 8 * bAt l 3 + bAt l (4 + 8 * bAt l 3) + 7 * bAt l (5 + 8 * bAt l 3 + bAt l (4 + 8 * bAt l 3))) : okL l = false := by
  cases ho : okL l with
  | false => rfl
  | true => exact absurd (ok_shape ho) h

/-- What is read where nothing lacks. -/
theorem read_pos {l : List UInt8} {n nd na : Nat} {zs : List OpL} {ds xs ys : List Int} (hn : bAt l 3 = n) (hd : bAt l (4 + 8 * n) = nd) (ha : bAt l (5 + 8 * n + nd) = na) (hl : l.length = 6 + 8 * n + nd + 7 * na)
    (E1 : Rd.ops n (pos l 4) = (zs, pos l (4 + 8 * n))) (E2 : Rd.nums nd (pos l (5 + 8 * n)) = (ds, pos l (5 + 8 * n + nd))) (E3 : Rd.told na (pos l (6 + 8 * n + nd)) = (xs, ys, pos l (6 + 8 * n + nd + 7 * na))) :
    okL l = (goodL ⟨bAt l 0, bAt l 1, bAt l 2, zs, ds, xs, ys⟩ == 0) ∧ (okL l = true → decL l = ⟨bAt l 0, bAt l 1, bAt l 2, zs, ds, xs, ys⟩) := by
  have e0 : (⟨l, false⟩ : Rd) = pos l 0 := rfl
  have q1 : (⟨l, false⟩ : Rd).r1 = pos l 3 := by rw [e0]; unfold Rd.r1; rw [pos_next (by omega), pos_next (by omega), pos_next (by omega)]
  have q2 : (⟨l, false⟩ : Rd).o1 = (zs, pos l (4 + 8 * n)) := by unfold Rd.o1; rw [q1, pos_one (by omega), pos_next (by omega), hn, Int.toNat_natCast, E1]
  have q3 : (⟨l, false⟩ : Rd).d1 = (ds, pos l (5 + 8 * n + nd)) := by
    unfold Rd.d1
    rw [q2]
    simp only
    rw [pos_one (by omega), pos_next (by omega), hd, Int.toNat_natCast, show 4 + 8 * n + 1 = 5 + 8 * n by omega, E2]
  have q4 : (⟨l, false⟩ : Rd).t1 = (xs, ys, pos l (6 + 8 * n + nd + 7 * na)) := by
    unfold Rd.t1
    rw [q3]
    simp only
    rw [pos_one (by omega), pos_next (by omega), ha, Int.toNat_natCast, show 5 + 8 * n + nd + 1 = 6 + 8 * n + nd by omega, E3]
  have q5 : (⟨l, false⟩ : Rd).end_ = ⟨[], false⟩ := by unfold Rd.end_; rw [q4]; exact pos_end hl.symm
  have q6 : (⟨l, false⟩ : Rd).frame = ⟨bAt l 0, bAt l 1, bAt l 2, zs, ds, xs, ys⟩ := by
    unfold Rd.frame
    rw [q2, q3, q4, e0, pos_next (by omega), pos_next (by omega), pos_one (by omega), pos_one (by omega), pos_one (by omega)]
  have q7 : okL l = (goodL ⟨bAt l 0, bAt l 1, bAt l 2, zs, ds, xs, ys⟩ == 0) := by
    unfold okL
    rw [q5, q6]
    rfl
  refine ⟨q7, fun h => ?_⟩
  unfold decL
  rw [if_pos h, q6]

end Go.Proofs.Ytkoefoccbjhoiab

namespace Go.Proofs.Ytkoefoccbjhoiab
open Go.RowKit

set_option maxRecDepth 100000 in
set_option maxHeartbeats 400000 in
theorem ref_sameOps_any (a : Option Addr) (cap : Nat) (zs : List OpL) (a' : Option Addr) (cap' : Nat) (w : World) (hl : zs.length ≤ maxLen) (hz : OpsAt w a zs) (hy : OpsAt w a' zs) :
    Calls Try.prog 82 #[.slice a zs.length cap, .slice a' zs.length cap'] w fun e w' => e = .returned (.bool true) ∧ Below w.heap.size w w' := by
  unfold maxLen at hl
  have hne : ((zs.length : Int) != (zs.length : Int)) = false := by simp
  rcases hz with rfl | ⟨b, off, rfl, hb, hc⟩
  · go_enter Try.func82, Try.ntmps82
    go_wp2
    refine wp_loop_rounds 1 ?_; rw [rounds_succ]
    go_wp2
    go_ret
    exact ⟨rfl, Below.refl _ _⟩
  rcases hy with rfl | ⟨b', off', rfl, hb', hc'⟩
  · go_enter Try.func82, Try.ntmps82
    go_wp2
    refine wp_loop_rounds 1 ?_; rw [rounds_succ]
    go_wp2
    go_ret
    exact ⟨rfl, Below.refl _ _⟩
  go_enter Try.func82, Try.ntmps82
  go_wp2
  go_loopw [13] (fun i wr => ∃ k : Nat, k ≤ zs.length ∧ i = .int .i64 k ∧ Below w.heap.size w wr) (fun i _ => zs.length - (intOf i).toNat)
  case atStart => exact ⟨0, Nat.zero_le _, rfl, Below.refl _ _⟩
  case round =>
    obtain ⟨k, hk, rfl, hB⟩ := hrel
    by_cases hlt : k < zs.length
    · obtain ⟨q0, q1, q2, Hq, e0, e1, e2⟩ := OpsAt.at hc hb hB hlt
      obtain ⟨p0, p1, p2, Hp, f0, f1, f2⟩ := OpsAt.at hc' hb' hB hlt
      have hh : (q0, q1, q2) = (p0, p1, p2) := Hq.out.symm.trans Hp.out
      simp at hh
      obtain ⟨rfl, rfl, rfl⟩ := hh
      have hi : (k : Int) < (zs.length : Int) := by omega
      clear hc hc'
      go_wp2
      go_quiet (fail)
      go_wp2
      go_roundw
      case rel => exact ⟨k + 1, by omega, by go_num, below_drewN hB _⟩
      case measure => simp [intOf]; omega
    · go_wp2
      go_ret
      exact ⟨rfl, hB⟩

set_option maxRecDepth 100000 in
set_option maxHeartbeats 1000000 in
theorem ref_sameFrame_any (v v' : Value) (f : FrameL) (w : World) (hv : FrameV w v f) (hv' : FrameV w v' f) :
    Calls Try.prog 29 #[v, v'] w fun e w' => e = .returned (.bool true) ∧ Below w.heap.size w w' := by
  obtain ⟨a3, c3, a4, c4, a5, c5, a6, c6, rfl, h3, h4, h5, h6⟩ := hv
  obtain ⟨b3, d3, b4, d4, b5, d5, b6, d6, rfl, k3, k4, k5, k6⟩ := hv'
  obtain ⟨kind, node, id, ops, deps, ats, vals⟩ := f
  simp only at *
  have tk : (kind == kind) = true := by simp
  have tn : (node == node) = true := by simp
  have ti : (id == id) = true := by simp
  go_enter Try.func29, Try.ntmps29
  go_wp2_with fail
  obtain ⟨W, hW⟩ : ∃ W, W = (w.alloc (.cells #[.int .i64 kind, .int .i64 node, .int .i64 id, .slice a3 ops.length c3, .slice a4 deps.length c4, .slice a5 ats.length c5, .slice a6 vals.length c6] 43)).alloc (.cells #[.int .i64 kind, .int .i64 node, .int .i64 id, .slice b3 ops.length d3, .slice b4 deps.length d4, .slice b5 ats.length d5, .slice b6 vals.length d6] 43) := ⟨_, rfl⟩
  have hf1 : FAt W w.heap.size kind node id (.slice a3 ops.length c3) (.slice a4 deps.length c4) (.slice a5 ats.length c5) (.slice a6 vals.length c6) := by rw [hW]; exact ⟨43, by rw [Below.heap_alloc _ _ _ (by rw [alloc_size]; omega), heap_new]⟩
  have hg1 : FAt W (w.heap.size + 1) kind node id (.slice b3 ops.length d3) (.slice b4 deps.length d4) (.slice b5 ats.length d5) (.slice b6 vals.length d6) := by rw [hW]; exact ⟨43, heap_new2 _ _ _⟩
  have hb1 : Below w.heap.size w W := by rw [hW]; exact ((Below.refl _ w).alloc (Nat.le_refl _) _).alloc (by rw [alloc_size]; omega) _
  rw [← hW]
  clear hW
  refine (ref_sameOps_any a3 c3 ops b3 d3 _ h3.2.1 (h3.later hb1).1 (k3.later hb1).1).mono ?_
  rintro e w1 ⟨rfl, hc⟩
  have hb2 := hb1.trans (hc.mono hb1.size)
  have hf2 := hf1.block (hc.block _ hf1.lt)
  have hg2 := hg1.block (hc.block _ hg1.lt)
  clear hc hf1 hg1 hb1
  have x4 := hf2.cell.2.2.2.2.1
  have y4 := hg2.cell.2.2.2.2.1
  go_wp2_with fail
  refine (sameNumbers_any a4 c4 deps b4 d4 _ h4.2.1 (h4.later hb2).1 (k4.later hb2).1).mono ?_
  rintro e w2 ⟨rfl, hc⟩
  have hb3 := hb2.trans (hc.mono hb2.size)
  have hf3 := hf2.block (hc.block _ hf2.lt)
  have hg3 := hg2.block (hc.block _ hg2.lt)
  clear hc hf2 hg2 hb2 x4 y4
  have x5 := hf3.cell.2.2.2.2.2.1
  have y5 := hg3.cell.2.2.2.2.2.1
  go_wp2_with fail
  refine (sameNumbers_any a5 c5 ats b5 d5 _ h5.2.1 (h5.later hb3).1 (k5.later hb3).1).mono ?_
  rintro e w3 ⟨rfl, hc⟩
  have hb4 := hb3.trans (hc.mono hb3.size)
  have hf4 := hf3.block (hc.block _ hf3.lt)
  have hg4 := hg3.block (hc.block _ hg3.lt)
  clear hc hf3 hg3 hb3 x5 y5
  have x6 := hf4.cell.2.2.2.2.2.2
  have y6 := hg4.cell.2.2.2.2.2.2
  go_wp2_with fail
  refine (sameNumbers_any a6 c6 vals b6 d6 _ h6.2.1 (h6.later hb4).1 (k6.later hb4).1).mono ?_
  rintro e w4 ⟨rfl, hc⟩
  have hb5 := hb4.trans (hc.mono hb4.size)
  clear hc hf4 hg4 hb4 x6 y6
  go_wp2
  go_ret
  exact ⟨rfl, hb5⟩

theorem zero_frame' (w : World) : FrameV w (.agg #[.int .i64 0, .int .i64 0, .int .i64 0, .slice none 0 0, .slice none 0 0, .slice none 0 0, .slice none 0 0]) zeroF :=
  ⟨none, 0, none, 0, none, 0, none, 0, rfl, ⟨Or.inl rfl, Nat.zero_le _, Nat.le_refl _, fun _ => ⟨rfl, rfl⟩⟩, ⟨Or.inl rfl, Nat.zero_le _, Nat.le_refl _, fun _ => ⟨rfl, rfl⟩⟩, ⟨Or.inl rfl, Nat.zero_le _, Nat.le_refl _, fun _ => ⟨rfl, rfl⟩⟩, ⟨Or.inl rfl, Nat.zero_le _, Nat.le_refl _, fun _ => ⟨rfl, rfl⟩⟩⟩

set_option maxRecDepth 100000 in
set_option maxHeartbeats 400000 in
theorem no_any (w : World) : Calls Try.prog 119 #[] w fun e w' => e = .returned (.tuple #[.agg #[.int .i64 0, .int .i64 0, .int .i64 0, .slice none 0 0, .slice none 0 0, .slice none 0 0, .slice none 0 0], .int .i64 1]) ∧ Below w.heap.size w w' := by
  go_enter Try.func119, Try.ntmps119
  go_wp2
  refine bodyPost_ret (v := .tuple #[.agg #[.int .i64 0, .int .i64 0, .int .i64 0, .slice none 0 0, .slice none 0 0, .slice none 0 0, .slice none 0 0], .int .i64 1]) (by simp [results, Try.results119, go_sem]) rfl ⟨rfl, ?_⟩
  exact (Below.refl _ _).alloc (Nat.le_refl _) _

theorem str_at {m : List UInt8} {k : Nat} (h : k < (str m).size) : ((str m)[k]'h).toNat = bAt m k := by
  have h' : k < m.length := by rwa [str_size] at h
  unfold bAt
  have : (str m)[k]'h = m[k] := by show m.toArray[k]'(by simpa using h') = _; simp
  rw [this]
  simp [List.getD, h']
theorem bAt_drop (l : List UInt8) (p k : Nat) : bAt (l.drop p) k = bAt l (p + k) := by
  unfold bAt
  simp [List.getD]
theorem pow_256 : ∀ k : Nat, k < 6 → (256 : Int) ^ k ≤ 1099511627776 := by decide

set_option maxRecDepth 100000 in
set_option maxHeartbeats 400000 in
theorem fromSix_any (l : List UInt8) (p : Nat) (w : World) (hp : p + 6 ≤ l.length) :
    Calls Try.prog 120 #[.string (str (l.drop p))] w fun e w' => e = .returned (.int .i64 (pos l p).wide) ∧ w' = w := by
  have hsz := str_size (l.drop p)
  rw [List.length_drop] at hsz
  go_enter Try.func120, Try.ntmps120
  go_wp2
  go_loop [3, 5] (fun v i => ∃ (k : Nat) (n : Int), k ≤ 6 ∧ i = .int .i64 k ∧ v = .int .i64 n ∧ 0 ≤ n ∧ n < 256 ^ k ∧ Hid (Rd.num 6 0 (pos l p) = Rd.num (6 - k) n (pos l (p + k)))) (fun _ i => 6 - (intOf i).toNat)
  case atStart => exact ⟨0, 0, by omega, rfl, rfl, by omega, by omega, rfl⟩
  case round =>
    obtain ⟨k, n, hk, rfl, rfl, hn0, hn1, H1⟩ := hrel
    by_cases hlt : k < 6
    · have hp2 := pow_256 k hlt
      have hki : (k : Int) < (l.length : Int) - (p : Int) := by omega
      have b1 := bAt_lt l (p + k)
      go_wp2
      go_round
      case rel =>
        rw [str_at, bAt_drop]
        have e1 : wrap64 (256 * n + wrap64 (bAt l (p + k) : Int)) = n * 256 + (bAt l (p + k) : Int) := by unfold wrap64; omega
        rw [e1]
        refine ⟨k + 1, _, by omega, by go_num, rfl, by omega, by rw [Int.pow_succ]; omega, ?_⟩
        obtain ⟨j, hj⟩ : ∃ j, 6 - k = j + 1 := ⟨5 - k, by omega⟩
        have hj' : 6 - (k + 1) = j := by omega
        unfold Hid at *
        rw [hj', H1, hj]
        show Rd.num j (n * 256 + (pos l (p + k)).one) (pos l (p + k)).next = _
        rw [pos_one (by omega), pos_next (by omega)]
        rfl
      case measure => simp [intOf]; omega
    · have ek : k = 6 := by omega
      subst ek
      have E : Hid (Rd.num 6 0 (pos l p) = n) := H1.out
      go_wp2
      go_ret
      refine ⟨ret_int ?_, rfl⟩
      unfold Rd.wide
      rw [E.out]

end Go.Proofs.Ytkoefoccbjhoiab

namespace Go.Proofs.Ytkoefoccbjhoiab
open Go.RowKit

set_option maxRecDepth 100000 in
set_option maxHeartbeats 400000 in
theorem sameNumbers_zero (a : Option Addr) (cap : Nat) (zs : List Int) (w : World) (h : SlInts w a cap zs) :
    Calls Try.prog 35 #[.slice a zs.length cap, .slice none 0 0] w fun e w' => e = .returned (.bool zs.isEmpty) ∧ Below w.heap.size w w' := by
  cases zs with
  | nil => exact sameNumbers_any a cap [] none 0 w h.2.1 h.1 (Or.inl rfl)
  | cons z r =>
    have hl := h.2.1
    unfold maxLen at hl
    have hne : (((z :: r).length : Int) != 0) = true := by simp; omega
    have E : Hid ((z :: r).isEmpty = false) := rfl
    generalize z :: r = l at *
    go_enter Try.func35, Try.ntmps35
    go_wp2
    go_ret
    exact ⟨ret_bool E.out.symm, Below.refl _ _⟩
set_option maxRecDepth 100000 in
set_option maxHeartbeats 400000 in
theorem sameOps_zero (a : Option Addr) (cap : Nat) (zs : List OpL) (w : World) (h : SlOps w a cap zs) :
    Calls Try.prog 82 #[.slice a zs.length cap, .slice none 0 0] w fun e w' => e = .returned (.bool zs.isEmpty) ∧ Below w.heap.size w w' := by
  cases zs with
  | nil => exact ref_sameOps_any a cap [] none 0 w h.2.1 h.1 (Or.inl rfl)
  | cons z r =>
    have hl := h.2.1
    unfold maxLen at hl
    have hne : (((z :: r).length : Int) != 0) = true := by simp; omega
    have E : Hid ((z :: r).isEmpty = false) := rfl
    generalize z :: r = l at *
    go_enter Try.func82, Try.ntmps82
    go_wp2
    go_ret
    exact ⟨ret_bool E.out.symm, Below.refl _ _⟩

end Go.Proofs.Ytkoefoccbjhoiab
