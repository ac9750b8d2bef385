/-
  The contracts of package wire's appendWide and Encode.
-/
import Derived.Test.YtkoefoccbjhoiaaWGood
import Derived.Laws.IdiomStrings
set_option linter.unusedVariables false
set_option linter.unusedSimpArgs false
namespace Go.Proofs.Ytkoefoccbjhoiaa
open Go.RowKit

def byCells (l : List UInt8) : List Value := l.map fun c => .int .u8 (c.toNat : Int)
theorem byCells_app (l m : List UInt8) : byCells (l ++ m) = byCells l ++ byCells m := by simp [byCells]
theorem byCells_one (n : Int) : byCells [byt n] = [.int .u8 (n % 256)] := by
  have : ((byt n).toNat : Int) = n % 256 := by rw [← byt_mod n]; exact byt_nat (by omega) (by omega)
  simp [byCells, this]
theorem Try.infoByte : (Try.prog.info? 5).map (fun i => (i.zero, i.size, i.bytes)) = some (some (.int .u8 0), 1, 1) := by kernel_rfl

/-- the row was v's, or is one that was made since -/
def RowOf (w : World) (v v' : Value) : Prop := v'.ownBlock = v.ownBlock ∨ ∃ g, v'.ownBlock = some g ∧ w.heap.size ≤ g
theorem grown_row {w w1 w2 : World} {v v1 : Value} (h : w.grownBy w1 v.ownBlock) (hr : RowOf w v v1) (k : w1.grownBy w2 v1.ownBlock) : w.grownBy w2 v.ownBlock :=
  ⟨k.os.trans h.os, k.tape.trans h.tape, k.output.trans h.output, Nat.le_trans h.size k.size, fun i hi hn => (k.block i (Nat.lt_of_lt_of_le hi h.size) (by
    rcases hr with e | ⟨g, e, hg⟩
    · rw [e]; exact hn
    · rw [e]; simp; omega)).trans (h.block i hi hn)⟩
theorem row_next {w : World} {v v1 : Value} {g n cap H : Nat} (hr : RowOf w v v1) (hs : w.heap.size ≤ H) (hat : v1.ownBlock = some g ∨ g = H) : RowOf w v (.slice (some ⟨g, 0, none⟩) n cap) := by
  rcases hat with h | rfl
  · rcases hr with e | ⟨g', e, hg⟩
    · left; rw [← e, h]; rfl
    · right; rw [h] at e; simp at e; exact ⟨g, rfl, by omega⟩
  · right; exact ⟨g, rfl, hs⟩
theorem grown_past {w1 w2 : World} {row : Option Nat} {o : Obj} (k : (w1.alloc o).grownBy w2 row) : w1.grownBy w2 row :=
  ⟨k.os, k.tape, k.output, by have := k.size; simp at this; omega, fun i hi hn => (k.block i (by simp; omega) hn).trans (Below.heap_alloc _ _ _ hi)⟩

theorem byt_val (x : Int) : ((byt x).toNat : Int) = x % 256 := by rw [← byt_mod x]; exact byt_nat (by omega) (by omega)
theorem six_steps {q : Int} (h0 : 0 ≤ q) (h1 : q < 281474976710656) :
    byCells ((sixAt q).take 1) = byCells ((sixAt q).take 0) ++ [.int .u8 (q / 1099511627776)] ∧ byCells ((sixAt q).take 2) = byCells ((sixAt q).take 1) ++ [.int .u8 (q / 4294967296 % 256)] ∧
    byCells ((sixAt q).take 3) = byCells ((sixAt q).take 2) ++ [.int .u8 (q / 16777216 % 256)] ∧ byCells ((sixAt q).take 4) = byCells ((sixAt q).take 3) ++ [.int .u8 (q / 65536 % 256)] ∧
    byCells ((sixAt q).take 5) = byCells ((sixAt q).take 4) ++ [.int .u8 (q / 256 % 256)] ∧ byCells ((sixAt q).take 6) = byCells ((sixAt q).take 5) ++ [.int .u8 (q % 256)] := by
  have e : q / 1099511627776 % 256 = q / 1099511627776 := by omega
  simp [sixAt, byCells, byt_val, e]

theorem one_any (u : Value) (h : u.oneCell' = true) : ∀ x ∈ [u], x.oneCell' = true := by simpa using h

set_option maxRecDepth 100000 in
set_option maxHeartbeats 1000000 in
theorem appendWide_any (base : Nat) (v : Value) (m : Nat) (xs : List Value) (n : Int) (w : World) (hown : w.ownsRow base 5 1 v m xs) (hm : m ≤ 1000) (hb : base ≤ w.heap.size) (h0 : -140737488355328 ≤ n) (h1 : n < 140737488355328) :
    Calls Try.prog 70 #[v, .int .i64 n] w fun e w' => ∃ v', e = .returned v' ∧ w'.ownsRow base 5 1 v' (m + 6) (xs ++ byCells (six n)) ∧ w.grownBy w' v.ownBlock ∧ RowOf w v v' := by
  obtain ⟨i0, hi, hz0, hz1, hz2⟩ := info_parts Try.infoByte
  obtain ⟨q, hq⟩ : ∃ q, q = n + 140737488355328 := ⟨_, rfl⟩
  have q0 : 0 ≤ q := by omega
  have q1 : q < 281474976710656 := by omega
  have HS : Hid (six n = sixAt q) := by unfold Hid six; rw [hq]
  have HQ : Hid (n + 140737488355328 = q) := hq.symm
  clear hq
  go_enter Try.func70, Try.ntmps70
  go_wp2
  rw [HQ.out]
  go_loopw [0, 5] (fun u i wr => ∃ (k : Nat), k ≤ 6 ∧ i = .int .i64 (5 - k) ∧ wr.ownsRow base 5 1 u (m + k) (xs ++ byCells ((sixAt q).take k)) ∧ w.grownBy wr v.ownBlock ∧ RowOf w v u) (fun _ i _ => (intOf i + 1).toNat)
  case atStart => exact ⟨0, by omega, rfl, by simpa [byCells] using hown, ⟨rfl, rfl, rfl, Nat.le_refl _, fun _ _ _ => rfl⟩, Or.inl rfl⟩
  case round =>
    obtain ⟨k, hk, rfl, ho, hg, hr⟩ := hrel
    have hk' : k = 0 ∨ k = 1 ∨ k = 2 ∨ k = 3 ∨ k = 4 ∨ k = 5 ∨ k = 6 := by omega
    obtain ⟨e1, e2, e3, e4, e5, e6⟩ := six_steps q0 q1
    have E1 : Hid _ := e1
    have E2 : Hid _ := e2
    have E3 : Hid _ := e3
    have E4 : Hid _ := e4
    have E5 : Hid _ := e5
    have E6 : Hid _ := e6
    clear e1 e2 e3 e4 e5 e6
    have hgs := hg.size
    have hbs : base ≤ wr.heap.size + 1 := by omega
    rcases hk' with rfl | rfl | rfl | rfl | rfl | rfl | rfl
    · go_wp2_with (first
        | (at_builtin; refine wpList_append_lies _ (by rfl) _ _ 73 (by rfl) base 5 i0 (.int .u8 0) 1 1 Try.underlying73 hi hz0 hz1 hz2 rfl (by decide) _ _ _ (by rfl) (ho.alloc _) ⟨wr.heap.size, 0, none⟩ 1 1 [_] (by rfl) (by rfl) (World.news_of_block (cs := #[_]) (fr := (0, 0)) (heap_new wr _)) ?c2 (by decide) ?c3 ?c4 ?c5 (wr.heap.size + 1) ?c6 ?_)
        | go_in)
      case c2 => exact one_any _ rfl
      case c3 => unfold maxLen; omega
      case c4 => omega
      case c5 => rw [alloc_size]; exact hbs
      case c6 => exact alloc_size _ _
      intro g cap w3 hown' hgrow hat hlt
      have hg' := grown_row hg hr (grown_past hgrow)
      have hr' := row_next (n := m + 0 + 1) (cap := cap) hr (by omega) hat
      clear hgrow hat
      go_wp2
      exact ⟨⟨1, by decide, rfl, by rw [E1.out]; simpa [Nat.add_assoc] using hown', hg', hr'⟩, by simp [intOf]⟩
    · go_wp2_with (first
        | (at_builtin; refine wpList_append_lies _ (by rfl) _ _ 73 (by rfl) base 5 i0 (.int .u8 0) 1 1 Try.underlying73 hi hz0 hz1 hz2 rfl (by decide) _ _ _ (by rfl) (ho.alloc _) ⟨wr.heap.size, 0, none⟩ 1 1 [_] (by rfl) (by rfl) (World.news_of_block (cs := #[_]) (fr := (0, 0)) (heap_new wr _)) ?c2 (by decide) ?c3 ?c4 ?c5 (wr.heap.size + 1) ?c6 ?_)
        | go_in)
      case c2 => exact one_any _ rfl
      case c3 => unfold maxLen; omega
      case c4 => omega
      case c5 => rw [alloc_size]; exact hbs
      case c6 => exact alloc_size _ _
      intro g cap w3 hown' hgrow hat hlt
      have hg' := grown_row hg hr (grown_past hgrow)
      have hr' := row_next (n := m + 1 + 1) (cap := cap) hr (by omega) hat
      clear hgrow hat
      go_wp2
      exact ⟨⟨2, by decide, rfl, by rw [E2.out]; simpa [Nat.add_assoc] using hown', hg', hr'⟩, by simp [intOf]⟩
    · go_wp2_with (first
        | (at_builtin; refine wpList_append_lies _ (by rfl) _ _ 73 (by rfl) base 5 i0 (.int .u8 0) 1 1 Try.underlying73 hi hz0 hz1 hz2 rfl (by decide) _ _ _ (by rfl) (ho.alloc _) ⟨wr.heap.size, 0, none⟩ 1 1 [_] (by rfl) (by rfl) (World.news_of_block (cs := #[_]) (fr := (0, 0)) (heap_new wr _)) ?c2 (by decide) ?c3 ?c4 ?c5 (wr.heap.size + 1) ?c6 ?_)
        | go_in)
      case c2 => exact one_any _ rfl
      case c3 => unfold maxLen; omega
      case c4 => omega
      case c5 => rw [alloc_size]; exact hbs
      case c6 => exact alloc_size _ _
      intro g cap w3 hown' hgrow hat hlt
      have hg' := grown_row hg hr (grown_past hgrow)
      have hr' := row_next (n := m + 2 + 1) (cap := cap) hr (by omega) hat
      clear hgrow hat
      go_wp2
      exact ⟨⟨3, by decide, rfl, by rw [E3.out]; simpa [Nat.add_assoc] using hown', hg', hr'⟩, by simp [intOf]⟩
    · go_wp2_with (first
        | (at_builtin; refine wpList_append_lies _ (by rfl) _ _ 73 (by rfl) base 5 i0 (.int .u8 0) 1 1 Try.underlying73 hi hz0 hz1 hz2 rfl (by decide) _ _ _ (by rfl) (ho.alloc _) ⟨wr.heap.size, 0, none⟩ 1 1 [_] (by rfl) (by rfl) (World.news_of_block (cs := #[_]) (fr := (0, 0)) (heap_new wr _)) ?c2 (by decide) ?c3 ?c4 ?c5 (wr.heap.size + 1) ?c6 ?_)
        | go_in)
      case c2 => exact one_any _ rfl
      case c3 => unfold maxLen; omega
      case c4 => omega
      case c5 => rw [alloc_size]; exact hbs
      case c6 => exact alloc_size _ _
      intro g cap w3 hown' hgrow hat hlt
      have hg' := grown_row hg hr (grown_past hgrow)
      have hr' := row_next (n := m + 3 + 1) (cap := cap) hr (by omega) hat
      clear hgrow hat
      go_wp2
      exact ⟨⟨4, by decide, rfl, by rw [E4.out]; simpa [Nat.add_assoc] using hown', hg', hr'⟩, by simp [intOf]⟩
    · go_wp2_with (first
        | (at_builtin; refine wpList_append_lies _ (by rfl) _ _ 73 (by rfl) base 5 i0 (.int .u8 0) 1 1 Try.underlying73 hi hz0 hz1 hz2 rfl (by decide) _ _ _ (by rfl) (ho.alloc _) ⟨wr.heap.size, 0, none⟩ 1 1 [_] (by rfl) (by rfl) (World.news_of_block (cs := #[_]) (fr := (0, 0)) (heap_new wr _)) ?c2 (by decide) ?c3 ?c4 ?c5 (wr.heap.size + 1) ?c6 ?_)
        | go_in)
      case c2 => exact one_any _ rfl
      case c3 => unfold maxLen; omega
      case c4 => omega
      case c5 => rw [alloc_size]; exact hbs
      case c6 => exact alloc_size _ _
      intro g cap w3 hown' hgrow hat hlt
      have hg' := grown_row hg hr (grown_past hgrow)
      have hr' := row_next (n := m + 4 + 1) (cap := cap) hr (by omega) hat
      clear hgrow hat
      go_wp2
      exact ⟨⟨5, by decide, rfl, by rw [E5.out]; simpa [Nat.add_assoc] using hown', hg', hr'⟩, by simp [intOf]⟩
    · go_wp2_with (first
        | (at_builtin; refine wpList_append_lies _ (by rfl) _ _ 73 (by rfl) base 5 i0 (.int .u8 0) 1 1 Try.underlying73 hi hz0 hz1 hz2 rfl (by decide) _ _ _ (by rfl) (ho.alloc _) ⟨wr.heap.size, 0, none⟩ 1 1 [_] (by rfl) (by rfl) (World.news_of_block (cs := #[_]) (fr := (0, 0)) (heap_new wr _)) ?c2 (by decide) ?c3 ?c4 ?c5 (wr.heap.size + 1) ?c6 ?_)
        | go_in)
      case c2 => exact one_any _ rfl
      case c3 => unfold maxLen; omega
      case c4 => omega
      case c5 => rw [alloc_size]; exact hbs
      case c6 => exact alloc_size _ _
      intro g cap w3 hown' hgrow hat hlt
      have hg' := grown_row hg hr (grown_past hgrow)
      have hr' := row_next (n := m + 5 + 1) (cap := cap) hr (by omega) hat
      clear hgrow hat
      go_wp2
      exact ⟨⟨6, by decide, rfl, by rw [E6.out]; simpa [Nat.add_assoc] using hown', hg', hr'⟩, by simp [intOf]⟩
    · go_wp2
      go_ret
      exact ⟨_, rfl, by rw [HS.out]; exact ho, hg, hr⟩

def encE (f : FrameL) : List UInt8 := if goodL f = 0 then encL f else []
theorem heap_new2 (w : World) (o p : Obj) : ((w.alloc o).alloc p).heap[w.heap.size + 1]? = some p := by
  have := heap_new (w.alloc o) p
  rwa [alloc_size] at this
theorem row_lt {w : World} {base : Nat} {e : TypeId} {size : Nat} {v : Value} {n : Nat} {xs : List Value} (h : w.ownsRow base e size v n xs) : some w.heap.size ≠ v.ownBlock := by
  intro e
  have := (h.lt _ e.symm).2
  omega
theorem encOps_take {zs : List OpL} {k : Nat} {o : OpL} (hk : k < zs.length) (ho : zs.getD k (0, 0, 0) = o) : encOps (zs.take (k + 1)) = encOps (zs.take k) ++ (byt o.1 :: byt o.2.1 :: six o.2.2) := by
  have : zs[k] = o := by rw [← ho]; simp [List.getD, hk]
  rw [List.take_succ_eq_append_getElem hk, this]
  simp [encOps]
theorem getD_mem {α : Type} {zs : List α} {k : Nat} {d x : α} (hk : k < zs.length) (hx : zs.getD k d = x) : x ∈ zs := by
  have : zs[k] = x := by rw [← hx]; simp [List.getD, hk]
  exact this ▸ List.getElem_mem hk
theorem byte_in {x : Int} (h0 : 0 ≤ x) (h1 : x < 256) : Value.int .u8 x = .int .u8 ((byt x).toNat : Int) := by rw [byt_nat h0 h1]

theorem OpsAt.get {w wr : World} {a : Option Addr} {zs : List OpL} (h : OpsAt w a zs) (hB : Below w.heap.size w wr) {k : Nat} (hk : k < zs.length) : ∃ q0 q1 q2 : Int, Hid (zs.getD k (0, 0, 0) = (q0, q1, q2)) ∧ ∃ b off, a = some ⟨b, off, none⟩ ∧
    wr.cell? ⟨b, off + k * 3, none⟩ = some (.int .i64 q0) ∧ wr.cell? ⟨b, off + k * 3 + 1, none⟩ = some (.int .i64 q1) ∧ wr.cell? ⟨b, off + k * 3 + 2, none⟩ = some (.int .i64 q2) := by
  rcases h with rfl | ⟨b, off, rfl, hb, hc⟩
  · simp at hk
  · obtain ⟨q0, q1, q2, h0, h1, h2, h3⟩ := OpsAt.at hc hb hB hk
    exact ⟨q0, q1, q2, h0, b, off, rfl, h1, h2, h3⟩
theorem goodB_in {q0 q1 q2 : Int} (h : goodB (q0, q1, q2) = true) : 0 ≤ q0 ∧ q0 < 256 ∧ 0 ≤ q1 ∧ q1 < 256 ∧ -140737488355328 ≤ q2 ∧ q2 < 140737488355328 := by
  unfold goodB at h
  simp only [decide_eq_true_eq] at h
  omega
theorem box_far {wr w3 : World} {o p : Obj} {row : Option Nat} (hg : ((wr.alloc o).alloc p).grownBy w3 row) (hr : some wr.heap.size ≠ row) (i : Nat) : w3.cell? ⟨wr.heap.size, i, none⟩ = (wr.alloc o).cell? ⟨wr.heap.size, i, none⟩ := by
  rw [hg.cell_far ⟨wr.heap.size, i, none⟩ (by rw [alloc_size, alloc_size]; simp; omega) hr]
  exact World.cell?_of_block (Below.heap_alloc _ _ _ (by rw [alloc_size]; simp))
theorem encNums_take {zs : List Int} {k : Nat} {n : Int} (hk : k < zs.length) (ho : zs.getD k 0 = n) : encNums (zs.take (k + 1)) = encNums (zs.take k) ++ [byt n] := by
  have : zs[k] = n := by rw [← ho]; simp [List.getD, hk]
  rw [List.take_succ_eq_append_getElem hk, this]
  simp [encNums]
theorem encTold_app : ∀ (xs vs : List Int) (a n : Int), vs.length = xs.length → encTold (xs ++ [a]) (vs ++ [n]) = encTold xs vs ++ (byt a :: six n)
  | [], [], a, n, _ => by simp [encTold]
  | [], _ :: _, _, _, h => by simp at h
  | _ :: _, [], _, _, h => by simp at h
  | x :: xs, v :: vs, a, n, h => by
    have := encTold_app xs vs a n (by simpa using h)
    simp [encTold, this]
theorem encTold_take {xs vs : List Int} {k : Nat} {a n : Int} (hk : k < xs.length) (hl : vs.length = xs.length) (ha : xs.getD k 0 = a) (hn : vs.getD k 0 = n) : encTold (xs.take (k + 1)) (vs.take (k + 1)) = encTold (xs.take k) (vs.take k) ++ (byt a :: six n) := by
  have e1 : xs[k] = a := by rw [← ha]; simp [List.getD, hk]
  have hk' : k < vs.length := by omega
  have e2 : vs[k] = n := by rw [← hn]; simp [List.getD, hk']
  rw [List.take_succ_eq_append_getElem hk, List.take_succ_eq_append_getElem hk', e1, e2]
  exact encTold_app _ _ _ _ (by simp; omega)
theorem IntsAt.getL {w wr : World} {a : Option Addr} {zs : List Int} (h : IntsAt w.heap.size w a zs) (hB : Below w.heap.size w wr) {k : Nat} (hk : k < zs.length) : ∃ q : Int, Hid (zs.getD k 0 = q) ∧ ∃ b off, a = some ⟨b, off, none⟩ ∧ wr.cell? ⟨b, off + k, none⟩ = some (.int .i64 q) :=
  IntsAt.get (h.later hB) hk
theorem Try.underString : Try.prog.underlying 9 = some .string := by kernel_rfl
theorem Try.underByte : Try.prog.underlying 5 = some (.int .u8) := by kernel_rfl
theorem conv_bytes {w : World} {base g n cap : Nat} {l : List UInt8} (h : w.ownsRow base 5 1 (.slice (some ⟨g, 0, none⟩) n cap) n (byCells l)) :
    (convert 73 9 (.slice (some ⟨g, 0, none⟩) n cap)).run Try.prog w = .ok (.string (str l)) w := by
  have hl : l.length = n := by have := h.1; simpa [byCells] using this
  subst hl
  refine run_convert_bytes_back w 73 9 5 ⟨g, 0, none⟩ cap l Try.underlying73 Try.underByte Try.underString ?_
  intro i hi
  rw [h.cells rfl i (.int .u8 ((l[i]).toNat : Int)) (by simp [byCells, hi])]
def encHead (f : FrameL) : List UInt8 := [byt f.kind, byt f.node, byt f.id, byt f.ops.length]
theorem head_cells {kind node id : Int} {ops : List OpL} {deps ats vals : List Int} (k1 : 1 ≤ kind) (k2 : kind ≤ 5) (n1 : 0 ≤ node) (n2 : node < 6) (i1 : 0 ≤ id) (i2 : id < 32) (o1 : ops.length ≤ 4) :
    byCells (encHead ⟨kind, node, id, ops, deps, ats, vals⟩) = [.int .u8 kind, .int .u8 node, .int .u8 id, .int .u8 ops.length] := by
  simp [encHead, byCells, byt_nat (show 0 ≤ kind by omega) (show kind < 256 by omega), byt_nat n1 (show node < 256 by omega), byt_nat i1 (show id < 256 by omega), byt_nat (show 0 ≤ (ops.length : Int) by omega) (show (ops.length : Int) < 256 by omega)]

set_option maxRecDepth 100000 in
set_option maxHeartbeats 2000000 in
theorem encode_any (v : Value) (f : FrameL) (w : World) (hv : FrameV w v f) :
    Calls Try.prog 35 #[v] w fun e w' => e = .returned (.tuple #[.string (str (encE f)), .int .i64 (goodL f)]) ∧ Below w.heap.size w w' := by
  obtain ⟨i0, hi, hz0, hz1, hz2⟩ := info_parts Try.infoByte
  have hvo := fun o => hv.later (frame_box w o)
  have hb0 := frame_box w
  obtain ⟨a3, c3, a4, c4, a5, c5, a6, c6, rfl, h3, h4, h5, h6⟩ := hv
  have HG : Hid (goodL f = 0 → _) := fun h => good_in h
  have HE : Hid (encE f = if goodL f = 0 then encL f else []) := rfl
  obtain ⟨kind, node, id, ops, deps, ats, vals⟩ := f
  simp only at hvo h3 h4 h5 h6
  go_enter Try.func35, Try.ntmps35
  go_wp2_with fail
  obtain ⟨wo, hwo⟩ : ∃ wo, wo = w.alloc (.cells #[.int .i64 kind, .int .i64 node, .int .i64 id, .slice a3 ops.length c3, .slice a4 deps.length c4, .slice a5 ats.length c5, .slice a6 vals.length c6] 39) := ⟨_, rfl⟩
  have hb1 := hb0 (.cells #[.int .i64 kind, .int .i64 node, .int .i64 id, .slice a3 ops.length c3, .slice a4 deps.length c4, .slice a5 ats.length c5, .slice a6 vals.length c6] 39)
  have hv1 := hvo (.cells #[.int .i64 kind, .int .i64 node, .int .i64 id, .slice a3 ops.length c3, .slice a4 deps.length c4, .slice a5 ats.length c5, .slice a6 vals.length c6] 39)
  have hf1 : FAt (w.alloc (.cells #[.int .i64 kind, .int .i64 node, .int .i64 id, .slice a3 ops.length c3, .slice a4 deps.length c4, .slice a5 ats.length c5, .slice a6 vals.length c6] 39)) w.heap.size kind node id (.slice a3 ops.length c3) (.slice a4 deps.length c4) (.slice a5 ats.length c5) (.slice a6 vals.length c6) := ⟨_, heap_new _ _⟩
  rw [← hwo] at hb1 hv1 hf1 ⊢
  clear hwo hvo hb0
  refine (wgood_any _ _ _ hv1).mono ?_
  rintro e w1 ⟨rfl, hc⟩
  have hb2 := hb1.trans (hc.mono hb1.size)
  have hf2 := hf1.block (hc.block _ hf1.lt)
  have lf := hf2.lt
  clear hc hb1 hv1 hf1
  cases tg : goodL ⟨kind, node, id, ops, deps, ats, vals⟩ != 0
  · have tg' : goodL ⟨kind, node, id, ops, deps, ats, vals⟩ = 0 := by simpa using tg
    have HE2 : Hid (encE ⟨kind, node, id, ops, deps, ats, vals⟩ = encL ⟨kind, node, id, ops, deps, ats, vals⟩) := by unfold Hid encE; rw [if_pos tg']
    have HT : Hid (goodL ⟨kind, node, id, ops, deps, ats, vals⟩ = 0) := tg'
    obtain ⟨⟨k1, k2⟩, ⟨n1, n2⟩, ⟨i1, i2⟩, ⟨o1, o2⟩, ⟨d1, d2⟩, ⟨t1, t2⟩, hl, vv⟩ := HG.out tg'
    simp only at *
    have HL : Hid (vals.length = ats.length) := hl
    obtain ⟨q0, q1, q2, q3, q4, q5, q6⟩ := hf2.cell
    clear HG HE tg' hl tg
    rw [HT.out]
    have HH : Hid (byCells (encHead ⟨kind, node, id, ops, deps, ats, vals⟩) = [.int .u8 kind, .int .u8 node, .int .u8 id, .int .u8 ops.length]) := head_cells k1 k2 n1 n2 i1 i2 o1
    go_wp2_with fail
    go_loopw [5, 34] (fun u i wr => ∃ (k : Nat), k ≤ ops.length ∧ i = .int .i64 k ∧ wr.ownsRow w1.heap.size 5 1 u (4 + k * 8) (byCells (encHead ⟨kind, node, id, ops, deps, ats, vals⟩ ++ encOps (ops.take k))) ∧ Below w1.heap.size w1 wr) (fun _ i _ => ops.length - (intOf i).toNat)
    case atStart => exact ⟨0, Nat.zero_le _, rfl, by rw [byCells_app, HH.out]; exact World.ownsRow_lit w1 #[.int .u8 kind, .int .u8 node, .int .u8 id, .int .u8 ops.length] 4 (Nat.le_refl _) (by decide) rfl, (Below.refl _ _).alloc (Nat.le_refl _) _⟩
    case round =>
      obtain ⟨k, hk, rfl, hown, hB⟩ := hrel
      have hsz := hB.size
      by_cases hlt : k < ops.length
      · obtain ⟨x0, x1, x2, Hx, b, off, rfl, e0, e1, e2⟩ := h3.1.get (hb2.trans (hB.mono hb2.size)) hlt
        obtain ⟨y0, y0', y1, y1', y2, y2'⟩ := goodB_in (o2 _ (getD_mem hlt Hx.out))
        have HN : Hid (encOps (ops.take (k + 1)) = encOps (ops.take k) ++ (byt x0 :: byt x1 :: six x2)) := encOps_take hlt Hx.out
        go_wp2_with (first
          | (at_builtin; refine wpList_append_lies _ (by rfl) _ _ 73 (by rfl) w1.heap.size 5 i0 (.int .u8 0) 1 1 Try.underlying73 hi hz0 hz1 hz2 rfl (by decide) _ _ _ (by rfl) ((hown.alloc _).alloc _) ⟨wr.heap.size + 1, 0, none⟩ 2 2 [_, _] (by rfl) (by rfl) (World.news_of_block (cs := #[_, _]) (fr := (0, 0)) (heap_new2 wr _ _)) ?c2 (by decide) ?c3 ?c4 ?c5 (wr.heap.size + 1 + 1) ?c6 ?_)
          | go_in)
        case c2 => simp [Value.oneCell']
        case c3 => unfold maxLen; omega
        case c4 => omega
        case c5 => rw [alloc_size, alloc_size]; omega
        case c6 => rw [alloc_size, alloc_size]
        intro g cap w3 hown3 hgrow hat hlt3
        have hB3 : Below w1.heap.size w1 w3 := ((hB.alloc hsz _).alloc (by rw [alloc_size]; omega) _).grown hgrow (by rw [alloc_size, alloc_size]; omega) (owns_block hown)
        have bx := box_far hgrow (row_lt hown) 2
        simp at bx
        have hs3 := hB3.size
        clear hgrow hat e0 e1 e2 hB hown
        go_wp2_with fail
        refine (appendWide_any w1.heap.size _ _ _ x2 _ hown3 (by omega) hs3 y2 y2').mono ?_
        rintro e w4 ⟨v4, rfl, hown4, hg4, hr4⟩
        have hB4 : Below w1.heap.size w1 w4 := hB3.grown hg4 hs3 (owns_block hown3)
        clear hg4 hr4 hB3 hown3 bx
        go_wp2
        go_roundw
        case rel =>
          refine ⟨k + 1, by omega, by go_num, ?_, hB4⟩
          rw [HN.out]
          have e1 : 4 + (k + 1) * 8 = 4 + k * 8 + 2 + 6 := by omega
          rw [e1]
          simp only [byCells_app] at hown4 ⊢
          have e2 : byCells (byt x0 :: byt x1 :: six x2) = [.int .u8 x0, .int .u8 x1] ++ byCells (six x2) := by simp [byCells, byt_nat y0 y0', byt_nat y1 y1']
          rw [e2]
          simpa only [List.append_assoc] using hown4
        case measure => simp [intOf]; omega
      · have ek : k = ops.length := by omega
        subst ek
        rw [List.take_length] at hown
        have p4 : wr.cell? ⟨w.heap.size, 4, none⟩ = some (.slice a4 deps.length c4) := by rw [hB.cell (p := ⟨w.heap.size, 4, none⟩) lf]; exact q4
        clear hk hlt
        obtain ⟨wx, hwx⟩ : ∃ wx, wx = wr := ⟨_, rfl⟩
        subst hwx
        go_wp2_with (first
          | (at_builtin; refine wpList_append_lies _ (by rfl) _ _ 73 (by rfl) w1.heap.size 5 i0 (.int .u8 0) 1 1 Try.underlying73 hi hz0 hz1 hz2 rfl (by decide) _ _ _ (by rfl) (hown.alloc _) ⟨wx.heap.size, 0, none⟩ 1 1 [_] (by rfl) (by rfl) (World.news_of_block (cs := #[_]) (fr := (0, 0)) (heap_new wx _)) ?c2 (by decide) ?c3 ?c4 ?c5 (wx.heap.size + 1) ?c6 ?_)
          | go_in)
        case c2 => exact one_any _ rfl
        case c3 => unfold maxLen; omega
        case c4 => omega
        case c5 => rw [alloc_size]; omega
        case c6 => exact alloc_size _ _
        intro g cap w3 hown3 hgrow hat hlt3
        have hB3 : Below w1.heap.size w1 w3 := (hB.alloc hsz _).grown hgrow (by rw [alloc_size]; omega) (owns_block hown)
        obtain ⟨L, hL⟩ : ∃ L, L = encHead ⟨kind, node, id, ops, deps, ats, vals⟩ ++ encOps ops ++ [byt deps.length] := ⟨_, rfl⟩
        have hown3' : w3.ownsRow w1.heap.size 5 1 (.slice (some ⟨g, 0, none⟩) (4 + ops.length * 8 + 1) cap) (4 + ops.length * 8 + 1) (byCells L) := by
          rw [hL, byCells_app, show byCells [byt deps.length] = [.int .u8 deps.length] from by simp [byCells, byt_nat (show 0 ≤ (deps.length : Int) by omega) (show (deps.length : Int) < 256 by omega)]]
          exact hown3
        have HL2 : Hid (L = encHead ⟨kind, node, id, ops, deps, ats, vals⟩ ++ encOps ops ++ [byt deps.length]) := hL
        have p4' : w3.cell? ⟨w.heap.size, 4, none⟩ = some (.slice a4 deps.length c4) := by rw [hB3.cell (p := ⟨w.heap.size, 4, none⟩) lf]; exact q4
        clear hgrow hat hL hown3 hown hB p4 hlt3 hsz
        go_wp2_with fail
        go_loopw [5, 62] (fun u i wr => ∃ (k : Nat), k ≤ deps.length ∧ i = .int .i64 k ∧ wr.ownsRow w1.heap.size 5 1 u (4 + ops.length * 8 + 1 + k) (byCells (L ++ encNums (deps.take k))) ∧ Below w1.heap.size w1 wr) (fun _ i _ => deps.length - (intOf i).toNat)
        case atStart => exact ⟨0, Nat.zero_le _, rfl, by simpa [encNums] using hown3', hB3⟩
        case round =>
          obtain ⟨k, hk, rfl, hown, hB⟩ := hrel
          have hsz := hB.size
          by_cases hlt : k < deps.length
          · obtain ⟨x0, Hx, b, off, rfl, e0⟩ := h4.1.getL (hb2.trans (hB.mono hb2.size)) hlt
            obtain ⟨y0, y0'⟩ := d2 _ (getD_mem hlt Hx.out)
            have HN : Hid (encNums (deps.take (k + 1)) = encNums (deps.take k) ++ [byt x0]) := encNums_take hlt Hx.out
            go_wp2_with (first
              | (at_builtin; refine wpList_append_lies _ (by rfl) _ _ 73 (by rfl) w1.heap.size 5 i0 (.int .u8 0) 1 1 Try.underlying73 hi hz0 hz1 hz2 rfl (by decide) _ _ _ (by rfl) (hown.alloc _) ⟨wr.heap.size, 0, none⟩ 1 1 [_] (by rfl) (by rfl) (World.news_of_block (cs := #[_]) (fr := (0, 0)) (heap_new wr _)) ?c2 (by decide) ?c3 ?c4 ?c5 (wr.heap.size + 1) ?c6 ?_)
              | go_in)
            case c2 => exact one_any _ rfl
            case c3 => unfold maxLen; omega
            case c4 => omega
            case c5 => rw [alloc_size]; omega
            case c6 => exact alloc_size _ _
            intro g2 cap2 w4 hown4 hgrow hat hlt4
            have hB4 : Below w1.heap.size w1 w4 := (hB.alloc hsz _).grown hgrow (by rw [alloc_size]; omega) (owns_block hown)
            clear hgrow hat hB hown e0
            go_wp2
            go_roundw
            case rel =>
              refine ⟨k + 1, by omega, by go_num, ?_, hB4⟩
              rw [HN.out]
              simp only [byCells_app] at hown4 ⊢
              have e2 : byCells [byt x0] = [.int .u8 x0] := by simp [byCells, byt_nat y0 y0']
              rw [e2]
              simpa only [List.append_assoc, Nat.add_assoc] using hown4
            case measure => simp [intOf]; omega
          · have ek : k = deps.length := by omega
            subst ek
            rw [List.take_length] at hown
            have p5 : wr.cell? ⟨w.heap.size, 5, none⟩ = some (.slice a5 ats.length c5) := by rw [hB.cell (p := ⟨w.heap.size, 5, none⟩) lf]; exact q5
            clear hk hlt hown3' hB3 p4'
            obtain ⟨wy, hwy⟩ : ∃ wy, wy = wr := ⟨_, rfl⟩
            subst hwy
            go_wp2_with (first
              | (at_builtin; refine wpList_append_lies _ (by rfl) _ _ 73 (by rfl) w1.heap.size 5 i0 (.int .u8 0) 1 1 Try.underlying73 hi hz0 hz1 hz2 rfl (by decide) _ _ _ (by rfl) (hown.alloc _) ⟨wy.heap.size, 0, none⟩ 1 1 [_] (by rfl) (by rfl) (World.news_of_block (cs := #[_]) (fr := (0, 0)) (heap_new wy _)) ?c2 (by decide) ?c3 ?c4 ?c5 (wy.heap.size + 1) ?c6 ?_)
              | go_in)
            case c2 => exact one_any _ rfl
            case c3 => unfold maxLen; omega
            case c4 => omega
            case c5 => rw [alloc_size]; omega
            case c6 => exact alloc_size _ _
            intro g2 cap2 w4 hown4 hgrow hat hlt4
            have hB4 : Below w1.heap.size w1 w4 := (hB.alloc hsz _).grown hgrow (by rw [alloc_size]; omega) (owns_block hown)
            obtain ⟨M, hM⟩ : ∃ M, M = L ++ encNums deps ++ [byt ats.length] := ⟨_, rfl⟩
            have hown4' : w4.ownsRow w1.heap.size 5 1 (.slice (some ⟨g2, 0, none⟩) (4 + ops.length * 8 + 1 + deps.length + 1) cap2) (4 + ops.length * 8 + 1 + deps.length + 1) (byCells M) := by
              rw [hM, byCells_app, show byCells [byt ats.length] = [.int .u8 ats.length] from by simp [byCells, byt_nat (show 0 ≤ (ats.length : Int) by omega) (show (ats.length : Int) < 256 by omega)]]
              exact hown4
            have HM : Hid (M = L ++ encNums deps ++ [byt ats.length]) := hM
            have p5' : w4.cell? ⟨w.heap.size, 5, none⟩ = some (.slice a5 ats.length c5) := by rw [hB4.cell (p := ⟨w.heap.size, 5, none⟩) lf]; exact q5
            clear hgrow hat hM hown4 hown hB p5 hlt4 hsz
            go_wp2_with fail
            go_loopw [5, 82] (fun u i wr => ∃ (k : Nat), k ≤ ats.length ∧ i = .int .i64 k ∧ wr.ownsRow w1.heap.size 5 1 u (4 + ops.length * 8 + 1 + deps.length + 1 + k * 7) (byCells (M ++ encTold (ats.take k) (vals.take k))) ∧ Below w1.heap.size w1 wr) (fun _ i _ => ats.length - (intOf i).toNat)
            case atStart => exact ⟨0, Nat.zero_le _, rfl, by simpa [encTold] using hown4', hB4⟩
            case round =>
              obtain ⟨k, hk, rfl, hown, hB⟩ := hrel
              have hsz := hB.size
              by_cases hlt : k < ats.length
              · obtain ⟨x0, Hx, b, off, rfl, e0⟩ := h5.1.getL (hb2.trans (hB.mono hb2.size)) hlt
                obtain ⟨y0, y0'⟩ := t2 _ (getD_mem hlt Hx.out)
                have hltv : k < vals.length := by rw [HL.out]; exact hlt
                obtain ⟨x1, Hy, b', off', rfl, f0⟩ := h6.1.getL (hb2.trans (hB.mono hb2.size)) hltv
                obtain ⟨y1, y1'⟩ := vv _ (getD_mem hltv Hy.out)
                have HN : Hid (encTold (ats.take (k + 1)) (vals.take (k + 1)) = encTold (ats.take k) (vals.take k) ++ (byt x0 :: six x1)) := encTold_take hlt HL.out Hx.out Hy.out
                go_wp2_with (first
                  | (at_builtin; refine wpList_append_lies _ (by rfl) _ _ 73 (by rfl) w1.heap.size 5 i0 (.int .u8 0) 1 1 Try.underlying73 hi hz0 hz1 hz2 rfl (by decide) _ _ _ (by rfl) (hown.alloc _) ⟨wr.heap.size, 0, none⟩ 1 1 [_] (by rfl) (by rfl) (World.news_of_block (cs := #[_]) (fr := (0, 0)) (heap_new wr _)) ?c2 (by decide) ?c3 ?c4 ?c5 (wr.heap.size + 1) ?c6 ?_)
                  | go_in)
                case c2 => exact one_any _ rfl
                case c3 => unfold maxLen; omega
                case c4 => omega
                case c5 => rw [alloc_size]; omega
                case c6 => exact alloc_size _ _
                intro g3 cap3 w5 hown5 hgrow hat hlt5
                have hB5 : Below w1.heap.size w1 w5 := (hB.alloc hsz _).grown hgrow (by rw [alloc_size]; omega) (owns_block hown)
                have hs5 := hB5.size
                have p6 : w5.cell? ⟨w.heap.size, 6, none⟩ = some (.slice (some ⟨b', off', none⟩) vals.length c6) := by rw [hB5.cell (p := ⟨w.heap.size, 6, none⟩) lf]; exact q6
                have f1 : w5.cell? ⟨b', off' + k, none⟩ = some (.int .i64 x1) := by
                  obtain ⟨x1', Hy', b'', off'', ee, f1⟩ := h6.1.getL (hb2.trans (hB5.mono hb2.size)) hltv
                  simp at ee
                  obtain ⟨rfl, rfl⟩ := ee
                  rw [f1, ← Hy'.out, Hy.out]
                have hvi : (k : Int) < (vals.length : Int) := by omega
                clear hgrow hat hB hown e0 f0
                go_wp2_with fail
                refine (appendWide_any w1.heap.size _ _ _ x1 _ hown5 (by omega) hs5 y1 y1').mono ?_
                rintro e w6 ⟨v6, rfl, hown6, hg6, hr6⟩
                have hB6 : Below w1.heap.size w1 w6 := hB5.grown hg6 hs5 (owns_block hown5)
                clear hg6 hr6 hB5 hown5 p6 f1
                go_wp2
                go_roundw
                case rel =>
                  refine ⟨k + 1, by omega, by go_num, ?_, hB6⟩
                  rw [HN.out]
                  have e1 : 4 + ops.length * 8 + 1 + deps.length + 1 + (k + 1) * 7 = 4 + ops.length * 8 + 1 + deps.length + 1 + k * 7 + 1 + 6 := by omega
                  rw [e1]
                  simp only [byCells_app] at hown6 ⊢
                  have e2 : byCells (byt x0 :: six x1) = [.int .u8 x0] ++ byCells (six x1) := by simp [byCells, byt_nat y0 y0']
                  rw [e2]
                  simpa only [List.append_assoc] using hown6
                case measure => simp [intOf]; omega
              · have ek : k = ats.length := by omega
                subst ek
                rw [List.take_length, List.take_of_length_le (by rw [HL.out]; exact Nat.le_refl _)] at hown
                obtain ⟨g9, cap9, rfl, hg9, _⟩ := hown.form (by omega)
                have hbb : Below w.heap.size w wr := hb2.trans (hB.mono hb2.size)
                have HF : Hid (encE ⟨kind, node, id, ops, deps, ats, vals⟩ = M ++ encTold ats vals) := by
                  unfold Hid
                  rw [HE2.out, HM.out, HL2.out]
                  simp [encL, encHead]
                have hcv := conv_bytes (l := M ++ encTold ats vals) hown
                clear hown
                go_wp2
                go_ret2
                exact ⟨by rw [HF.out, HT.out]; rfl, hbb⟩
  · have tg' : ¬ goodL ⟨kind, node, id, ops, deps, ats, vals⟩ = 0 := by simpa using tg
    have HE2 : Hid (encE ⟨kind, node, id, ops, deps, ats, vals⟩ = []) := by unfold Hid encE; rw [if_neg tg']
    clear tg'
    go_wp2
    go_ret2
    exact ⟨by rw [HE2.out]; rfl, hb2⟩

end Go.Proofs.Ytkoefoccbjhoiaa
