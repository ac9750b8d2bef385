/-
  How a slice of operations, or of ints, that came in is read: its elements' numbers, and where they lie.
-/
import Derived.Test.YtkoefoccbjhoiaaOpenB
import Derived.Test.YtkoefoccbjhoiaaOps
import Derived.ProofKit
import Derived.OpenShut
import Derived.ShutString
import Derived.ChangeOld
import Derived.Below
import Derived.Deep.Slices
set_option linter.unusedVariables false
set_option linter.unusedSimpArgs false
namespace Go.Proofs.Ytkoefoccbjhoiaa
open Go.ChangeShapes Go.WideShapes Go.ChangeAt Go.RowKit Go.Deep

theorem Try.cellsOp : Try.prog.cellsOf 28 = 3 := by kernel_rfl

theorem Try.bytesOp : Try.prog.bytesOf 28 = 24 := by kernel_rfl

def FitsOp (o : OpL) : Prop := Fits o.1 ∧ Fits o.2.1 ∧ Fits o.2.2

section
variable {H : Type} {enc : TypeId × Value → H} {P : Program} {w : World} {base : Nat} {spare : Nat → Bool} {held : Bool}

/-- A slice of operations that came in. -/
theorem open_opsAt {t e f : TypeId} {fuel : Nat} {a : Option Addr} {len cap : Nat} {x : DataW H × List MemPlace} {f0 f1 f2 : Field} (ht : P.underlying t = some (.slice e)) (he : P.underlying e = some (.struct #[f0, f1, f2])) (hf : P.underlying f = some (.int .i64))
    (hc : P.cellsOf e = 3) (hcf : P.cellsOf f = 1) (y0 : f0.type = f) (y1 : f1.type = f) (y2 : f2.type = f) (o0 : f0.offset = 0) (o1 : f1.offset = 1) (o2 : f2.offset = 2)
    (h : DataW.trod enc P w base spare held fuel t [.slice a len cap] = some x) :
    len ≤ maxLen ∧ ∃ zs : List OpL, zs.length = len ∧ OpsAt w a zs ∧ (∀ o ∈ zs, FitsOp o) ∧ (a = none → len = 0 ∧ cap = 0) ∧ len ≤ cap := by
  rcases open_slice ht h with ⟨hcs, _⟩ | ⟨x, l, c, m, n, D, Pl, hcs, hb, hl, hm, hmm, _, hx⟩
  · simp at hcs
    obtain ⟨rfl, rfl, rfl⟩ := hcs
    exact ⟨Nat.zero_le _, [], rfl, Or.inl rfl, by simp, fun _ => ⟨rfl, rfl⟩, Nat.le_refl _⟩
  · simp at hcs
    obtain ⟨rfl, rfl, rfl⟩ := hcs
    have hlm : len ≤ m := by rw [hmm]; split <;> omega
    have each : ∀ i, i < len → ∃ q : OpL, w.cell? (x.add (i * 3)) = some (.int .i64 q.1) ∧ w.cell? (x.add (i * 3 + 1)) = some (.int .i64 q.2.1) ∧ w.cell? (x.add (i * 3 + 2)) = some (.int .i64 q.2.2) ∧ FitsOp q := by
      intro i hi
      obtain ⟨cs', h1, h2⟩ := hx i (by omega)
      rw [hc] at h1
      obtain ⟨_, hlen, hcell⟩ := World.cells?_some h1
      obtain ⟨xs, k, hk, hxy, _, hxl, hfs⟩ := DataW.trod_struct he h2
      match xs, hxl, cs', hlen with
      | [z0, z1, z2], _, [v0, v1, v2], _ =>
        have g0 := hfs 0 f0 rfl
        have g1 := hfs 1 f1 rfl
        have g2 := hfs 2 f2 rfl
        simp [y0, y1, y2, o0, o1, o2, hcf] at g0 g1 g2
        obtain ⟨n0, r0, _, q0⟩ := DataW.trod_int hf g0
        obtain ⟨n1, r1, _, q1⟩ := DataW.trod_int hf g1
        obtain ⟨n2, r2, _, q2⟩ := DataW.trod_int hf g2
        simp at r0 r1 r2
        subst r0 r1 r2
        have e0 := hcell 0 (by omega)
        have e1 := hcell 1 (by omega)
        have e2 := hcell 2 (by omega)
        rw [add_add] at e0 e1 e2
        exact ⟨(n0, n1, n2), by simpa using e0, by simpa using e1, by simpa using e2, q0, q1, q2⟩
    obtain ⟨Q, hQ⟩ := choose_lt each
    refine ⟨by omega, (List.range len).map Q, by simp, ?_, ?_, fun h => by simp at h, hl⟩
    · by_cases h0 : len = 0
      · left
        simp [h0]
      · right
        obtain ⟨b, off, spot⟩ := x
        have hc0 := (hQ 0 (by omega)).1
        have hs : spot = none := by simpa [Addr.add] using World.cell?_spot hc0
        subst hs
        refine ⟨b, off, rfl, by simpa [Addr.add] using lt_of_cell hc0, fun i hi => ?_⟩
        have hi' : i < len := by simpa using hi
        obtain ⟨t0, t1, t2, _⟩ := hQ i hi'
        rw [add_none] at t0 t1 t2
        have hg : ((List.range len).map Q).getD i (0, 0, 0) = Q i := by simp [List.getD, hi']
        rw [hg]
        exact ⟨t0, t1, t2⟩
    · intro o ho
      obtain ⟨i, hi, rfl⟩ := List.mem_map.1 ho
      exact (hQ i (List.mem_range.1 hi)).2.2.2

end

end Go.Proofs.Ytkoefoccbjhoiaa
