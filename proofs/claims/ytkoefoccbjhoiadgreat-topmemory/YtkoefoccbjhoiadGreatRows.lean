/-
  No cell of these rows narrows 'for every input' (looked for: loops, veiled, ifaces, maps, wideKeys, modest, calm, conditions, laid).
  DERIVED. THE GIVEN ROWS OF THIS SEAT. 4 by the template 'for every input the law returns true; each argument reads behind the call as it read before'; 0 by the template 'total and deterministic' (their statements: YtkoefoccbjhoiadGreatTotals.lean).
  GIVEN WITH THE SEED: the statements are not yours to turn. If you find one false, say at which input.
  Laid BY PROGRAM, IN A SANDBOX (cutbox-rows.mjs): the forced cells as the released guide's own fill.sh prints them over the translation 89144ff35ecd5693… (all of the seat's roots in one cut). By AI agents, Wed Nov 11 2026. No macro, syntax, notation, axiom, sorry.
-/
import Derived.Test.YtkoefoccbjhoiadGreatChecked
import GoSem.Claim
import GoSem.ClaimJoined
import GoSem.ClaimMapViews
import Derived.JoinedTies
import Derived.KernelRfl
namespace Go.Proofs.YtkoefoccbjhoiadGreat
/- THE CELL 'sum', in the pinned program and in every row, IS THE sha256 OF THE DUMP (.gsa) THAT YtkoefoccbjhoiadGreatProg.lean LOADS. Nothing in Lean hashes anything: it is a label: what it is worth is what the hold of that sum in a sandbox is worth. -/
noncomputable def Tryz.pinned : Pinned := { name := "ytkoefoccbjhoiadgreat", sum := "89144ff35ecd56933d785a7c6be1d6d19d5d2644f5be812498aa862c8987f371", checked := Tryz.checked }
namespace Rows
def none {H : Type} : Left H := { results := [], args := [] }

/-- 'janusposttop.TopMemory': WHATEVER THE INPUT: true; the input reads as it did. -/
def topMemorySpec : ChangeSpec := { name := "topMemory", fn := fun _ => fun
  | [d] => { results := [.lit (.bool true)], args := [d] }
  | _ => none }
def topMemoryRow : OpenClaim := { program := "ytkoefoccbjhoiadgreat", sum := "89144ff35ecd56933d785a7c6be1d6d19d5d2644f5be812498aa862c8987f371", func := "januspost/janusposttop.TopMemory", spec := "topMemory", unfollowed := true, recurses := true, apart := false }
def TopMemorySaid : Prop := topMemoryRow.holds Tryz.pinned (OpenSpec.ofChange topMemorySpec)

/-- ITS FALSE NEIGHBOUR: 'it returns false'. Refute it at one input. -/
def topMemoryWrong : ChangeSpec := { name := "topMemory", fn := fun _ => fun
  | [d] => { results := [.lit (.bool false)], args := [d] }
  | _ => none }
def TopMemoryWrongFalsely : Prop := topMemoryRow.holds Tryz.pinned (OpenSpec.ofChange topMemoryWrong)

/-- 'janusposttop.TopEnds': WHATEVER THE INPUT: true; the input reads as it did. -/
def topEndsSpec : ChangeSpec := { name := "topEnds", fn := fun _ => fun
  | [d1, d2] => { results := [.lit (.bool true)], args := [d1, d2] }
  | _ => none }
def topEndsRow : OpenClaim := { program := "ytkoefoccbjhoiadgreat", sum := "89144ff35ecd56933d785a7c6be1d6d19d5d2644f5be812498aa862c8987f371", func := "januspost/janusposttop.TopEnds", spec := "topEnds", unfollowed := true, recurses := true, apart := false }
def TopEndsSaid : Prop := topEndsRow.holds Tryz.pinned (OpenSpec.ofChange topEndsSpec)

/-- ITS FALSE NEIGHBOUR: 'it returns false'. Refute it at one input. -/
def topEndsWrong : ChangeSpec := { name := "topEnds", fn := fun _ => fun
  | [d1, d2] => { results := [.lit (.bool false)], args := [d1, d2] }
  | _ => none }
def TopEndsWrongFalsely : Prop := topEndsRow.holds Tryz.pinned (OpenSpec.ofChange topEndsWrong)

/-- 'januspostlaw.ClusterPlays': WHATEVER THE INPUT: true; the input reads as it did. -/
def clusterPlaysSpec : ChangeSpec := { name := "clusterPlays", fn := fun _ => fun
  | [d] => { results := [.lit (.bool true)], args := [d] }
  | _ => none }
def clusterPlaysRow : OpenClaim := { program := "ytkoefoccbjhoiadgreat", sum := "89144ff35ecd56933d785a7c6be1d6d19d5d2644f5be812498aa862c8987f371", func := "januspost/januspostlaw.ClusterPlays", spec := "clusterPlays", unfollowed := true, recurses := true, apart := false }
def ClusterPlaysSaid : Prop := clusterPlaysRow.holds Tryz.pinned (OpenSpec.ofChange clusterPlaysSpec)

/-- ITS FALSE NEIGHBOUR: 'it returns false'. Refute it at one input. -/
def clusterPlaysWrong : ChangeSpec := { name := "clusterPlays", fn := fun _ => fun
  | [d] => { results := [.lit (.bool false)], args := [d] }
  | _ => none }
def ClusterPlaysWrongFalsely : Prop := clusterPlaysRow.holds Tryz.pinned (OpenSpec.ofChange clusterPlaysWrong)

/-- 'januspostlaw.ClusterRuns': WHATEVER THE INPUT: true; the input reads as it did. -/
def clusterRunsSpec : ChangeSpec := { name := "clusterRuns", fn := fun _ => fun
  | [d] => { results := [.lit (.bool true)], args := [d] }
  | _ => none }
def clusterRunsRow : OpenClaim := { program := "ytkoefoccbjhoiadgreat", sum := "89144ff35ecd56933d785a7c6be1d6d19d5d2644f5be812498aa862c8987f371", func := "januspost/januspostlaw.ClusterRuns", spec := "clusterRuns", unfollowed := true, recurses := true, apart := false }
def ClusterRunsSaid : Prop := clusterRunsRow.holds Tryz.pinned (OpenSpec.ofChange clusterRunsSpec)

/-- ITS FALSE NEIGHBOUR: 'it returns false'. Refute it at one input. -/
def clusterRunsWrong : ChangeSpec := { name := "clusterRuns", fn := fun _ => fun
  | [d] => { results := [.lit (.bool false)], args := [d] }
  | _ => none }
def ClusterRunsWrongFalsely : Prop := clusterRunsRow.holds Tryz.pinned (OpenSpec.ofChange clusterRunsWrong)

/- THE SECOND FORM. 'bulk': how many values and letters a reading holds, each counted each time it is reached (what is shared counts as often as it is met; a slice's spare places count too). A statement '..UptoSaid' is the law's where the arguments, and the package variables that the reading takes, are together of bulk at most 1048576: NARROWER than '..Said'. Prove '..Said' where nothing that the law and all that it calls make is longer than what came in: it says more and counts as full. Else prove '..UptoSaid'. A law counts once. -/
mutual
def uptoBulk {H : Type} : DataW H → Nat
  | .lit (.string bytes) => bytes.length + 1
  | .lit _ => 1
  | .nil => 1
  | .ptr d => uptoBulk d + 1
  | .slice elems spare => uptoBulkAll elems + uptoBulkAll spare + 1
  | .agg parts => uptoBulkAll parts + 1
  | .iface _ d => uptoBulk d + 1
  | .map entries => uptoBulkEntries entries + 1
  | .held _ => 1
def uptoBulkAll {H : Type} : List (DataW H) → Nat
  | [] => 0
  | d :: r => uptoBulk d + uptoBulkAll r
def uptoBulkEntries {H : Type} : List (Lit × DataW H) → Nat
  | [] => 0
  | x :: r => uptoBulkEntry x + uptoBulkEntries r
def uptoBulkEntry {H : Type} : Lit × DataW H → Nat
  | (.string bytes, d) => bytes.length + uptoBulk d + 1
  | (_, d) => uptoBulk d + 1
 end
def uptoSmall : (H : Type) → List (DataW H) → Bool := fun _ ds => decide (uptoBulkAll ds ≤ 1048576)
def OpenSpec.upto (s : _root_.Go.ChangeSpec) : _root_.Go.OpenSpec := { _root_.Go.OpenSpec.ofChange s with cond := some uptoSmall }

/-- 'janusposttop.TopMemory', WHERE WHAT IT READS IS OF BULK AT MOST 1048576: true; the input reads as it did. -/
def topMemoryUptoRow : OpenClaim := { program := "ytkoefoccbjhoiadgreat", sum := "89144ff35ecd56933d785a7c6be1d6d19d5d2644f5be812498aa862c8987f371", func := "januspost/janusposttop.TopMemory", spec := "topMemory", unfollowed := true, recurses := true, apart := false, narrowed := true }
def TopMemoryUptoSaid : Prop := topMemoryUptoRow.holds Tryz.pinned (OpenSpec.upto topMemorySpec)

/-- 'janusposttop.TopEnds', WHERE WHAT IT READS IS OF BULK AT MOST 1048576: true; the input reads as it did. -/
def topEndsUptoRow : OpenClaim := { program := "ytkoefoccbjhoiadgreat", sum := "89144ff35ecd56933d785a7c6be1d6d19d5d2644f5be812498aa862c8987f371", func := "januspost/janusposttop.TopEnds", spec := "topEnds", unfollowed := true, recurses := true, apart := false, narrowed := true }
def TopEndsUptoSaid : Prop := topEndsUptoRow.holds Tryz.pinned (OpenSpec.upto topEndsSpec)

/-- 'januspostlaw.ClusterPlays', WHERE WHAT IT READS IS OF BULK AT MOST 1048576: true; the input reads as it did. -/
def clusterPlaysUptoRow : OpenClaim := { program := "ytkoefoccbjhoiadgreat", sum := "89144ff35ecd56933d785a7c6be1d6d19d5d2644f5be812498aa862c8987f371", func := "januspost/januspostlaw.ClusterPlays", spec := "clusterPlays", unfollowed := true, recurses := true, apart := false, narrowed := true }
def ClusterPlaysUptoSaid : Prop := clusterPlaysUptoRow.holds Tryz.pinned (OpenSpec.upto clusterPlaysSpec)

/-- 'januspostlaw.ClusterRuns', WHERE WHAT IT READS IS OF BULK AT MOST 1048576: true; the input reads as it did. -/
def clusterRunsUptoRow : OpenClaim := { program := "ytkoefoccbjhoiadgreat", sum := "89144ff35ecd56933d785a7c6be1d6d19d5d2644f5be812498aa862c8987f371", func := "januspost/januspostlaw.ClusterRuns", spec := "clusterRuns", unfollowed := true, recurses := true, apart := false, narrowed := true }
def ClusterRunsUptoSaid : Prop := clusterRunsUptoRow.holds Tryz.pinned (OpenSpec.upto clusterRunsSpec)

end Rows
end Go.Proofs.YtkoefoccbjhoiadGreat
