/-
  No cell of these rows narrows 'for every input' (looked for: loops, veiled, ifaces, maps, wideKeys, modest, calm, conditions, laid).
  DERIVED. THE GIVEN ROWS OF THIS SEAT. 12 by the template 'for every input the law returns true; each argument reads behind the call as it read before'; 0 by the template 'total and deterministic' (their statements: YtkoefoccbjhoiaaTotals.lean).
  GIVEN WITH THE SEED: the statements are not yours to turn. If you find one false, say at which input.
  Laid BY PROGRAM, IN A SANDBOX (cutbox-rows.mjs): the forced cells as the released guide's own fill.sh prints them over the translation 5357873e4c51a4a2… (all of the seat's roots in one cut). By AI agents, Wed Nov 11 2026. No macro, syntax, notation, axiom, sorry.
-/
import Derived.Test.YtkoefoccbjhoiaaChecked
import GoSem.Claim
import GoSem.ClaimJoined
import GoSem.ClaimMapViews
import Derived.JoinedTies
import Derived.KernelRfl
namespace Go.Proofs.Ytkoefoccbjhoiaa
/- THE CELL 'sum', in the pinned program and in every row, IS THE sha256 OF THE DUMP (.gsa) THAT YtkoefoccbjhoiaaProg.lean LOADS. Nothing in Lean hashes anything: it is a label: what it is worth is what the hold of that sum in a sandbox is worth. -/
noncomputable def Try.pinned : Pinned := { name := "ytkoefoccbjhoiaa", sum := "5357873e4c51a4a28bd5549443e83b906be880733451599e7db69a3745863ea2", checked := Try.checked }
namespace Rows
def none {H : Type} : Left H := { results := [], args := [] }

/-- 'januspostlaw.TxnTells': WHATEVER THE INPUT: true; the input reads as it did. -/
def txnTellsSpec : ChangeSpec := { name := "txnTells", fn := fun _ => fun
  | [d1, d2, d3, d4, d5] => { results := [.lit (.bool true)], args := [d1, d2, d3, d4, d5] }
  | _ => none }
def txnTellsRow : OpenClaim := { program := "ytkoefoccbjhoiaa", sum := "5357873e4c51a4a28bd5549443e83b906be880733451599e7db69a3745863ea2", func := "januspost/januspostlaw.TxnTells", spec := "txnTells", apart := false }
def TxnTellsSaid : Prop := txnTellsRow.holds Try.pinned (OpenSpec.ofChange txnTellsSpec)

/-- ITS FALSE NEIGHBOUR: 'it returns false'. Refute it at one input. -/
def txnTellsWrong : ChangeSpec := { name := "txnTells", fn := fun _ => fun
  | [d1, d2, d3, d4, d5] => { results := [.lit (.bool false)], args := [d1, d2, d3, d4, d5] }
  | _ => none }
def TxnTellsWrongFalsely : Prop := txnTellsRow.holds Try.pinned (OpenSpec.ofChange txnTellsWrong)

/-- 'januspostlaw.TxnLists': WHATEVER THE INPUT: true; the input reads as it did. -/
def txnListsSpec : ChangeSpec := { name := "txnLists", fn := fun _ => fun
  | [d1, d2] => { results := [.lit (.bool true)], args := [d1, d2] }
  | _ => none }
def txnListsRow : OpenClaim := { program := "ytkoefoccbjhoiaa", sum := "5357873e4c51a4a28bd5549443e83b906be880733451599e7db69a3745863ea2", func := "januspost/januspostlaw.TxnLists", spec := "txnLists", apart := false }
def TxnListsSaid : Prop := txnListsRow.holds Try.pinned (OpenSpec.ofChange txnListsSpec)

/-- ITS FALSE NEIGHBOUR: 'it returns false'. Refute it at one input. -/
def txnListsWrong : ChangeSpec := { name := "txnLists", fn := fun _ => fun
  | [d1, d2] => { results := [.lit (.bool false)], args := [d1, d2] }
  | _ => none }
def TxnListsWrongFalsely : Prop := txnListsRow.holds Try.pinned (OpenSpec.ofChange txnListsWrong)

/-- 'januspostkeep.TxnBoth': WHATEVER THE INPUT: true; the input reads as it did. -/
def txnBothSpec : ChangeSpec := { name := "txnBoth", fn := fun _ => fun
  | [d1, d2, d3] => { results := [.lit (.bool true)], args := [d1, d2, d3] }
  | _ => none }
def txnBothRow : OpenClaim := { program := "ytkoefoccbjhoiaa", sum := "5357873e4c51a4a28bd5549443e83b906be880733451599e7db69a3745863ea2", func := "januspost/januspostkeep.TxnBoth", spec := "txnBoth", apart := false }
def TxnBothSaid : Prop := txnBothRow.holds Try.pinned (OpenSpec.ofChange txnBothSpec)

/-- ITS FALSE NEIGHBOUR: 'it returns false'. Refute it at one input. -/
def txnBothWrong : ChangeSpec := { name := "txnBoth", fn := fun _ => fun
  | [d1, d2, d3] => { results := [.lit (.bool false)], args := [d1, d2, d3] }
  | _ => none }
def TxnBothWrongFalsely : Prop := txnBothRow.holds Try.pinned (OpenSpec.ofChange txnBothWrong)

/-- 'januspostkeep.TxnUnions': WHATEVER THE INPUT: true; the input reads as it did. -/
def txnUnionsSpec : ChangeSpec := { name := "txnUnions", fn := fun _ => fun
  | [d1, d2, d3] => { results := [.lit (.bool true)], args := [d1, d2, d3] }
  | _ => none }
def txnUnionsRow : OpenClaim := { program := "ytkoefoccbjhoiaa", sum := "5357873e4c51a4a28bd5549443e83b906be880733451599e7db69a3745863ea2", func := "januspost/januspostkeep.TxnUnions", spec := "txnUnions", apart := false }
def TxnUnionsSaid : Prop := txnUnionsRow.holds Try.pinned (OpenSpec.ofChange txnUnionsSpec)

/-- ITS FALSE NEIGHBOUR: 'it returns false'. Refute it at one input. -/
def txnUnionsWrong : ChangeSpec := { name := "txnUnions", fn := fun _ => fun
  | [d1, d2, d3] => { results := [.lit (.bool false)], args := [d1, d2, d3] }
  | _ => none }
def TxnUnionsWrongFalsely : Prop := txnUnionsRow.holds Try.pinned (OpenSpec.ofChange txnUnionsWrong)

/-- 'januspostlaw.WireFrames': WHATEVER THE INPUT: true; the input reads as it did. -/
def wireFramesSpec : ChangeSpec := { name := "wireFrames", fn := fun _ => fun
  | [d] => { results := [.lit (.bool true)], args := [d] }
  | _ => none }
def wireFramesRow : OpenClaim := { program := "ytkoefoccbjhoiaa", sum := "5357873e4c51a4a28bd5549443e83b906be880733451599e7db69a3745863ea2", func := "januspost/januspostlaw.WireFrames", spec := "wireFrames", apart := false }
def WireFramesSaid : Prop := wireFramesRow.holds Try.pinned (OpenSpec.ofChange wireFramesSpec)

/-- ITS FALSE NEIGHBOUR: 'it returns false'. Refute it at one input. -/
def wireFramesWrong : ChangeSpec := { name := "wireFrames", fn := fun _ => fun
  | [d] => { results := [.lit (.bool false)], args := [d] }
  | _ => none }
def WireFramesWrongFalsely : Prop := wireFramesRow.holds Try.pinned (OpenSpec.ofChange wireFramesWrong)

/-- 'januspostlaw.WireReads': WHATEVER THE INPUT: true; the input reads as it did. -/
def wireReadsSpec : ChangeSpec := { name := "wireReads", fn := fun _ => fun
  | [d] => { results := [.lit (.bool true)], args := [d] }
  | _ => none }
def wireReadsRow : OpenClaim := { program := "ytkoefoccbjhoiaa", sum := "5357873e4c51a4a28bd5549443e83b906be880733451599e7db69a3745863ea2", func := "januspost/januspostlaw.WireReads", spec := "wireReads", unfollowed := true, recurses := true, apart := false }
def WireReadsSaid : Prop := wireReadsRow.holds Try.pinned (OpenSpec.ofChange wireReadsSpec)

/-- ITS FALSE NEIGHBOUR: 'it returns false'. Refute it at one input. -/
def wireReadsWrong : ChangeSpec := { name := "wireReads", fn := fun _ => fun
  | [d] => { results := [.lit (.bool false)], args := [d] }
  | _ => none }
def WireReadsWrongFalsely : Prop := wireReadsRow.holds Try.pinned (OpenSpec.ofChange wireReadsWrong)

/-- 'januspostkeep.WireBack': WHATEVER THE INPUT: true; the input reads as it did. -/
def wireBackSpec : ChangeSpec := { name := "wireBack", fn := fun _ => fun
  | [d1, d2] => { results := [.lit (.bool true)], args := [d1, d2] }
  | _ => none }
def wireBackRow : OpenClaim := { program := "ytkoefoccbjhoiaa", sum := "5357873e4c51a4a28bd5549443e83b906be880733451599e7db69a3745863ea2", func := "januspost/januspostkeep.WireBack", spec := "wireBack", apart := false }
def WireBackSaid : Prop := wireBackRow.holds Try.pinned (OpenSpec.ofChange wireBackSpec)

/-- ITS FALSE NEIGHBOUR: 'it returns false'. Refute it at one input. -/
def wireBackWrong : ChangeSpec := { name := "wireBack", fn := fun _ => fun
  | [d1, d2] => { results := [.lit (.bool false)], args := [d1, d2] }
  | _ => none }
def WireBackWrongFalsely : Prop := wireBackRow.holds Try.pinned (OpenSpec.ofChange wireBackWrong)

/-- 'januspostkeep.WireOnly': WHATEVER THE INPUT: true; the input reads as it did. -/
def wireOnlySpec : ChangeSpec := { name := "wireOnly", fn := fun _ => fun
  | [d] => { results := [.lit (.bool true)], args := [d] }
  | _ => none }
def wireOnlyRow : OpenClaim := { program := "ytkoefoccbjhoiaa", sum := "5357873e4c51a4a28bd5549443e83b906be880733451599e7db69a3745863ea2", func := "januspost/januspostkeep.WireOnly", spec := "wireOnly", apart := false }
def WireOnlySaid : Prop := wireOnlyRow.holds Try.pinned (OpenSpec.ofChange wireOnlySpec)

/-- ITS FALSE NEIGHBOUR: 'it returns false'. Refute it at one input. -/
def wireOnlyWrong : ChangeSpec := { name := "wireOnly", fn := fun _ => fun
  | [d] => { results := [.lit (.bool false)], args := [d] }
  | _ => none }
def WireOnlyWrongFalsely : Prop := wireOnlyRow.holds Try.pinned (OpenSpec.ofChange wireOnlyWrong)

/-- 'januspostlaw.BookWrites': WHATEVER THE INPUT: true; the input reads as it did. -/
def bookWritesSpec : ChangeSpec := { name := "bookWrites", fn := fun _ => fun
  | [d1, d2, d3] => { results := [.lit (.bool true)], args := [d1, d2, d3] }
  | _ => none }
def bookWritesRow : OpenClaim := { program := "ytkoefoccbjhoiaa", sum := "5357873e4c51a4a28bd5549443e83b906be880733451599e7db69a3745863ea2", func := "januspost/januspostlaw.BookWrites", spec := "bookWrites", apart := false }
def BookWritesSaid : Prop := bookWritesRow.holds Try.pinned (OpenSpec.ofChange bookWritesSpec)

/-- ITS FALSE NEIGHBOUR: 'it returns false'. Refute it at one input. -/
def bookWritesWrong : ChangeSpec := { name := "bookWrites", fn := fun _ => fun
  | [d1, d2, d3] => { results := [.lit (.bool false)], args := [d1, d2, d3] }
  | _ => none }
def BookWritesWrongFalsely : Prop := bookWritesRow.holds Try.pinned (OpenSpec.ofChange bookWritesWrong)

/-- 'januspostlaw.BookReads': WHATEVER THE INPUT: true; the input reads as it did. -/
def bookReadsSpec : ChangeSpec := { name := "bookReads", fn := fun _ => fun
  | [d] => { results := [.lit (.bool true)], args := [d] }
  | _ => none }
def bookReadsRow : OpenClaim := { program := "ytkoefoccbjhoiaa", sum := "5357873e4c51a4a28bd5549443e83b906be880733451599e7db69a3745863ea2", func := "januspost/januspostlaw.BookReads", spec := "bookReads", apart := false }
def BookReadsSaid : Prop := bookReadsRow.holds Try.pinned (OpenSpec.ofChange bookReadsSpec)

/-- ITS FALSE NEIGHBOUR: 'it returns false'. Refute it at one input. -/
def bookReadsWrong : ChangeSpec := { name := "bookReads", fn := fun _ => fun
  | [d] => { results := [.lit (.bool false)], args := [d] }
  | _ => none }
def BookReadsWrongFalsely : Prop := bookReadsRow.holds Try.pinned (OpenSpec.ofChange bookReadsWrong)

/-- 'januspostkeep.BookTorn': WHATEVER THE INPUT: true; the input reads as it did. -/
def bookTornSpec : ChangeSpec := { name := "bookTorn", fn := fun _ => fun
  | [d1, d2, d3] => { results := [.lit (.bool true)], args := [d1, d2, d3] }
  | _ => none }
def bookTornRow : OpenClaim := { program := "ytkoefoccbjhoiaa", sum := "5357873e4c51a4a28bd5549443e83b906be880733451599e7db69a3745863ea2", func := "januspost/januspostkeep.BookTorn", spec := "bookTorn", apart := false }
def BookTornSaid : Prop := bookTornRow.holds Try.pinned (OpenSpec.ofChange bookTornSpec)

/-- ITS FALSE NEIGHBOUR: 'it returns false'. Refute it at one input. -/
def bookTornWrong : ChangeSpec := { name := "bookTorn", fn := fun _ => fun
  | [d1, d2, d3] => { results := [.lit (.bool false)], args := [d1, d2, d3] }
  | _ => none }
def BookTornWrongFalsely : Prop := bookTornRow.holds Try.pinned (OpenSpec.ofChange bookTornWrong)

/-- 'januspostlaw.GraphOrders': WHATEVER THE INPUT: true; the input reads as it did. -/
def graphOrdersSpec : ChangeSpec := { name := "graphOrders", fn := fun _ => fun
  | [d1, d2] => { results := [.lit (.bool true)], args := [d1, d2] }
  | _ => none }
def graphOrdersRow : OpenClaim := { program := "ytkoefoccbjhoiaa", sum := "5357873e4c51a4a28bd5549443e83b906be880733451599e7db69a3745863ea2", func := "januspost/januspostlaw.GraphOrders", spec := "graphOrders", recurses := true, apart := false }
def GraphOrdersSaid : Prop := graphOrdersRow.holds Try.pinned (OpenSpec.ofChange graphOrdersSpec)

/-- ITS FALSE NEIGHBOUR: 'it returns false'. Refute it at one input. -/
def graphOrdersWrong : ChangeSpec := { name := "graphOrders", fn := fun _ => fun
  | [d1, d2] => { results := [.lit (.bool false)], args := [d1, d2] }
  | _ => none }
def GraphOrdersWrongFalsely : Prop := graphOrdersRow.holds Try.pinned (OpenSpec.ofChange graphOrdersWrong)

/- THE SECOND FORM. 'bulk': how many values and letters a reading holds, each counted each time it is reached (what is shared counts as often as it is met; a slice's spare places count too). A statement '..UptoSaid' is the law's where the arguments, and the package variables that the reading takes, are together of bulk at most 1048576: NARROWER than '..Said'. Prove '..Said' where nothing that the law and all that it calls make is longer than what came in: it says more and counts as full. Else prove '..UptoSaid'. A law counts once. -/
mutual
def uptoBulk {H : Type} : DataW H → Nat
  | .lit (.string bytes) => bytes.length + 1
  | .lit _ => 1
  | .nil => 1
  | .ptr d => uptoBulk d + 1
  | .slice elems spare => uptoBulkAll elems + uptoBulkAll spare + 1
  | .agg parts => uptoBulkAll parts + 1
  | .iface _ d => uptoBulk d + 1
  | .map entries => uptoBulkEntries entries + 1
  | .held _ => 1
def uptoBulkAll {H : Type} : List (DataW H) → Nat
  | [] => 0
  | d :: r => uptoBulk d + uptoBulkAll r
def uptoBulkEntries {H : Type} : List (Lit × DataW H) → Nat
  | [] => 0
  | x :: r => uptoBulkEntry x + uptoBulkEntries r
def uptoBulkEntry {H : Type} : Lit × DataW H → Nat
  | (.string bytes, d) => bytes.length + uptoBulk d + 1
  | (_, d) => uptoBulk d + 1
 end
def uptoSmall : (H : Type) → List (DataW H) → Bool := fun _ ds => decide (uptoBulkAll ds ≤ 1048576)
def OpenSpec.upto (s : _root_.Go.ChangeSpec) : _root_.Go.OpenSpec := { _root_.Go.OpenSpec.ofChange s with cond := some uptoSmall }

/-- 'januspostlaw.TxnTells', WHERE WHAT IT READS IS OF BULK AT MOST 1048576: true; the input reads as it did. -/
def txnTellsUptoRow : OpenClaim := { program := "ytkoefoccbjhoiaa", sum := "5357873e4c51a4a28bd5549443e83b906be880733451599e7db69a3745863ea2", func := "januspost/januspostlaw.TxnTells", spec := "txnTells", apart := false, narrowed := true }
def TxnTellsUptoSaid : Prop := txnTellsUptoRow.holds Try.pinned (OpenSpec.upto txnTellsSpec)

/-- 'januspostlaw.TxnLists', WHERE WHAT IT READS IS OF BULK AT MOST 1048576: true; the input reads as it did. -/
def txnListsUptoRow : OpenClaim := { program := "ytkoefoccbjhoiaa", sum := "5357873e4c51a4a28bd5549443e83b906be880733451599e7db69a3745863ea2", func := "januspost/januspostlaw.TxnLists", spec := "txnLists", apart := false, narrowed := true }
def TxnListsUptoSaid : Prop := txnListsUptoRow.holds Try.pinned (OpenSpec.upto txnListsSpec)

/-- 'januspostkeep.TxnBoth', WHERE WHAT IT READS IS OF BULK AT MOST 1048576: true; the input reads as it did. -/
def txnBothUptoRow : OpenClaim := { program := "ytkoefoccbjhoiaa", sum := "5357873e4c51a4a28bd5549443e83b906be880733451599e7db69a3745863ea2", func := "januspost/januspostkeep.TxnBoth", spec := "txnBoth", apart := false, narrowed := true }
def TxnBothUptoSaid : Prop := txnBothUptoRow.holds Try.pinned (OpenSpec.upto txnBothSpec)

/-- 'januspostkeep.TxnUnions', WHERE WHAT IT READS IS OF BULK AT MOST 1048576: true; the input reads as it did. -/
def txnUnionsUptoRow : OpenClaim := { program := "ytkoefoccbjhoiaa", sum := "5357873e4c51a4a28bd5549443e83b906be880733451599e7db69a3745863ea2", func := "januspost/januspostkeep.TxnUnions", spec := "txnUnions", apart := false, narrowed := true }
def TxnUnionsUptoSaid : Prop := txnUnionsUptoRow.holds Try.pinned (OpenSpec.upto txnUnionsSpec)

/-- 'januspostlaw.WireFrames', WHERE WHAT IT READS IS OF BULK AT MOST 1048576: true; the input reads as it did. -/
def wireFramesUptoRow : OpenClaim := { program := "ytkoefoccbjhoiaa", sum := "5357873e4c51a4a28bd5549443e83b906be880733451599e7db69a3745863ea2", func := "januspost/januspostlaw.WireFrames", spec := "wireFrames", apart := false, narrowed := true }
def WireFramesUptoSaid : Prop := wireFramesUptoRow.holds Try.pinned (OpenSpec.upto wireFramesSpec)

/-- 'januspostlaw.WireReads', WHERE WHAT IT READS IS OF BULK AT MOST 1048576: true; the input reads as it did. -/
def wireReadsUptoRow : OpenClaim := { program := "ytkoefoccbjhoiaa", sum := "5357873e4c51a4a28bd5549443e83b906be880733451599e7db69a3745863ea2", func := "januspost/januspostlaw.WireReads", spec := "wireReads", unfollowed := true, recurses := true, apart := false, narrowed := true }
def WireReadsUptoSaid : Prop := wireReadsUptoRow.holds Try.pinned (OpenSpec.upto wireReadsSpec)

/-- 'januspostkeep.WireBack', WHERE WHAT IT READS IS OF BULK AT MOST 1048576: true; the input reads as it did. -/
def wireBackUptoRow : OpenClaim := { program := "ytkoefoccbjhoiaa", sum := "5357873e4c51a4a28bd5549443e83b906be880733451599e7db69a3745863ea2", func := "januspost/januspostkeep.WireBack", spec := "wireBack", apart := false, narrowed := true }
def WireBackUptoSaid : Prop := wireBackUptoRow.holds Try.pinned (OpenSpec.upto wireBackSpec)

/-- 'januspostkeep.WireOnly', WHERE WHAT IT READS IS OF BULK AT MOST 1048576: true; the input reads as it did. -/
def wireOnlyUptoRow : OpenClaim := { program := "ytkoefoccbjhoiaa", sum := "5357873e4c51a4a28bd5549443e83b906be880733451599e7db69a3745863ea2", func := "januspost/januspostkeep.WireOnly", spec := "wireOnly", apart := false, narrowed := true }
def WireOnlyUptoSaid : Prop := wireOnlyUptoRow.holds Try.pinned (OpenSpec.upto wireOnlySpec)

/-- 'januspostlaw.BookWrites', WHERE WHAT IT READS IS OF BULK AT MOST 1048576: true; the input reads as it did. -/
def bookWritesUptoRow : OpenClaim := { program := "ytkoefoccbjhoiaa", sum := "5357873e4c51a4a28bd5549443e83b906be880733451599e7db69a3745863ea2", func := "januspost/januspostlaw.BookWrites", spec := "bookWrites", apart := false, narrowed := true }
def BookWritesUptoSaid : Prop := bookWritesUptoRow.holds Try.pinned (OpenSpec.upto bookWritesSpec)

/-- 'januspostlaw.BookReads', WHERE WHAT IT READS IS OF BULK AT MOST 1048576: true; the input reads as it did. -/
def bookReadsUptoRow : OpenClaim := { program := "ytkoefoccbjhoiaa", sum := "5357873e4c51a4a28bd5549443e83b906be880733451599e7db69a3745863ea2", func := "januspost/januspostlaw.BookReads", spec := "bookReads", apart := false, narrowed := true }
def BookReadsUptoSaid : Prop := bookReadsUptoRow.holds Try.pinned (OpenSpec.upto bookReadsSpec)

/-- 'januspostkeep.BookTorn', WHERE WHAT IT READS IS OF BULK AT MOST 1048576: true; the input reads as it did. -/
def bookTornUptoRow : OpenClaim := { program := "ytkoefoccbjhoiaa", sum := "5357873e4c51a4a28bd5549443e83b906be880733451599e7db69a3745863ea2", func := "januspost/januspostkeep.BookTorn", spec := "bookTorn", apart := false, narrowed := true }
def BookTornUptoSaid : Prop := bookTornUptoRow.holds Try.pinned (OpenSpec.upto bookTornSpec)

/-- 'januspostlaw.GraphOrders', WHERE WHAT IT READS IS OF BULK AT MOST 1048576: true; the input reads as it did. -/
def graphOrdersUptoRow : OpenClaim := { program := "ytkoefoccbjhoiaa", sum := "5357873e4c51a4a28bd5549443e83b906be880733451599e7db69a3745863ea2", func := "januspost/januspostlaw.GraphOrders", spec := "graphOrders", recurses := true, apart := false, narrowed := true }
def GraphOrdersUptoSaid : Prop := graphOrdersUptoRow.holds Try.pinned (OpenSpec.upto graphOrdersSpec)

end Rows
end Go.Proofs.Ytkoefoccbjhoiaa
