/-
squeezed by tools/squeeze.py from: TWakesM
-/
import Derived.Test.YtkoefoccbjhoiacGreatTopwCluC
set_option linter.unusedVariables false
set_option linter.unusedSimpArgs false
set_option maxRecDepth 100000
set_option maxHeartbeats 4000000
namespace Go.Proofs.YtkoefoccbjhoiacGreat
open Go.RowKit
theorem IH {c:aM} {S:Sys} (h:c9 c S) {n:Nat} (hn:n<6) (hu:c.up n=true):
  (doA c ⟨6,(n:Int),0,[]⟩).2.code=0∧(doA (doA c ⟨6,(n:Int),0,[]⟩).1 ⟨8,(n:Int),0,[]⟩).2.code=0∧(doA (doA c ⟨6,(n:Int),0,[]⟩).1 ⟨8,(n:Int),0,[]⟩).1.up n=true∧(doA (doA c ⟨6,(n:Int),0,[]⟩).1 ⟨8,(n:Int),0,[]⟩).1.st n=c.st n:=by
 have hd:(c.crash n).up n=false:=aU _ _ _
 rw[yZ hn hu]
 refine⟨rfl,?_⟩
 simp only
 rw[xT hn hd]
 obtain⟨t,r1,r2,r3⟩:=mZ (c.log n)
 obtain⟨e1,e2⟩:=h.wakes hn r1 r2 r3
 refine⟨rfl,aU _ _ _,?_⟩
 show upd _ n (iZ (n:Int) (nY (c.log n))).1 n=c.st n
 rw[aU,e1,(e2 hu).2]
end Go.Proofs.YtkoefoccbjhoiacGreat
