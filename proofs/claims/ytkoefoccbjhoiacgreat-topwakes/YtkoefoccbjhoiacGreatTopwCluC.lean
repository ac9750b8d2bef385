/-
squeezed by tools/squeeze.py from: CluC
-/
import Derived.Test.YtkoefoccbjhoiacGreatTopw18
set_option linter.unusedVariables false
set_option linter.unusedSimpArgs false
set_option maxRecDepth 100000
set_option maxHeartbeats 4000000
namespace Go.Proofs.YtkoefoccbjhoiacGreat
open Go.RowKit
theorem yZ {c:aM} {n:Nat} (hn:n<6) (hu:c.up n=true):doA c ⟨6,(n:Int),0,[]⟩=(c.crash n,⟨0,0,[]⟩):=by
 unfold doA
 simp only
 rw[if_neg (by decide),if_neg (by decide),if_neg (by decide),if_pos (by decide),if_neg (by omega),if_neg (by decide),Int.toNat_natCast,if_neg (by rw[hu];decide),if_pos (by decide)]
theorem xT {c:aM} {n:Nat} (hn:n<6) (hu:c.up n=false):doA c ⟨8,(n:Int),0,[]⟩=(c.rise n (nY (c.log n)),⟨0,0,[]⟩):=by
 unfold doA
 simp only
 rw[if_neg (by decide),if_neg (by decide),if_neg (by decide),if_pos (by decide),if_neg (by omega),if_pos (by decide),Int.toNat_natCast,if_neg (by rw[hu];decide)]
end Go.Proofs.YtkoefoccbjhoiacGreat
