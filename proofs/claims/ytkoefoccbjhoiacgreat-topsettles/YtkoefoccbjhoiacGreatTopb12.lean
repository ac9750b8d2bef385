/-
squeezed by tools/squeeze.py from: CBox QBase QClone CZero CGood CLack NFrs CFrs CMsg CAgain
-/
import Derived.Test.YtkoefoccbjhoiacGreatTopb11
import Derived.Test.YtkoefoccbjhoiacGreatTopb5
import Derived.Test.YtkoefoccbjhoiacGreatTopb2
import Derived.Test.YtkoefoccbjhoiacGreatTopb6
import Derived.Maps.AppendAt
set_option linter.unusedVariables false
set_option linter.unusedSimpArgs false
set_option maxRecDepth 100000
set_option maxHeartbeats 16000000
namespace Go.Proofs.YtkoefoccbjhoiacGreat
open Go.RowKit
def kM (n:Int):Bool:=decide (0≤n∧n<32)
theorem tQ (n:Int) (w:World):
  Calls Tryz.prog 89 #[.int .i64 n] w fun e w'=>e= .returned (.bool (kM n))∧w'=w:=by
 by_cases h1:0≤n
 ·by_cases h2:n<32
  ·have E:Hid (kM n=true):=by unfold kM Hid;simp;omega
   have d1:decide (0≤n)=true:=by simpa using h1
   have d2:decide (n<32)=true:=by simpa using h2
   go_enter Tryz.func89,Tryz.ntmps89
   go_wp2
   go_ret
   exact⟨aI E.out.symm,rfl⟩
  ·have E:Hid (kM n=false):=by unfold kM Hid;simp;omega
   have d1:decide (0≤n)=true:=by simpa using h1
   have d2:decide (n<32)=false:=by simpa using h2
   go_enter Tryz.func89,Tryz.ntmps89
   go_wp2
   go_ret
   exact⟨aI E.out.symm,rfl⟩
 ·have E:Hid (kM n=false):=by unfold kM Hid;simp;omega
  have d1:decide (0≤n)=false:=by simpa using h1
  go_enter Tryz.func89,Tryz.ntmps89
  go_wp2
  go_ret
  exact⟨aI E.out.symm,rfl⟩
def cU (w:World) (gr:Array Value) (c:aF):Prop:=∃nv,gr=aD 24 nv∧cA (· <w.heap.size) w nv c
theorem cU.later {w w':World} {gr:Array Value} {c:aF} (h:cU w gr c) (hb:Below w.heap.size w w'):cU w' gr c:=by
 obtain⟨nv,e,h⟩:=h
 exact⟨nv,e,h.below hb⟩
theorem cU.size {w:World} {gr:Array Value} {c:aF} (h:cU w gr c):gr.size=24:=by
 obtain⟨nv,e,_⟩:=h
 rw[e,aG]
theorem cU.info {w:World} {gr:Array Value} {c:aF} (h:cU w gr c):(Tryz.prog.info? 47).map (·.size)=some gr.size:=by rw[h.size];exact Tryz.infoCase
theorem cU.one {w:World} {gr:Array Value} {c:aF} (h:cU w gr c):gr.all (·.oneCell')=true:=by
 obtain⟨nv,e,h⟩:=h
 rw[e]
 exact cK h.one
structure bE (b:Nat) (w:World) (gr:Array Value) (c:aF):Prop where
 row:w.heap[b]? =some (.cells gr 47 (0,0))
 case:cU w gr c
theorem bE.later {b:Nat} {w w':World} {gr:Array Value} {c:aF} (h:bE b w gr c) (hb:Below w.heap.size w w'):bE b w' gr c:=
 ⟨by rw[hb.block b (Array.getElem?_eq_some_iff.1 h.row).1];exact h.row,h.case.later hb⟩
theorem bE.lt {b:Nat} {w:World} {gr:Array Value} {c:aF} (h:bE b w gr c):b<w.heap.size:=(Array.getElem?_eq_some_iff.1 h.row).1
theorem bE.new {w:World} {gr:Array Value} {c:aF} (h:cU w gr c):bE w.heap.size (w.alloc (.cells gr 47)) gr c:=
 ⟨aJ _ _,h.later ((Below.refl _ _).alloc (Nat.le_refl _) _)⟩
theorem bE.blk {b:Nat} {w:World} {gr:Array Value} {c:aF} (h:bE b w gr c):∃nv,gr=aD 24 nv∧bI 24 w b nv∧cA (· <w.heap.size) w nv c:=by
 obtain⟨nv,e,hc⟩:=h.case
 exact⟨nv,e,⟨_,by rw[←e];exact h.row⟩,hc⟩
theorem bE.begun {b:Nat} {w:World} {gr:Array Value} {c:aF} (h:bE b w gr c):w.cell? ⟨b,0,none⟩=some (.bool c.begun):=by
 obtain⟨nv,_,hb,hc⟩:=h.blk
 rw[hb.cell (by omega),hc.begun]
theorem bE.fixed {b:Nat} {w:World} {gr:Array Value} {c:aF} (h:bE b w gr c):w.cell? ⟨b,1,none⟩=some (.bool c.fixed):=by
 obtain⟨nv,_,hb,hc⟩:=h.blk
 rw[hb.cell (by omega),hc.fixed]
theorem bE.ops {b:Nat} {w:World} {gr:Array Value} {c:aF} (h:bE b w gr c):∃a cap,w.cell? ⟨b,2,none⟩=some (.slice a c.ops.length cap)∧bZ w a cap c.ops∧c.ops.length*24≤140737488355328:=by
 obtain⟨nv,_,hb,hc⟩:=h.blk
 obtain⟨a,cap,e,hs⟩:=hc.ops.sl
 obtain⟨_,_,_,_,hl,_⟩:=hc.ops
 exact⟨a,cap,by rw[hb.cell (by omega),e],hs,hl⟩
theorem bE.deps {b:Nat} {w:World} {gr:Array Value} {c:aF} (h:bE b w gr c):∃a cap,w.cell? ⟨b,15,none⟩=some (.slice a c.deps.length cap)∧bP w a cap c.deps∧c.deps.length*8≤140737488355328:=by
 obtain⟨nv,_,hb,hc⟩:=h.blk
 obtain⟨a,cap,e,hs⟩:=hc.deps.sl
 obtain⟨_,_,_,_,hl,_⟩:=hc.deps
 exact⟨a,cap,by rw[hb.cell (by omega),e],hs,hl⟩
theorem bE.told {b:Nat} {w:World} {gr:Array Value} {c:aF} (h:bE b w gr c) {i:Nat} (hi:i<6):w.cell? ⟨b,3+i,none⟩=some (.bool (c.told i)):=by
 obtain⟨nv,_,hb,hc⟩:=h.blk
 rw[hb.cell (by omega),hc.told i hi]
theorem bE.known {b:Nat} {w:World} {gr:Array Value} {c:aF} (h:bE b w gr c) {i:Nat} (hi:i<6):w.cell? ⟨b,9+i,none⟩=some (.bool (c.known i)):=by
 obtain⟨nv,_,hb,hc⟩:=h.blk
 rw[hb.cell (by omega),hc.known i hi]
theorem bE.has {b:Nat} {w:World} {gr:Array Value} {c:aF} (h:bE b w gr c) {i:Nat} (hi:i<4):w.cell? ⟨b,16+i,none⟩=some (.bool (c.has i)):=by
 obtain⟨nv,_,hb,hc⟩:=h.blk
 rw[hb.cell (by omega),hc.has i hi]
theorem bE.vals {b:Nat} {w:World} {gr:Array Value} {c:aF} (h:bE b w gr c) {i:Nat} (hi:i<4):w.cell? ⟨b,20+i,none⟩=some (.int .i64 (c.vals i)):=by
 obtain⟨nv,_,hb,hc⟩:=h.blk
 rw[hb.cell (by omega),hc.vals i hi]
theorem bE.rTold {b:Nat} {w:World} {gr:Array Value} {c:aF} (h:bE b w gr c):w.rangeAt b 3 (aL 6 c.told).toList:=by
 obtain⟨nv,_,hb,hc⟩:=h.blk
 exact hb.truths (by omega) hc.told
theorem bE.rKnown {b:Nat} {w:World} {gr:Array Value} {c:aF} (h:bE b w gr c):w.rangeAt b 9 (aL 6 c.known).toList:=by
 obtain⟨nv,_,hb,hc⟩:=h.blk
 exact hb.truths (by omega) hc.known
theorem bE.rHas {b:Nat} {w:World} {gr:Array Value} {c:aF} (h:bE b w gr c):w.rangeAt b 16 (aL 4 c.has).toList:=by
 obtain⟨nv,_,hb,hc⟩:=h.blk
 exact hb.truths (by omega) hc.has
theorem bE.rVals {b:Nat} {w:World} {gr:Array Value} {c:aF} (h:bE b w gr c):w.rangeAt b 20 (aD 4 fun i=> .int .i64 (c.vals i)).toList:=by
 obtain⟨nv,_,hb,hc⟩:=h.blk
 exact hb.numbers (by omega) hc.vals
theorem bE.range {b:Nat} {w:World} {gr:Array Value} {c:aF} (h:bE b w gr c):w.rangeAt b 0 gr.toList:=by
 intro j v hv
 rw[cell_of_row w b (0+j) _ _ _ h.row,Nat.zero_add]
 simpa using hv
theorem cU.len {w:World} {gr:Array Value} {c:aF} (h:cU w gr c):(Tryz.prog.info? 47).map (·.size)=some gr.toList.length:=by rw[Array.length_toList];exact h.info
theorem jU (w:World):cU w (aD 24 zcv) cF:=⟨zcv,rfl,oV _ w⟩
theorem nO:aD 24 zcv=#[.bool false,.bool false,.slice none 0 0,.bool false,.bool false,.bool false,.bool false,.bool false,.bool false,.bool false,.bool false,.bool false,.bool false,.bool false,.bool false,.slice none 0 0,.bool false,.bool false,.bool false,.bool false,.int .i64 0,.int .i64 0,.int .i64 0,.int .i64 0]:=rfl
theorem Tryz.sizeSix (S:Nat→Bool):(Tryz.prog.info? 43).map (·.size)=some (aL 6 S).toList.length:=by rw[iZ];exact Tryz.infoSix
theorem Tryz.sizeFour (S:Nat→Bool):(Tryz.prog.info? 44).map (·.size)=some (aL 4 S).toList.length:=by rw[iZ];exact Tryz.infoFour
theorem Tryz.sizeFourI (S:Nat→Int):(Tryz.prog.info? 45).map (·.size)=some (aD 4 fun i=>Value.int .i64 (S i)).toList.length:=by rw[s5,List.length_map,List.length_range];exact Tryz.infoFourI
theorem fJ (S:Nat→Bool):iV Tryz.prog 43 (aL 6 S).toList.length:=⟨_,Tryz.underlying43,rfl,Tryz.sizeSix S⟩
theorem iQ (S:Nat→Bool):iV Tryz.prog 44 (aL 4 S).toList.length:=⟨_,Tryz.underlying44,rfl,Tryz.sizeFour S⟩
theorem gS (S:Nat→Int):iV Tryz.prog 45 (aD 4 fun i=>Value.int .i64 (S i)).toList.length:=⟨_,Tryz.underlying45,rfl,Tryz.sizeFourI S⟩
theorem cU.row {w:World} {gr:Array Value} {c:aF} (h:cU w gr c):iV Tryz.prog 47 gr.size:=⟨_,Tryz.underlying47,rfl,h.info⟩
theorem eI:iV Tryz.prog 123 7:=⟨_,Tryz.underlying123,rfl,Tryz.infoFrame7⟩
def zmv (i:Nat):Value:=if i<201 then zv i else if i=201 then .string ⟨#[]⟩ else if i=204 then .int .i64 0 else .bool false
def m9 (i:Nat):Value:=if i<2 then .int .i64 0 else if i<1232 then zmv ((i-2) % 205) else if i<2000 then zcv ((i-1232) % 24) else .slice none 0 0
theorem Tryz.zeroMem:(Tryz.prog.info? 88).map (·.zero)=some (some (.agg (aD 205 zmv))):=by kernel_rfl
theorem Tryz.placesClu:(match Tryz.prog.underlying 92 with | some (.struct fields)=>fields.toList.mapM (fun f=>(Tryz.prog.info? f.type).map fun i=>(f.offset,i.size)) | _=>none)=some [(0,1),(1,1),(2,1230),(1232,768),(2000,1)]:=by kernel_rfl
theorem Tryz.placesMem:(match Tryz.prog.underlying 88 with | some (.struct fields)=>fields.toList.mapM (fun f=>(Tryz.prog.info? f.type).map fun i=>(f.offset,i.size)) | _=>none)=some [(0,201),(201,1),(202,1),(203,1),(204,1)]:=by kernel_rfl
theorem MD (ok:Nat→Prop) (w:World):k7 ok w zmv true dU [] none:=
 ⟨(lM ok w).same fun j hj=>if_pos hj,rfl,rfl,rfl,rfl⟩
theorem MC (ok:Nat→Prop) (w:World):fS ok w m9 0 kO:=by
 refine⟨rfl,rfl,fun n hn=>?_,fun n hn=>?_,IsT.nil ok w⟩
 ·refine (MD ok w).same fun j hj=>?_
  show m9 (2+n*205+j)=zmv j
  unfold m9
  rw[if_neg (by omega),if_pos (by omega),show (2+n*205+j-2) % 205=j by omega]
 ·refine (oV ok w).same fun j hj=>?_
  show m9 (1232+n*24+j)=zcv j
  unfold m9
  rw[if_neg (by omega),if_neg (by omega),if_pos (by omega),show (1232+n*24+j-1232) % 24=j by omega]
theorem xB {P:Program} {t:TypeId} {z:Value} (h:(P.info? t).map (·.zero)=some (some z)):∃it,P.info? t=some it∧it.zero=some z:=by
 cases hq:P.info? t with
 | none=>rw[hq] at h;cases h
 | some it=>
  rw[hq] at h
  simp only[Option.map_some,Option.some.injEq] at h
  exact⟨it,rfl,h⟩
theorem Tryz.zcClu:Tryz.zeroCells92=aD 2001 m9:=by kernel_rfl
theorem sK {place:Nat→Option (Nat × Nat)} {N:Nat} {f:Nat→Value} {k off:Nat} {v:Value} {rest:List (Nat × Value)} (h:place k=some (off,1)) (hv:v.cells=#[v]) (hl:off+1≤N):
  Instr.fill place (aD N f) ((k,v)::rest)=Instr.fill place (aD N (eQ f off v)) rest:=by
 rw[Instr.fill,h]
 simp only[hv]
 rw[if_neg (by simp[aG];omega)]
 congr 1
 simp
 rw[eU]
 rfl
theorem vV {N:Nat} (off:Nat):∀(vs:List Value) (k:Nat) (f:Nat→Value),(vs.zipIdx k).foldl (fun cs (x:Value × Nat)=>cs.setIfInBounds (off+x.2) x.1) (aD N f)=aD N (fun i=>if off+k≤i∧i<off+k+vs.length then vs.getD (i-(off+k)) (.bool false) else f i)
 | [],k,f=>by
  simp only[List.zipIdx_nil,List.foldl_nil]
  refine jS fun i _=>?_
  rw[if_neg (by simp)]
 | v::vs,k,f=>by
  rw[List.zipIdx_cons,List.foldl_cons,eU,vV off vs (k+1)]
  refine jS fun i _=>?_
  simp only[List.length_cons]
  by_cases e:i=off+k
  ·subst e
   rw[if_neg (by omega),if_pos rfl,if_pos (by omega)]
   simp
  ·by_cases e2:off+(k+1)≤i∧i<off+(k+1)+vs.length
   ·rw[if_pos e2,if_pos (by omega)]
    obtain⟨j,hj⟩:∃j,i-(off+k)=j+1:=⟨i-(off+k)-1,by omega⟩
    rw[hj,show i-(off+(k+1))=j by omega]
    simp
   ·rw[if_neg e2,if_neg e,if_neg (by omega)]
theorem KM {place:Nat→Option (Nat × Nat)} {N M:Nat} {f g:Nat→Value} {k off:Nat} {rest:List (Nat × Value)} (h:place k=some (off,M)) (hl:off+M≤N):
  Instr.fill place (aD N f) ((k,.agg (aD M g))::rest)=Instr.fill place (aD N (iY f off (aD M g).toList)) rest:=by
 have e1:(Value.agg (aD M g)).cells=aD M g:=rfl
 rw[Instr.fill,h]
 simp only[e1]
 rw[if_neg (by simp[aG];omega)]
 congr 1
 rw[←Array.foldl_toList]
 have:=vV (N:=N) off (aD M g).toList 0 f
 simp only[Nat.add_zero] at this
 unfold iY
 simpa using this
def dmv (s:Value):Nat→Value:=eQ (eQ zmv 201 s) 202 (.bool true)
def rmv (s:Value) (nv:Nat→Value):Nat→Value:=iY (eQ zmv 201 s) 0 (aD 201 nv).toList
theorem Tryz.builtDown (s:ByteArray):Tryz.prog.built 88 [(1,.string s),(2,.bool true)]=some (aD 205 (dmv (.string s))):=by
 obtain⟨it,hi,hz⟩:=xB Tryz.zeroMem
 have hp:=Tryz.placesMem
 rw[Tryz.underlying88] at hp
 rw[oM _ hi Tryz.underlying88 hz hp]
 have e2:∀r:Array Value,(Value.agg r).cells=r:=fun _=>rfl
 rw[e2,sK (off:=201) rfl rfl (by decide),sK (off:=202) rfl rfl (by decide)]
 rfl
theorem Tryz.builtRise (s:ByteArray) (nv:Nat→Value):Tryz.prog.built 88 [(1,.string s),(0,.agg (aD 201 nv))]=some (aD 205 (rmv (.string s) nv)):=by
 obtain⟨it,hi,hz⟩:=xB Tryz.zeroMem
 have hp:=Tryz.placesMem
 rw[Tryz.underlying88] at hp
 rw[oM _ hi Tryz.underlying88 hz hp]
 have e2:∀r:Array Value,(Value.agg r).cells=r:=fun _=>rfl
 rw[e2,sK (off:=201) rfl rfl (by decide),KM (off:=0) rfl (by decide)]
 rfl
theorem AU (ok:Nat→Prop) (w:World) (log:List UInt8):k7 ok w (dmv (.string (str log))) false dU log none:=
  ⟨(lM ok w).same fun j hj=>by
    show dmv _ j=zv j
    unfold dmv eQ zmv
    rw[if_neg (by omega),if_neg (by omega),if_pos hj],rfl,rfl,rfl,rfl⟩
theorem LQ {ok:Nat→Prop} {w:World} {nv:Nat→Value} {s:aA} (h:bM ok w nv s) (log:List UInt8):k7 ok w (rmv (.string (str log)) nv) true s log none:=by
 have hi:∀j,j<201→rmv (.string (str log)) nv j=nv j:=fun j hj=>by
  have:=qZ (cv:=eQ zmv 201 (.string (str log))) (o:=0) (N:=201) (f:=nv) hj
  rw[Nat.zero_add] at this
  exact this
 have ho:∀j,201≤j→rmv (.string (str log)) nv j=eQ zmv 201 (.string (str log)) j:=fun j hj=>pE (Or.inr (by omega))
 exact⟨h.same hi,by rw[ho 201 (by omega)];rfl,by rw[ho 202 (by omega)];rfl,by rw[ho 203 (by omega)];rfl,by rw[ho 204 (by omega)];rfl⟩
def NJ (B:Nat) (w:World) (v:Value) (r:lC):Prop:=∃x,v= .agg #[.int .i64 r.code,.int .i64 r.n,x]∧IsI (B≤·) w x r.vals
def D5 (w:World) (v:Value) (a:fZ):Prop:=∃ad cap,v= .agg #[.int .i64 a.kind,.int .i64 a.n,.int .i64 a.m,.slice ad a.ops.length cap]∧bZ w ad cap a.ops
theorem Tryz.infoReply3:(Tryz.prog.info? 38).map (·.size)=some 3:=by kernel_rfl
theorem fN (e:Int) (w:World):
  Calls Tryz.prog 46 #[.int .i64 e] w fun r w'=>r= .returned (.agg #[.int .i64 e,.int .i64 0,.slice none 0 0])∧Below w.heap.size w w':=by
 go_enter Tryz.func46,Tryz.ntmps46
 go_wp2
 exact bodyPost_ret (v:= .agg #[.int .i64 e,.int .i64 0,.slice none 0 0]) (results_cell_row Tryz.results46 _ _ w.heap.size 38 _ (0,0) _ rfl (aJ _ _) Tryz.underlying38 rfl Tryz.infoReply3) rfl ⟨rfl,(Below.refl _ _).alloc (Nat.le_refl _) _⟩
def dY (n:Int):Bool:=decide (0≤n∧n<6)
theorem jA (n:Int) (w:World):
  Calls Tryz.prog 43 #[.int .i64 n] w fun e w'=>e= .returned (.bool (dY n))∧w'=w:=by
 by_cases h1:0≤n
 ·by_cases h2:n<6
  ·have E:Hid (dY n=true):=by unfold dY Hid;simp;omega
   have d1:decide (0≤n)=true:=by simpa using h1
   have d2:decide (n<6)=true:=by simpa using h2
   go_enter Tryz.func43,Tryz.ntmps43
   go_wp2
   go_ret
   exact⟨aI E.out.symm,rfl⟩
  ·have E:Hid (dY n=false):=by unfold dY Hid;simp;omega
   have d1:decide (0≤n)=true:=by simpa using h1
   have d2:decide (n<6)=false:=by simpa using h2
   go_enter Tryz.func43,Tryz.ntmps43
   go_wp2
   go_ret
   exact⟨aI E.out.symm,rfl⟩
 ·have E:Hid (dY n=false):=by unfold dY Hid;simp;omega
  have d1:decide (0≤n)=false:=by simpa using h1
  go_enter Tryz.func43,Tryz.ntmps43
  go_wp2
  go_ret
  exact⟨aI E.out.symm,rfl⟩
def j9 (n:Int):Bool:=decide (0≤n∧n≤400)
theorem lH (n:Int) (w:World):
  Calls Tryz.prog 79 #[.int .i64 n] w fun e w'=>e= .returned (.bool (j9 n))∧w'=w:=by
 by_cases h1:0≤n
 ·by_cases h2:n≤400
  ·have E:Hid (j9 n=true):=by unfold j9 Hid;simp;omega
   have d1:decide (0≤n)=true:=by simpa using h1
   have d2:decide (n≤400)=true:=by simpa using h2
   go_enter Tryz.func79,Tryz.ntmps79
   go_wp2
   go_ret
   exact⟨aI E.out.symm,rfl⟩
  ·have E:Hid (j9 n=false):=by unfold j9 Hid;simp;omega
   have d1:decide (0≤n)=true:=by simpa using h1
   have d2:decide (n≤400)=false:=by simpa using h2
   go_enter Tryz.func79,Tryz.ntmps79
   go_wp2
   go_ret
   exact⟨aI E.out.symm,rfl⟩
 ·have E:Hid (j9 n=false):=by unfold j9 Hid;simp;omega
  have d1:decide (0≤n)=false:=by simpa using h1
  go_enter Tryz.func79,Tryz.ntmps79
  go_wp2
  go_ret
  exact⟨aI E.out.symm,rfl⟩
def eX (c:aK) (n:Int):Bool:=decide (0≤n∧n<c.cnt)
theorem oG {ok:Nat→Prop} {p:Nat} {cv:Nat→Value} {acts:Nat} {c:aK} (n:Int) (w:World) (h:aE ok w p cv acts c):
  Calls Tryz.prog 53 #[.pointer (some ⟨p,0,none⟩),.int .i64 n] w fun e w'=>e= .returned (.bool (eX c n))∧w'=w:=by
 have e1:w.cell? ⟨p,1,none⟩=some (.int .i64 c.cnt):=by rw[h.cell (by omega),h.clu.cnt]
 clear h
 by_cases h1:0≤n
 ·by_cases h2:n<c.cnt
  ·have E:Hid (eX c n=true):=by unfold eX Hid;simp;omega
   have d1:decide (0≤n)=true:=by simpa using h1
   have d2:decide (n<c.cnt)=true:=by simpa using h2
   go_enter Tryz.func53,Tryz.ntmps53
   go_wp2
   go_ret
   exact⟨aI E.out.symm,rfl⟩
  ·have E:Hid (eX c n=false):=by unfold eX Hid;simp;omega
   have d1:decide (0≤n)=true:=by simpa using h1
   have d2:decide (n<c.cnt)=false:=by simpa using h2
   go_enter Tryz.func53,Tryz.ntmps53
   go_wp2
   go_ret
   exact⟨aI E.out.symm,rfl⟩
 ·have E:Hid (eX c n=false):=by unfold eX Hid;simp;omega
  have d1:decide (0≤n)=false:=by simpa using h1
  go_enter Tryz.func53,Tryz.ntmps53
  go_wp2
  go_ret
  exact⟨aI E.out.symm,rfl⟩
theorem MI (w:World):
  Calls Tryz.prog 57 #[] w fun e w'=>e= .returned (.pointer (some ⟨w.heap.size,0,none⟩))∧w'.heap[w.heap.size]? =some (.cells (aD 2001 m9) 92 (0,0))∧Below w.heap.size w w':=by
 obtain⟨zr,hzr⟩:∃zr,zr=aD 2001 m9:=⟨_,rfl⟩
 have HZ:Hid (Tryz.zeroCells92=zr):=by unfold Hid;rw[hzr];exact Tryz.zcClu
 rw[←hzr]
 have hx:Below w.heap.size w (w.alloc (.cells zr 92)):=(Below.refl _ _).alloc (Nat.le_refl _) _
 clear hzr
 go_enter Tryz.func57,Tryz.ntmps57
 go_wp2_with fail
 rw[HZ.out]
 go_ret
 exact⟨rfl,aJ _ _,hx⟩
def bH (zs:List (List UInt8)):List Value:=zs.map fun z=>Value.string (str z)
theorem yB (zs:List (List UInt8)) (z:List UInt8):bH (zs++[z])=bH zs++[.string (str z)]:=by simp[bH]
theorem oA (zs:List (List UInt8)):∀u∈bH zs,u.oneCell'=true:=by
 intro u hu
 obtain⟨n,_,rfl⟩:=List.mem_map.1 hu
 rfl
def D9 (w:World) (a:Option Addr) (cap:Nat) (zs:List (List UInt8)):Prop:=j3 (· <w.heap.size) w a zs∧zs.length≤maxLen∧zs.length≤cap∧(a=none→zs.length=0∧cap=0)
theorem IsT.sl {ok:Nat→Prop} {w:World} {v:Value} {zs:List (List UInt8)} (h:IsT ok w v zs):∃a cap,v= .slice a zs.length cap∧D9 w a cap zs:=by
 obtain⟨a,cap,h1,h2,h3,h4,h5⟩:=h
 exact⟨a,cap,h1,h2.mono fun _ h _=>h,by unfold maxLen;omega,h4,h5⟩
def NH (w w':World) (v:Value) (zs:List (List UInt8)):Prop:=w'.ownsRow w.heap.size 9 1 v zs.length (bH zs)∧(zs.length=0→∃a,v= .slice a 0 0)∧Below w.heap.size w w'
theorem j3.news {w w1:World} {ad:Addr} {zs:List (List UInt8)} (h:j3 (· <w.heap.size) w (some ad) zs) (hb:Below w.heap.size w w1):∀j u,(bH zs)[j]? =some u→w1.cell? (ad.add j)=some u:=by
 intro j u hu
 rcases h with rfl | ⟨b,off,hb',hlt,hc⟩
 ·simp[bH] at hu
 ·obtain rfl:ad=⟨b,off,none⟩:=by simpa using hb'
  have hj:j<zs.length:=by
   obtain⟨hj,_⟩:=List.getElem?_eq_some_iff.1 hu
   simpa [bH] using hj
  rw[i6,hb.cell (p:=⟨b,off+j,none⟩) hlt,hc j hj]
  simp[bH,hj] at hu
  simp[List.getD,hj,hu]
theorem IsT.of_owns {w:World} {base:Nat} {e:TypeId} {v:Value} {zs:List (List UInt8)} (h:w.ownsRow base e 1 v zs.length (bH zs)) (hl:zs.length*16≤140737488355328):IsT (base≤·) w v zs:=by
 rcases h.2 with ⟨rfl,hn⟩ | ⟨g,cap,cur,rfl,hg,hh,hc,hm,hcur,hx⟩
 ·exact⟨none,0,by rw[hn],Or.inl (List.eq_nil_of_length_eq_zero hn),hl,by omega,fun _=>⟨hn,rfl⟩⟩
 ·refine⟨some ⟨g,0,none⟩,cap,rfl,Or.inr ⟨g,0,rfl,hg,fun i hi=>?_⟩,hl,hc,fun e=>by cases e⟩
  rw[cell_of_row w g (0+i) cur e _ hh]
  have h1:(cur.toList.take (zs.length*1))[i]? =(bH zs)[i]? :=by rw[hx]
  rw[List.getElem?_take_of_lt (by omega)] at h1
  simp only[Array.getElem?_toList] at h1
  rw[Nat.zero_add,h1]
  simp[bH,List.getD,hi]
theorem vN (a:Option Addr) (cap:Nat) (zs:List (List UInt8)) (w:World) (h:D9 w a cap zs) (hl:zs.length*16≤140737488355328):
  Calls Tryz.prog 56 #[.slice a zs.length cap] w fun e w'=>∃v,e= .returned v∧NH w w' v zs:=by
 obtain⟨i0,hi,hz0,hz1,hz2⟩:=info_parts Tryz.infoText
 have he:=fun w=>Go.Lib.run_eql_slice_nil (P:=Tryz.prog) w 49 9 a zs.length cap 0 0 Tryz.underlying49
 cases a with
 | none=>
  obtain⟨h1,rfl⟩:=h.2.2.2 rfl
  obtain rfl:=List.eq_nil_of_length_eq_zero h1
  simp only[Option.isNone_none,List.length_nil] at he
  go_enter Tryz.func56,Tryz.ntmps56
  go_wp2
  go_ret
  exact⟨_,rfl,World.ownsRow_nil _ _ _ _,fun _=>⟨_,rfl⟩,Below.refl _ _⟩
 | some ad=>
  simp only[Option.isNone_some] at he
  obtain⟨hz,hm,hc,_⟩:=h
  have HB:Hid (Below w.heap.size w (w.alloc (.cells #[] 9))):=(Below.refl _ _).alloc (Nat.le_refl _) _
  have HZ:Hid (j3 (· <w.heap.size) w (some ad) zs):=hz
  clear hz
  by_cases h0:zs.length=0
  ·obtain rfl:=List.eq_nil_of_length_eq_zero h0
   simp only[List.length_nil] at he
   go_enter Tryz.func56,Tryz.ntmps56
   go_wp2_with (first
    | (at_builtin;refine wpList_append_fits_any _ rfl _ _ 49 rfl w.heap.size 9 i0 1 Tryz.underlying49 hi hz1 w.heap.size 0 0 [] rfl (World.ownsRow_made (e:=9) (size:=1) w #[] 0 (Nat.le_refl _) (by decide) rfl) (some ad) 0 cap [] rfl rfl (fun h=>by cases h) (fun _ _ j u hj=>by simp at hj) (by simp) (Nat.le_refl _) ?_;intro w2 hown hg)
    | go_in)
   go_wp2
   go_ret
   exact⟨_,rfl,hown,fun _=>⟨_,rfl⟩,HB.out.grown hg (by rw[aB];omega) (by intro k hk;cases hk;exact Nat.le_refl _)⟩
  ·go_enter Tryz.func56,Tryz.ntmps56
   go_wp2_with (first
    | (at_builtin;refine wpList_append_own _ rfl _ _ 49 rfl w.heap.size 9 i0 (.string ⟨#[]⟩) 1 16 Tryz.underlying49 hi hz0 hz1 hz2 rfl (by decide) _ _ _ rfl (World.ownsRow_made (e:=9) (size:=1) w #[] 0 (Nat.le_refl _) (by decide) rfl) ad zs.length cap (bH zs) rfl ?c1 ?c2 ?c3 ?c4 ?c5 ?c6 ?_)
    | go_in)
   case c1=>simp[bH]
   case c2=>exact HZ.out.news HB.out
   case c3=>exact oA zs
   case c4=>unfold maxLen;omega
   case c5=>omega
   case c6=>rw[aB];omega
   ·intro v' w2 hown hg _
    go_wp2
    go_ret
    refine⟨_,rfl,?_,fun h=>absurd h h0,HB.out.grown hg (by rw[aB];omega) (by intro k hk;cases hk;exact Nat.le_refl _)⟩
    simpa using hown
def eK (c:aF):Bool:=!c.fixed && (decide (c.ops.length+c.deps.length=0) && (dG 6 c.told (fun _=>false) && (dG 6 c.known (fun _=>false) && (dG 4 c.has (fun _=>false) && wU 4 c.vals (fun _=>0)))))
theorem KU (gr:Array Value) (c:aF) (w:World) (h:cU w gr c) (tf:c.fixed=true):
  Calls Tryz.prog 66 #[.agg gr] w fun e w'=>e= .returned (.bool (eK c))∧Below w.heap.size w w':=by
 have HE:Hid (eK c=false):=by unfold Hid eK;simp[tf]
 have Htf:Hid (c.fixed=true):=tf
 clear tf
 obtain⟨zr,hzr⟩:∃zr,zr=aD 24 zcv:=⟨_,rfl⟩
 obtain⟨W,hW⟩:∃W,W=(w.alloc (.cells gr 47)).alloc (.cells zr 47):=⟨_,rfl⟩
 have hb:Below w.heap.size w W:=by rw[hW];exact ((Below.refl _ _).alloc (Nat.le_refl _) _).alloc (by rw[aB];omega) _
 have hB1:bE w.heap.size W gr c:=by rw[hW];exact (bE.new h).later ((Below.refl _ _).alloc (Nat.le_refl _) _)
 have hB2:bE (w.heap.size+1) W zr cF:=by
  rw[hW,←aB w (.cells gr 47),hzr]
  exact bE.new (jU _)
 have HW:Hid (W=(w.alloc (.cells gr 47)).alloc (.cells zr 47)):=hW
 have HB1:=hI9 hB1
 have HB2:=hI9 hB2
 have HZR:=hI9 hzr
 clear hW hB1 hB2 hzr h
 go_enter Tryz.func66,Tryz.ntmps66
 go_upto_region 2 with fail
 rw[←nO,←HZR.out,←HW.out]
 clear HW HZR
 have q1:=HB1.out.fixed
 obtain⟨a2,c2,q2,hs2,hl2⟩:=HB1.out.ops
 obtain⟨a5,c5,q5,hs5,hl5⟩:=HB1.out.deps
 obtain⟨A1,hA1⟩:∃A,A=aL 6 c.told:=⟨_,rfl⟩
 obtain⟨A2,hA2⟩:∃A,A=aL 6 c.known:=⟨_,rfl⟩
 obtain⟨A3,hA3⟩:∃A,A=aL 4 c.has:=⟨_,rfl⟩
 obtain⟨A4,hA4⟩:∃A,A=aD 4 fun i=>Value.int .i64 (c.vals i):=⟨_,rfl⟩
 obtain⟨Z6,hZ6⟩:∃A,A=aL 6 fun _=>false:=⟨_,rfl⟩
 obtain⟨Z4,hZ4⟩:∃A,A=aL 4 fun _=>false:=⟨_,rfl⟩
 obtain⟨ZI,hZI⟩:∃A,A=aD 4 fun _=>Value.int .i64 0:=⟨_,rfl⟩
 have rA1:=HB1.out.rTold
 have rA2:=HB1.out.rKnown
 have rA3:=HB1.out.rHas
 have rA4:=HB1.out.rVals
 have rZ1:W.rangeAt (w.heap.size+1) 3 (aL 6 fun _=>false).toList:=HB2.out.rTold
 have rZ2:W.rangeAt (w.heap.size+1) 9 (aL 6 fun _=>false).toList:=HB2.out.rKnown
 have rZ3:W.rangeAt (w.heap.size+1) 16 (aL 4 fun _=>false).toList:=HB2.out.rHas
 have rZ4:W.rangeAt (w.heap.size+1) 20 (aD 4 fun _=>Value.int .i64 0).toList:=HB2.out.rVals
 have zA1:=fJ (c.told)
 have zA2:=fJ (c.known)
 have zA3:=iQ (c.has)
 have zA4:=gS (c.vals)
 have zZ6:=fJ (fun _=>false)
 have zZ4:=iQ (fun _=>false)
 have zZI:=gS (fun _=>0)
 have e1:=fun w=>bW 9998 Tryz.underlying43 Tryz.underlying4 Tryz.infoBool c.told (fun _=>false) w
 have e2:=fun w=>bW 9998 Tryz.underlying43 Tryz.underlying4 Tryz.infoBool c.known (fun _=>false) w
 have e3:=fun w=>bW 9998 Tryz.underlying44 Tryz.underlying4 Tryz.infoBool c.has (fun _=>false) w
 have e4:=fun w=>g7 9998 Tryz.underlying45 Tryz.underlying3 Tryz.infoInt1 c.vals (fun _=>0) w
 have g6:=Tryz.sixGuard
 have g4:=Tryz.fourGuard
 have gI:=Tryz.fourIGuard
 rw[←hA1] at rA1 zA1 e1
 rw[←hA2] at rA2 zA2 e2
 rw[←hA3] at rA3 zA3 e3
 rw[←hA4] at rA4 zA4 e4
 rw[←hZ6] at rZ1 rZ2 zZ6 e1 e2
 rw[←hZ4] at rZ3 zZ4 e3
 rw[←hZI] at rZ4 zZI e4
 clear hA1 hA2 hA3 hA4 hZ6 hZ4 hZI HB1 HB2 hs2 hs5
 rw[Htf.out] at q1
 clear rA1 rZ1 zA1 e1 rA2 rZ2 zA2 e2 zZ6 g6 rA3 rZ3 zA3 zZ4 e3 g4 rA4 rZ4 zA4 zZI e4 gI
 go_wp2_with fail
 go_ret
 exact⟨aI HE.out.symm,hb⟩
theorem KW (gr:Array Value) (c:aF) (w:World) (h:cU w gr c) (tf:c.fixed=false) (hl:¬ c.ops.length+c.deps.length=0):
  Calls Tryz.prog 66 #[.agg gr] w fun e w'=>e= .returned (.bool (eK c))∧Below w.heap.size w w':=by
 have HE:Hid (eK c=false):=by unfold Hid eK;rw[tf,decide_eq_false hl];rfl
 have Htf:Hid (c.fixed=false):=tf
 have Hhl:Hid (¬ c.ops.length+c.deps.length=0):=hl
 clear tf hl
 obtain⟨zr,hzr⟩:∃zr,zr=aD 24 zcv:=⟨_,rfl⟩
 obtain⟨W,hW⟩:∃W,W=(w.alloc (.cells gr 47)).alloc (.cells zr 47):=⟨_,rfl⟩
 have hb:Below w.heap.size w W:=by rw[hW];exact ((Below.refl _ _).alloc (Nat.le_refl _) _).alloc (by rw[aB];omega) _
 have hB1:bE w.heap.size W gr c:=by rw[hW];exact (bE.new h).later ((Below.refl _ _).alloc (Nat.le_refl _) _)
 have hB2:bE (w.heap.size+1) W zr cF:=by
  rw[hW,←aB w (.cells gr 47),hzr]
  exact bE.new (jU _)
 have HW:Hid (W=(w.alloc (.cells gr 47)).alloc (.cells zr 47)):=hW
 have HB1:=hI9 hB1
 have HB2:=hI9 hB2
 have HZR:=hI9 hzr
 clear hW hB1 hB2 hzr h
 go_enter Tryz.func66,Tryz.ntmps66
 go_upto_region 2 with fail
 rw[←nO,←HZR.out,←HW.out]
 clear HW HZR
 have q1:=HB1.out.fixed
 obtain⟨a2,c2,q2,hs2,hl2⟩:=HB1.out.ops
 obtain⟨a5,c5,q5,hs5,hl5⟩:=HB1.out.deps
 obtain⟨A1,hA1⟩:∃A,A=aL 6 c.told:=⟨_,rfl⟩
 obtain⟨A2,hA2⟩:∃A,A=aL 6 c.known:=⟨_,rfl⟩
 obtain⟨A3,hA3⟩:∃A,A=aL 4 c.has:=⟨_,rfl⟩
 obtain⟨A4,hA4⟩:∃A,A=aD 4 fun i=>Value.int .i64 (c.vals i):=⟨_,rfl⟩
 obtain⟨Z6,hZ6⟩:∃A,A=aL 6 fun _=>false:=⟨_,rfl⟩
 obtain⟨Z4,hZ4⟩:∃A,A=aL 4 fun _=>false:=⟨_,rfl⟩
 obtain⟨ZI,hZI⟩:∃A,A=aD 4 fun _=>Value.int .i64 0:=⟨_,rfl⟩
 have rA1:=HB1.out.rTold
 have rA2:=HB1.out.rKnown
 have rA3:=HB1.out.rHas
 have rA4:=HB1.out.rVals
 have rZ1:W.rangeAt (w.heap.size+1) 3 (aL 6 fun _=>false).toList:=HB2.out.rTold
 have rZ2:W.rangeAt (w.heap.size+1) 9 (aL 6 fun _=>false).toList:=HB2.out.rKnown
 have rZ3:W.rangeAt (w.heap.size+1) 16 (aL 4 fun _=>false).toList:=HB2.out.rHas
 have rZ4:W.rangeAt (w.heap.size+1) 20 (aD 4 fun _=>Value.int .i64 0).toList:=HB2.out.rVals
 have zA1:=fJ (c.told)
 have zA2:=fJ (c.known)
 have zA3:=iQ (c.has)
 have zA4:=gS (c.vals)
 have zZ6:=fJ (fun _=>false)
 have zZ4:=iQ (fun _=>false)
 have zZI:=gS (fun _=>0)
 have e1:=fun w=>bW 9998 Tryz.underlying43 Tryz.underlying4 Tryz.infoBool c.told (fun _=>false) w
 have e2:=fun w=>bW 9998 Tryz.underlying43 Tryz.underlying4 Tryz.infoBool c.known (fun _=>false) w
 have e3:=fun w=>bW 9998 Tryz.underlying44 Tryz.underlying4 Tryz.infoBool c.has (fun _=>false) w
 have e4:=fun w=>g7 9998 Tryz.underlying45 Tryz.underlying3 Tryz.infoInt1 c.vals (fun _=>0) w
 have g6:=Tryz.sixGuard
 have g4:=Tryz.fourGuard
 have gI:=Tryz.fourIGuard
 rw[←hA1] at rA1 zA1 e1
 rw[←hA2] at rA2 zA2 e2
 rw[←hA3] at rA3 zA3 e3
 rw[←hA4] at rA4 zA4 e4
 rw[←hZ6] at rZ1 rZ2 zZ6 e1 e2
 rw[←hZ4] at rZ3 zZ4 e3
 rw[←hZI] at rZ4 zZI e4
 clear hA1 hA2 hA3 hA4 hZ6 hZ4 hZI HB1 HB2 hs2 hs5
 rw[Htf.out] at q1
 have hsum:IntKind.i64.wrap ((c.ops.length:Int)+(c.deps.length:Int))=(c.ops.length:Int)+(c.deps.length:Int):=fQ _ (by omega) (by omega)
 have d1:((c.ops.length:Int)+(c.deps.length:Int) == 0)=false:=by have:=Hhl.out;simp;omega
 clear rA1 rZ1 zA1 e1 rA2 rZ2 zA2 e2 zZ6 g6 rA3 rZ3 zA3 zZ4 e3 g4 rA4 rZ4 zA4 zZI e4 gI
 go_wp2_with fail
 go_ret
 exact⟨aI HE.out.symm,hb⟩
theorem KX (gr:Array Value) (c:aF) (w:World) (h:cU w gr c) (tf:c.fixed=false) (hl:c.ops.length+c.deps.length=0) (t1:dG 6 c.told (fun _=>false)=false):
  Calls Tryz.prog 66 #[.agg gr] w fun e w'=>e= .returned (.bool (eK c))∧Below w.heap.size w w':=by
 have HE:Hid (eK c=false):=by unfold Hid eK;rw[tf,decide_eq_true hl,t1];simp
 have Htf:Hid (c.fixed=false):=tf
 have Hhl:Hid (c.ops.length+c.deps.length=0):=hl
 have Ht1:Hid (dG 6 c.told (fun _=>false)=false):=t1
 clear tf hl t1
 obtain⟨zr,hzr⟩:∃zr,zr=aD 24 zcv:=⟨_,rfl⟩
 obtain⟨W,hW⟩:∃W,W=(w.alloc (.cells gr 47)).alloc (.cells zr 47):=⟨_,rfl⟩
 have hb:Below w.heap.size w W:=by rw[hW];exact ((Below.refl _ _).alloc (Nat.le_refl _) _).alloc (by rw[aB];omega) _
 have hB1:bE w.heap.size W gr c:=by rw[hW];exact (bE.new h).later ((Below.refl _ _).alloc (Nat.le_refl _) _)
 have hB2:bE (w.heap.size+1) W zr cF:=by
  rw[hW,←aB w (.cells gr 47),hzr]
  exact bE.new (jU _)
 have HW:Hid (W=(w.alloc (.cells gr 47)).alloc (.cells zr 47)):=hW
 have HB1:=hI9 hB1
 have HB2:=hI9 hB2
 have HZR:=hI9 hzr
 clear hW hB1 hB2 hzr h
 go_enter Tryz.func66,Tryz.ntmps66
 go_upto_region 2 with fail
 rw[←nO,←HZR.out,←HW.out]
 clear HW HZR
 have q1:=HB1.out.fixed
 obtain⟨a2,c2,q2,hs2,hl2⟩:=HB1.out.ops
 obtain⟨a5,c5,q5,hs5,hl5⟩:=HB1.out.deps
 obtain⟨A1,hA1⟩:∃A,A=aL 6 c.told:=⟨_,rfl⟩
 obtain⟨A2,hA2⟩:∃A,A=aL 6 c.known:=⟨_,rfl⟩
 obtain⟨A3,hA3⟩:∃A,A=aL 4 c.has:=⟨_,rfl⟩
 obtain⟨A4,hA4⟩:∃A,A=aD 4 fun i=>Value.int .i64 (c.vals i):=⟨_,rfl⟩
 obtain⟨Z6,hZ6⟩:∃A,A=aL 6 fun _=>false:=⟨_,rfl⟩
 obtain⟨Z4,hZ4⟩:∃A,A=aL 4 fun _=>false:=⟨_,rfl⟩
 obtain⟨ZI,hZI⟩:∃A,A=aD 4 fun _=>Value.int .i64 0:=⟨_,rfl⟩
 have rA1:=HB1.out.rTold
 have rA2:=HB1.out.rKnown
 have rA3:=HB1.out.rHas
 have rA4:=HB1.out.rVals
 have rZ1:W.rangeAt (w.heap.size+1) 3 (aL 6 fun _=>false).toList:=HB2.out.rTold
 have rZ2:W.rangeAt (w.heap.size+1) 9 (aL 6 fun _=>false).toList:=HB2.out.rKnown
 have rZ3:W.rangeAt (w.heap.size+1) 16 (aL 4 fun _=>false).toList:=HB2.out.rHas
 have rZ4:W.rangeAt (w.heap.size+1) 20 (aD 4 fun _=>Value.int .i64 0).toList:=HB2.out.rVals
 have zA1:=fJ (c.told)
 have zA2:=fJ (c.known)
 have zA3:=iQ (c.has)
 have zA4:=gS (c.vals)
 have zZ6:=fJ (fun _=>false)
 have zZ4:=iQ (fun _=>false)
 have zZI:=gS (fun _=>0)
 have e1:=fun w=>bW 9998 Tryz.underlying43 Tryz.underlying4 Tryz.infoBool c.told (fun _=>false) w
 have e2:=fun w=>bW 9998 Tryz.underlying43 Tryz.underlying4 Tryz.infoBool c.known (fun _=>false) w
 have e3:=fun w=>bW 9998 Tryz.underlying44 Tryz.underlying4 Tryz.infoBool c.has (fun _=>false) w
 have e4:=fun w=>g7 9998 Tryz.underlying45 Tryz.underlying3 Tryz.infoInt1 c.vals (fun _=>0) w
 have g6:=Tryz.sixGuard
 have g4:=Tryz.fourGuard
 have gI:=Tryz.fourIGuard
 rw[←hA1] at rA1 zA1 e1
 rw[←hA2] at rA2 zA2 e2
 rw[←hA3] at rA3 zA3 e3
 rw[←hA4] at rA4 zA4 e4
 rw[←hZ6] at rZ1 rZ2 zZ6 e1 e2
 rw[←hZ4] at rZ3 zZ4 e3
 rw[←hZI] at rZ4 zZI e4
 clear hA1 hA2 hA3 hA4 hZ6 hZ4 hZI HB1 HB2 hs2 hs5
 rw[Htf.out] at q1
 have hsum:IntKind.i64.wrap ((c.ops.length:Int)+(c.deps.length:Int))=(c.ops.length:Int)+(c.deps.length:Int):=fQ _ (by omega) (by omega)
 have d1:((c.ops.length:Int)+(c.deps.length:Int) == 0)=true:=by have:=Hhl.out;simp;omega
 rw[Ht1.out] at e1
 clear rA2 rZ2 zA2 e2 rA3 rZ3 zA3 zZ4 e3 g4 rA4 rZ4 zA4 zZI e4 gI
 go_wp2_with (first
  | ((with_reducible apply dN rA1);(· rfl);(· exact zA1);(· rfl);simp only[Act.put,sA,sZ,sS])
  | ((with_reducible apply dN rZ1);(· rfl);(· exact zZ6);(· rfl);simp only[Act.put,sA,sZ,sS])
  | fail)
 go_ret
 exact⟨aI HE.out.symm,hb⟩
theorem KY (gr:Array Value) (c:aF) (w:World) (h:cU w gr c) (tf:c.fixed=false) (hl:c.ops.length+c.deps.length=0) (t1:dG 6 c.told (fun _=>false)=true) (t2:dG 6 c.known (fun _=>false)=false):
  Calls Tryz.prog 66 #[.agg gr] w fun e w'=>e= .returned (.bool (eK c))∧Below w.heap.size w w':=by
 have HE:Hid (eK c=false):=by unfold Hid eK;rw[tf,decide_eq_true hl,t1,t2];simp
 have Htf:Hid (c.fixed=false):=tf
 have Hhl:Hid (c.ops.length+c.deps.length=0):=hl
 have Ht1:Hid (dG 6 c.told (fun _=>false)=true):=t1
 have Ht2:Hid (dG 6 c.known (fun _=>false)=false):=t2
 clear tf hl t1 t2
 obtain⟨zr,hzr⟩:∃zr,zr=aD 24 zcv:=⟨_,rfl⟩
 obtain⟨W,hW⟩:∃W,W=(w.alloc (.cells gr 47)).alloc (.cells zr 47):=⟨_,rfl⟩
 have hb:Below w.heap.size w W:=by rw[hW];exact ((Below.refl _ _).alloc (Nat.le_refl _) _).alloc (by rw[aB];omega) _
 have hB1:bE w.heap.size W gr c:=by rw[hW];exact (bE.new h).later ((Below.refl _ _).alloc (Nat.le_refl _) _)
 have hB2:bE (w.heap.size+1) W zr cF:=by
  rw[hW,←aB w (.cells gr 47),hzr]
  exact bE.new (jU _)
 have HW:Hid (W=(w.alloc (.cells gr 47)).alloc (.cells zr 47)):=hW
 have HB1:=hI9 hB1
 have HB2:=hI9 hB2
 have HZR:=hI9 hzr
 clear hW hB1 hB2 hzr h
 go_enter Tryz.func66,Tryz.ntmps66
 go_upto_region 2 with fail
 rw[←nO,←HZR.out,←HW.out]
 clear HW HZR
 have q1:=HB1.out.fixed
 obtain⟨a2,c2,q2,hs2,hl2⟩:=HB1.out.ops
 obtain⟨a5,c5,q5,hs5,hl5⟩:=HB1.out.deps
 obtain⟨A1,hA1⟩:∃A,A=aL 6 c.told:=⟨_,rfl⟩
 obtain⟨A2,hA2⟩:∃A,A=aL 6 c.known:=⟨_,rfl⟩
 obtain⟨A3,hA3⟩:∃A,A=aL 4 c.has:=⟨_,rfl⟩
 obtain⟨A4,hA4⟩:∃A,A=aD 4 fun i=>Value.int .i64 (c.vals i):=⟨_,rfl⟩
 obtain⟨Z6,hZ6⟩:∃A,A=aL 6 fun _=>false:=⟨_,rfl⟩
 obtain⟨Z4,hZ4⟩:∃A,A=aL 4 fun _=>false:=⟨_,rfl⟩
 obtain⟨ZI,hZI⟩:∃A,A=aD 4 fun _=>Value.int .i64 0:=⟨_,rfl⟩
 have rA1:=HB1.out.rTold
 have rA2:=HB1.out.rKnown
 have rA3:=HB1.out.rHas
 have rA4:=HB1.out.rVals
 have rZ1:W.rangeAt (w.heap.size+1) 3 (aL 6 fun _=>false).toList:=HB2.out.rTold
 have rZ2:W.rangeAt (w.heap.size+1) 9 (aL 6 fun _=>false).toList:=HB2.out.rKnown
 have rZ3:W.rangeAt (w.heap.size+1) 16 (aL 4 fun _=>false).toList:=HB2.out.rHas
 have rZ4:W.rangeAt (w.heap.size+1) 20 (aD 4 fun _=>Value.int .i64 0).toList:=HB2.out.rVals
 have zA1:=fJ (c.told)
 have zA2:=fJ (c.known)
 have zA3:=iQ (c.has)
 have zA4:=gS (c.vals)
 have zZ6:=fJ (fun _=>false)
 have zZ4:=iQ (fun _=>false)
 have zZI:=gS (fun _=>0)
 have e1:=fun w=>bW 9998 Tryz.underlying43 Tryz.underlying4 Tryz.infoBool c.told (fun _=>false) w
 have e2:=fun w=>bW 9998 Tryz.underlying43 Tryz.underlying4 Tryz.infoBool c.known (fun _=>false) w
 have e3:=fun w=>bW 9998 Tryz.underlying44 Tryz.underlying4 Tryz.infoBool c.has (fun _=>false) w
 have e4:=fun w=>g7 9998 Tryz.underlying45 Tryz.underlying3 Tryz.infoInt1 c.vals (fun _=>0) w
 have g6:=Tryz.sixGuard
 have g4:=Tryz.fourGuard
 have gI:=Tryz.fourIGuard
 rw[←hA1] at rA1 zA1 e1
 rw[←hA2] at rA2 zA2 e2
 rw[←hA3] at rA3 zA3 e3
 rw[←hA4] at rA4 zA4 e4
 rw[←hZ6] at rZ1 rZ2 zZ6 e1 e2
 rw[←hZ4] at rZ3 zZ4 e3
 rw[←hZI] at rZ4 zZI e4
 clear hA1 hA2 hA3 hA4 hZ6 hZ4 hZI HB1 HB2 hs2 hs5
 rw[Htf.out] at q1
 have hsum:IntKind.i64.wrap ((c.ops.length:Int)+(c.deps.length:Int))=(c.ops.length:Int)+(c.deps.length:Int):=fQ _ (by omega) (by omega)
 have d1:((c.ops.length:Int)+(c.deps.length:Int) == 0)=true:=by have:=Hhl.out;simp;omega
 rw[Ht1.out] at e1
 rw[Ht2.out] at e2
 clear rA3 rZ3 zA3 zZ4 e3 g4 rA4 rZ4 zA4 zZI e4 gI
 go_wp2_with (first
  | ((with_reducible apply dN rA1);(· rfl);(· exact zA1);(· rfl);simp only[Act.put,sA,sZ,sS])
  | ((with_reducible apply dN rZ1);(· rfl);(· exact zZ6);(· rfl);simp only[Act.put,sA,sZ,sS])
  | ((with_reducible apply dN rA2);(· rfl);(· exact zA2);(· rfl);simp only[Act.put,sA,sZ,sS])
  | ((with_reducible apply dN rZ2);(· rfl);(· exact zZ6);(· rfl);simp only[Act.put,sA,sZ,sS])
  | fail)
 go_ret
 exact⟨aI HE.out.symm,hb⟩
theorem KZ (gr:Array Value) (c:aF) (w:World) (h:cU w gr c) (tf:c.fixed=false) (hl:c.ops.length+c.deps.length=0) (t1:dG 6 c.told (fun _=>false)=true) (t2:dG 6 c.known (fun _=>false)=true) (t3:dG 4 c.has (fun _=>false)=false):
  Calls Tryz.prog 66 #[.agg gr] w fun e w'=>e= .returned (.bool (eK c))∧Below w.heap.size w w':=by
 have HE:Hid (eK c=false):=by unfold Hid eK;rw[tf,decide_eq_true hl,t1,t2,t3];simp
 have Htf:Hid (c.fixed=false):=tf
 have Hhl:Hid (c.ops.length+c.deps.length=0):=hl
 have Ht1:Hid (dG 6 c.told (fun _=>false)=true):=t1
 have Ht2:Hid (dG 6 c.known (fun _=>false)=true):=t2
 have Ht3:Hid (dG 4 c.has (fun _=>false)=false):=t3
 clear tf hl t1 t2 t3
 obtain⟨zr,hzr⟩:∃zr,zr=aD 24 zcv:=⟨_,rfl⟩
 obtain⟨W,hW⟩:∃W,W=(w.alloc (.cells gr 47)).alloc (.cells zr 47):=⟨_,rfl⟩
 have hb:Below w.heap.size w W:=by rw[hW];exact ((Below.refl _ _).alloc (Nat.le_refl _) _).alloc (by rw[aB];omega) _
 have hB1:bE w.heap.size W gr c:=by rw[hW];exact (bE.new h).later ((Below.refl _ _).alloc (Nat.le_refl _) _)
 have hB2:bE (w.heap.size+1) W zr cF:=by
  rw[hW,←aB w (.cells gr 47),hzr]
  exact bE.new (jU _)
 have HW:Hid (W=(w.alloc (.cells gr 47)).alloc (.cells zr 47)):=hW
 have HB1:=hI9 hB1
 have HB2:=hI9 hB2
 have HZR:=hI9 hzr
 clear hW hB1 hB2 hzr h
 go_enter Tryz.func66,Tryz.ntmps66
 go_upto_region 2 with fail
 rw[←nO,←HZR.out,←HW.out]
 clear HW HZR
 have q1:=HB1.out.fixed
 obtain⟨a2,c2,q2,hs2,hl2⟩:=HB1.out.ops
 obtain⟨a5,c5,q5,hs5,hl5⟩:=HB1.out.deps
 obtain⟨A1,hA1⟩:∃A,A=aL 6 c.told:=⟨_,rfl⟩
 obtain⟨A2,hA2⟩:∃A,A=aL 6 c.known:=⟨_,rfl⟩
 obtain⟨A3,hA3⟩:∃A,A=aL 4 c.has:=⟨_,rfl⟩
 obtain⟨A4,hA4⟩:∃A,A=aD 4 fun i=>Value.int .i64 (c.vals i):=⟨_,rfl⟩
 obtain⟨Z6,hZ6⟩:∃A,A=aL 6 fun _=>false:=⟨_,rfl⟩
 obtain⟨Z4,hZ4⟩:∃A,A=aL 4 fun _=>false:=⟨_,rfl⟩
 obtain⟨ZI,hZI⟩:∃A,A=aD 4 fun _=>Value.int .i64 0:=⟨_,rfl⟩
 have rA1:=HB1.out.rTold
 have rA2:=HB1.out.rKnown
 have rA3:=HB1.out.rHas
 have rA4:=HB1.out.rVals
 have rZ1:W.rangeAt (w.heap.size+1) 3 (aL 6 fun _=>false).toList:=HB2.out.rTold
 have rZ2:W.rangeAt (w.heap.size+1) 9 (aL 6 fun _=>false).toList:=HB2.out.rKnown
 have rZ3:W.rangeAt (w.heap.size+1) 16 (aL 4 fun _=>false).toList:=HB2.out.rHas
 have rZ4:W.rangeAt (w.heap.size+1) 20 (aD 4 fun _=>Value.int .i64 0).toList:=HB2.out.rVals
 have zA1:=fJ (c.told)
 have zA2:=fJ (c.known)
 have zA3:=iQ (c.has)
 have zA4:=gS (c.vals)
 have zZ6:=fJ (fun _=>false)
 have zZ4:=iQ (fun _=>false)
 have zZI:=gS (fun _=>0)
 have e1:=fun w=>bW 9998 Tryz.underlying43 Tryz.underlying4 Tryz.infoBool c.told (fun _=>false) w
 have e2:=fun w=>bW 9998 Tryz.underlying43 Tryz.underlying4 Tryz.infoBool c.known (fun _=>false) w
 have e3:=fun w=>bW 9998 Tryz.underlying44 Tryz.underlying4 Tryz.infoBool c.has (fun _=>false) w
 have e4:=fun w=>g7 9998 Tryz.underlying45 Tryz.underlying3 Tryz.infoInt1 c.vals (fun _=>0) w
 have g6:=Tryz.sixGuard
 have g4:=Tryz.fourGuard
 have gI:=Tryz.fourIGuard
 rw[←hA1] at rA1 zA1 e1
 rw[←hA2] at rA2 zA2 e2
 rw[←hA3] at rA3 zA3 e3
 rw[←hA4] at rA4 zA4 e4
 rw[←hZ6] at rZ1 rZ2 zZ6 e1 e2
 rw[←hZ4] at rZ3 zZ4 e3
 rw[←hZI] at rZ4 zZI e4
 clear hA1 hA2 hA3 hA4 hZ6 hZ4 hZI HB1 HB2 hs2 hs5
 rw[Htf.out] at q1
 have hsum:IntKind.i64.wrap ((c.ops.length:Int)+(c.deps.length:Int))=(c.ops.length:Int)+(c.deps.length:Int):=fQ _ (by omega) (by omega)
 have d1:((c.ops.length:Int)+(c.deps.length:Int) == 0)=true:=by have:=Hhl.out;simp;omega
 rw[Ht1.out] at e1
 rw[Ht2.out] at e2
 rw[Ht3.out] at e3
 clear rA4 rZ4 zA4 zZI e4 gI
 go_wp2_with (first
  | ((with_reducible apply dN rA1);(· rfl);(· exact zA1);(· rfl);simp only[Act.put,sA,sZ,sS])
  | ((with_reducible apply dN rZ1);(· rfl);(· exact zZ6);(· rfl);simp only[Act.put,sA,sZ,sS])
  | ((with_reducible apply dN rA2);(· rfl);(· exact zA2);(· rfl);simp only[Act.put,sA,sZ,sS])
  | ((with_reducible apply dN rZ2);(· rfl);(· exact zZ6);(· rfl);simp only[Act.put,sA,sZ,sS])
  | ((with_reducible apply dN rA3);(· rfl);(· exact zA3);(· rfl);simp only[Act.put,sA,sZ,sS])
  | ((with_reducible apply dN rZ3);(· rfl);(· exact zZ4);(· rfl);simp only[Act.put,sA,sZ,sS])
  | fail)
 go_ret
 exact⟨aI HE.out.symm,hb⟩
theorem K5 (gr:Array Value) (c:aF) (w:World) (h:cU w gr c) (tf:c.fixed=false) (hl:c.ops.length+c.deps.length=0) (t1:dG 6 c.told (fun _=>false)=true) (t2:dG 6 c.known (fun _=>false)=true) (t3:dG 4 c.has (fun _=>false)=true):
  Calls Tryz.prog 66 #[.agg gr] w fun e w'=>e= .returned (.bool (eK c))∧Below w.heap.size w w':=by
 have HE:Hid (eK c=wU 4 c.vals fun _=>0):=by unfold Hid eK;rw[tf,decide_eq_true hl,t1,t2,t3];simp
 have Htf:Hid (c.fixed=false):=tf
 have Hhl:Hid (c.ops.length+c.deps.length=0):=hl
 have Ht1:Hid (dG 6 c.told (fun _=>false)=true):=t1
 have Ht2:Hid (dG 6 c.known (fun _=>false)=true):=t2
 have Ht3:Hid (dG 4 c.has (fun _=>false)=true):=t3
 clear tf hl t1 t2 t3
 obtain⟨zr,hzr⟩:∃zr,zr=aD 24 zcv:=⟨_,rfl⟩
 obtain⟨W,hW⟩:∃W,W=(w.alloc (.cells gr 47)).alloc (.cells zr 47):=⟨_,rfl⟩
 have hb:Below w.heap.size w W:=by rw[hW];exact ((Below.refl _ _).alloc (Nat.le_refl _) _).alloc (by rw[aB];omega) _
 have hB1:bE w.heap.size W gr c:=by rw[hW];exact (bE.new h).later ((Below.refl _ _).alloc (Nat.le_refl _) _)
 have hB2:bE (w.heap.size+1) W zr cF:=by
  rw[hW,←aB w (.cells gr 47),hzr]
  exact bE.new (jU _)
 have HW:Hid (W=(w.alloc (.cells gr 47)).alloc (.cells zr 47)):=hW
 have HB1:=hI9 hB1
 have HB2:=hI9 hB2
 have HZR:=hI9 hzr
 clear hW hB1 hB2 hzr h
 go_enter Tryz.func66,Tryz.ntmps66
 go_upto_region 2 with fail
 rw[←nO,←HZR.out,←HW.out]
 clear HW HZR
 have q1:=HB1.out.fixed
 obtain⟨a2,c2,q2,hs2,hl2⟩:=HB1.out.ops
 obtain⟨a5,c5,q5,hs5,hl5⟩:=HB1.out.deps
 obtain⟨A1,hA1⟩:∃A,A=aL 6 c.told:=⟨_,rfl⟩
 obtain⟨A2,hA2⟩:∃A,A=aL 6 c.known:=⟨_,rfl⟩
 obtain⟨A3,hA3⟩:∃A,A=aL 4 c.has:=⟨_,rfl⟩
 obtain⟨A4,hA4⟩:∃A,A=aD 4 fun i=>Value.int .i64 (c.vals i):=⟨_,rfl⟩
 obtain⟨Z6,hZ6⟩:∃A,A=aL 6 fun _=>false:=⟨_,rfl⟩
 obtain⟨Z4,hZ4⟩:∃A,A=aL 4 fun _=>false:=⟨_,rfl⟩
 obtain⟨ZI,hZI⟩:∃A,A=aD 4 fun _=>Value.int .i64 0:=⟨_,rfl⟩
 have rA1:=HB1.out.rTold
 have rA2:=HB1.out.rKnown
 have rA3:=HB1.out.rHas
 have rA4:=HB1.out.rVals
 have rZ1:W.rangeAt (w.heap.size+1) 3 (aL 6 fun _=>false).toList:=HB2.out.rTold
 have rZ2:W.rangeAt (w.heap.size+1) 9 (aL 6 fun _=>false).toList:=HB2.out.rKnown
 have rZ3:W.rangeAt (w.heap.size+1) 16 (aL 4 fun _=>false).toList:=HB2.out.rHas
 have rZ4:W.rangeAt (w.heap.size+1) 20 (aD 4 fun _=>Value.int .i64 0).toList:=HB2.out.rVals
 have zA1:=fJ (c.told)
 have zA2:=fJ (c.known)
 have zA3:=iQ (c.has)
 have zA4:=gS (c.vals)
 have zZ6:=fJ (fun _=>false)
 have zZ4:=iQ (fun _=>false)
 have zZI:=gS (fun _=>0)
 have e1:=fun w=>bW 9998 Tryz.underlying43 Tryz.underlying4 Tryz.infoBool c.told (fun _=>false) w
 have e2:=fun w=>bW 9998 Tryz.underlying43 Tryz.underlying4 Tryz.infoBool c.known (fun _=>false) w
 have e3:=fun w=>bW 9998 Tryz.underlying44 Tryz.underlying4 Tryz.infoBool c.has (fun _=>false) w
 have e4:=fun w=>g7 9998 Tryz.underlying45 Tryz.underlying3 Tryz.infoInt1 c.vals (fun _=>0) w
 have g6:=Tryz.sixGuard
 have g4:=Tryz.fourGuard
 have gI:=Tryz.fourIGuard
 rw[←hA1] at rA1 zA1 e1
 rw[←hA2] at rA2 zA2 e2
 rw[←hA3] at rA3 zA3 e3
 rw[←hA4] at rA4 zA4 e4
 rw[←hZ6] at rZ1 rZ2 zZ6 e1 e2
 rw[←hZ4] at rZ3 zZ4 e3
 rw[←hZI] at rZ4 zZI e4
 clear hA1 hA2 hA3 hA4 hZ6 hZ4 hZI HB1 HB2 hs2 hs5
 rw[Htf.out] at q1
 have hsum:IntKind.i64.wrap ((c.ops.length:Int)+(c.deps.length:Int))=(c.ops.length:Int)+(c.deps.length:Int):=fQ _ (by omega) (by omega)
 have d1:((c.ops.length:Int)+(c.deps.length:Int) == 0)=true:=by have:=Hhl.out;simp;omega
 rw[Ht1.out] at e1
 rw[Ht2.out] at e2
 rw[Ht3.out] at e3
 go_wp2_with (first
  | ((with_reducible apply dN rA1);(· rfl);(· exact zA1);(· rfl);simp only[Act.put,sA,sZ,sS])
  | ((with_reducible apply dN rZ1);(· rfl);(· exact zZ6);(· rfl);simp only[Act.put,sA,sZ,sS])
  | ((with_reducible apply dN rA2);(· rfl);(· exact zA2);(· rfl);simp only[Act.put,sA,sZ,sS])
  | ((with_reducible apply dN rZ2);(· rfl);(· exact zZ6);(· rfl);simp only[Act.put,sA,sZ,sS])
  | ((with_reducible apply dN rA3);(· rfl);(· exact zA3);(· rfl);simp only[Act.put,sA,sZ,sS])
  | ((with_reducible apply dN rZ3);(· rfl);(· exact zZ4);(· rfl);simp only[Act.put,sA,sZ,sS])
  | ((with_reducible apply dN rA4);(· rfl);(· exact zA4);(· rfl);simp only[Act.put,sA,sZ,sS])
  | ((with_reducible apply dN rZ4);(· rfl);(· exact zZI);(· rfl);simp only[Act.put,sA,sZ,sS])
  | fail)
 go_ret
 exact⟨aI HE.out.symm,hb⟩
theorem LE (gr:Array Value) (c:aF) (w:World) (h:cU w gr c):
  Calls Tryz.prog 66 #[.agg gr] w fun e w'=>e= .returned (.bool (eK c))∧Below w.heap.size w w':=by
 cases tf:c.fixed
 ·by_cases hl:c.ops.length+c.deps.length=0
  ·cases t1:dG 6 c.told fun _=>false
   ·exact KX gr c w h tf hl t1
   ·cases t2:dG 6 c.known fun _=>false
    ·exact KY gr c w h tf hl t1 t2
    ·cases t3:dG 4 c.has fun _=>false
     ·exact KZ gr c w h tf hl t1 t2 t3
     ·exact K5 gr c w h tf hl t1 t2 t3
  ·exact KW gr c w h tf hl
 ·exact KU gr c w h tf
theorem JZ {c:aF} (hb:c.begun=false):dK c=eK c:=by
 unfold dK eK
 rw[if_neg (by rw[hb];decide),Bool.eq_iff_iff]
 simp only[Bool.and_eq_true,Bool.not_eq_true',List.isEmpty_iff,AE,dG,wU,List.all_eq_true,List.mem_range,decide_eq_true_eq,beq_iff_eq]
 constructor
 ·rintro⟨⟨⟨⟨⟨⟨h1,h2⟩,h3⟩,h4⟩,h5⟩,h6⟩,h7⟩
  exact⟨h1,by rw[h2,h5];rfl,h3,h4,h6,h7⟩
 ·rintro⟨h1,h2,h3,h4,h6,h7⟩
  exact⟨⟨⟨⟨⟨⟨h1,List.eq_nil_of_length_eq_zero (by omega)⟩,h3⟩,h4⟩,List.eq_nil_of_length_eq_zero (by omega)⟩,h6⟩,h7⟩
theorem IW (gr:Array Value) (c:aF) (w:World) (h:cU w gr c):
  Calls Tryz.prog 37 #[.agg gr] w fun e w'=>e= .returned (.bool (dK c))∧Below w.heap.size w w':=by
 obtain⟨W,hW⟩:∃W,W=w.alloc (.cells gr 47):=⟨_,rfl⟩
 have hb:Below w.heap.size w W:=by rw[hW];exact (Below.refl _ _).alloc (Nat.le_refl _) _
 have hB:bE w.heap.size W gr c:=by rw[hW];exact bE.new h
 have rB:=hB.row
 have tB:=hB.case.row
 have HB:=hI9 hB
 have HW:=hI9 hW
 have q0:=hB.begun
 obtain⟨a2,c2,q2,hs2,hl2⟩:=hB.ops
 obtain⟨a5,c5,q5,hs5,hl5⟩:=hB.deps
 clear hW hB h
 cases t0:c.begun
 ·have HE:Hid (dK c=eK c):=JZ t0
  rw[t0] at q0
  go_enter Tryz.func37,Tryz.ntmps37
  go_upto_region 1 with fail
  rw[←HW.out]
  clear HW
  go_wp2_with (first
   | ((with_reducible apply cJ rB);(· rfl);(· exact tB);(· rfl);simp only[Act.put,sA,sZ,sS])
   | fail)
  refine (LE gr c W HB.out.case).mono ?_
  rintro e w1 ⟨rfl,hb1⟩
  have hb2:=hb.trans (hb1.mono hb.size)
  clear hb1
  go_wp2
  go_ret
  exact⟨aI HE.out.symm,hb2⟩
 ·have HE:Hid (dK c=(bQ c.ops && bF (-1) c.deps)):=kI t0
  rw[t0] at q0
  go_enter Tryz.func37,Tryz.ntmps37
  go_upto_region 1 with fail
  rw[←HW.out]
  clear HW
  go_wp2_with fail
  refine (kS a2 c2 c.ops W hs2.2.1 hs2.1).mono ?_
  rintro e w1 ⟨rfl,hb1⟩
  have hb2:=hb.trans (hb1.mono hb.size)
  have hs5':=hs5.later hb1
  have p5:w1.cell? ⟨w.heap.size,15,none⟩=some (.slice a5 c.deps.length c5):=by rw[hb1.cell (p:=⟨w.heap.size,15,none⟩) HB.out.lt];exact q5
  clear hb1 q0 q2 q5
  cases t1:bQ c.ops
  ·have HF:Hid (dK c=false):=by unfold Hid;rw[HE.out,t1];rfl
   go_wp2
   go_ret
   exact⟨aI HF.out.symm,hb2⟩
  ·have HF:Hid (dK c=bF (-1) c.deps):=by unfold Hid;rw[HE.out,t1];rfl
   go_wp2_with fail
   refine (oH a5 c5 c.deps w1 hs5'.2.1 hs5'.1).mono ?_
   rintro e w2 ⟨rfl,hw⟩
   subst hw
   go_wp2
   go_ret
   exact⟨aI HF.out.symm,hb2⟩
theorem wK (gr:Array Value) (c:aF) (id:Int) (w:World) (h:cU w gr c):
  Calls Tryz.prog 96 #[.agg gr,.int .i64 id] w fun e w'=>e= .returned (.bool (dF c id))∧Below w.heap.size w w':=by
 obtain⟨W,hW⟩:∃W,W=w.alloc (.cells gr 47):=⟨_,rfl⟩
 have hb:Below w.heap.size w W:=by rw[hW];exact (Below.refl _ _).alloc (Nat.le_refl _) _
 have hB:bE w.heap.size W gr c:=by rw[hW];exact bE.new h
 have rB:=hB.row
 have tB:=hB.case.row
 have HB:=hI9 hB
 have HW:=hI9 hW
 clear hW hB h
 go_enter Tryz.func96,Tryz.ntmps96
 go_upto_region 1 with fail
 rw[←HW.out]
 clear HW
 go_wp2_with (first
  | ((with_reducible apply cJ rB);(· rfl);(· exact tB);(· rfl);simp only[Act.put,sA,sZ,sS])
  | fail)
 refine (IW gr c W HB.out.case).mono ?_
 rintro e w1 ⟨rfl,hb1⟩
 have hb2:=hb.trans (hb1.mono hb.size)
 have HB1:Hid (bE w.heap.size w1 gr c):=HB.out.later hb1
 clear hb1 rB
 cases t1:dK c
 ·have HE:Hid (dF c id=false):=by unfold Hid dF;rw[t1];rfl
  go_wp2
  go_ret
  exact⟨aI HE.out.symm,hb2⟩
 have q0:=HB1.out.begun
 cases t2:c.begun
 ·have HE:Hid (dF c id=false):=by unfold Hid dF;rw[t1,t2];rfl
  rw[t2] at q0
  go_wp2
  go_ret
  exact⟨aI HE.out.symm,hb2⟩
 have HE:Hid (dF c id= !dO c.deps id):=by unfold Hid dF;rw[t1,t2];rfl
 rw[t2] at q0
 obtain⟨a5,c5,q5,hs5,hl5⟩:=HB1.out.deps
 go_wp2_with fail
 refine (mT a5 c5 c.deps id w1 hs5.2.1 hs5.1).mono ?_
 rintro e w2 ⟨rfl,hw⟩
 subst hw
 go_wp2
 go_ret
 exact⟨aI HE.out.symm,hb2⟩
def lE (c:aF) (sh:Int) (i:Nat):Bool:=fL sh (c.ops.getD i (0,0,0)) && !c.has i
theorem K7 {c:aF} {sh:Int} {k:Nat} (h:(List.range k).any (lE c sh)=false) (hk:¬ k<c.ops.length) (hk':k≤c.ops.length):c.lacks sh=false:=by
 have:k=c.ops.length:=by omega
 rw[this] at h
 exact h
theorem wF {c:aF} {sh:Int} {k:Nat} (h:(List.range k).any (lE c sh)=false) (h1:lE c sh k=false):(List.range (k+1)).any (lE c sh)=false:=by
 rw[List.range_succ,List.any_append,h]
 simp[h1]
theorem IG {c:aF} {sh:Int} {k:Nat} (hk:k<c.ops.length) (h1:lE c sh k=true):c.lacks sh=true:=by
 unfold aF.lacks
 rw[List.any_eq_true]
 exact⟨k,List.mem_range.2 hk,h1⟩
theorem BN (gr:Array Value) (c:aF) (sh:Int) (w:World) (h:cU w gr c) (h4:c.ops.length≤4):
    Calls Tryz.prog 123 #[.agg gr,.int .i64 sh] w fun e w'=>e= .returned (.bool (c.lacks sh))∧Below w.heap.size w w':=by
  obtain⟨W,hW⟩:∃W,W=w.alloc (.cells gr 47):=⟨_,rfl⟩
  have hb:Below w.heap.size w W:=by rw[hW];exact (Below.refl _ _).alloc (Nat.le_refl _) _
  have hzW:W.heap.size=w.heap.size+1:=by rw[hW];exact aB _ _
  have hB:bE w.heap.size W gr c:=by rw[hW];exact bE.new h
  have HB:=hI9 hB
  have HW:=hI9 hW
  obtain⟨a2,c2,q2,hs2,hl2⟩:=hB.ops
  clear hW hB h
  go_enter Tryz.func123,Tryz.ntmps123
  go_upto_region 1 with fail
  rw[←HW.out]
  clear HW
  rcases hs2.1 with h0 | ⟨b,off,rfl,hbl,hc⟩
  ·have HE:Hid (c.lacks sh=false):=by unfold Hid aF.lacks;rw[h0];rfl
   have hl0:c.ops.length=0:=by rw[h0];rfl
   rw[hl0] at q2
   clear hl0 h0
   go_wp2
   refine wp_loop_rounds 1 ?_;rw[rounds_succ]
   go_wp2
   go_ret
   exact⟨aI HE.out.symm,hb⟩
  ·have HC:Hid (∀i,i<c.ops.length→W.cell? ⟨b,off+i*3,none⟩=some (.int .i64 (c.ops.getD i (0,0,0)).1)∧
      W.cell? ⟨b,off+i*3+1,none⟩=some (.int .i64 (c.ops.getD i (0,0,0)).2.1)∧W.cell? ⟨b,off+i*3+2,none⟩=some (.int .i64 (c.ops.getD i (0,0,0)).2.2)):=hc
   clear hc
   go_wp2
   go_loopw [10] (fun i wr=>∃k:Nat,k≤c.ops.length∧i= .int .i64 k∧Hid ((List.range k).any (lE c sh)=false)∧Below W.heap.size W wr) (fun i _=>c.ops.length-(intOf i).toNat)
   case atStart=>exact⟨0,Nat.zero_le _,rfl,rfl,Below.refl _ _⟩
   case round=>
     obtain⟨k,hk,rfl,HNo,hBw⟩:=hrel
     have hsz:=hBw.size
     have HBw:Hid (Below w.heap.size w wr):=hb.trans (hBw.mono (by omega))
     by_cases hlt:k<c.ops.length
     ·obtain⟨q0,q1,q3,Hq,e0,e1,e2⟩:=fO.at HC.out hbl hBw hlt
      have hk4:k<4:=by omega
      have eh:∀o,(wr.alloc o).cell? ⟨w.heap.size,16+k,none⟩=some (.bool (c.has k)):=fun o=>(HB.out.later (hBw.alloc hsz o)).has hk4
      have HL:Hid (lE c sh k=((q1 % 2 == sh) && !c.has k)):=by unfold Hid lE;rw[Hq.out];rfl
      have n1:(0:Int)≤(k:Int)∧(k:Int)<4:=by omega
      have HA:Hid (∀o,Below W.heap.size W (wr.alloc o)):=fun o=>hBw.alloc hsz o
      have HA':Hid (∀o,Below w.heap.size w (wr.alloc o)):=fun o=>HBw.out.alloc (by have:=HBw.out.size;omega) o
      cases t1:q1 % 2 == sh
      ·have HF:Hid (lE c sh k=false):=by unfold Hid;rw[HL.out,t1];rfl
       go_wp2_with (go_at_call 82;refine (gT _ _).mono ?_;rintro e w' ⟨rfl,rfl⟩)
       go_roundw
       case rel=>exact⟨k+1,by omega,by go_num,wF HNo.out HF.out,HA.out _⟩
       case measure=>simp[intOf];omega
      ·cases t2:c.has k
       ·have HF:Hid (lE c sh k=true):=by unfold Hid;rw[HL.out,t1,t2];rfl
        rw[t2] at eh
        go_wp2_with (go_at_call 82;refine (gT _ _).mono ?_;rintro e w' ⟨rfl,rfl⟩)
        go_ret
        exact⟨aI (IG hlt HF.out).symm,HA'.out _⟩
       ·have HF:Hid (lE c sh k=false):=by unfold Hid;rw[HL.out,t1,t2];rfl
        rw[t2] at eh
        go_wp2_with (go_at_call 82;refine (gT _ _).mono ?_;rintro e w' ⟨rfl,rfl⟩)
        go_roundw
        case rel=>exact⟨k+1,by omega,by go_num,wF HNo.out HF.out,HA.out _⟩
        case measure=>simp[intOf];omega
     ·go_wp2
      go_ret
      exact⟨aI (K7 HNo.out hlt hk).symm,HBw.out⟩
theorem GK {c:aF} {n:Nat} (hf:c.fixed=false):c.wants n=(!c.told n && aZ c.ops (ofL n)):=by
 unfold aF.wants
 rw[if_neg (by rw[hf];decide),Bool.and_comm]
theorem DP {c:aF} {n:Nat} (hf:c.fixed=true):c.wants n=(!c.known n || c.lacks (ofL n)):=by
 unfold aF.wants
 rw[if_pos hf]
theorem M5 (gr:Array Value) (c:aF) (n:Nat) (hn:n<6) (w:World) (h:cU w gr c) (h4:c.ops.length≤4):
  Calls Tryz.prog 97 #[.agg gr,.int .i64 n] w fun e w'=>e= .returned (.bool (c.wants n))∧Below w.heap.size w w':=by
 obtain⟨W,hW⟩:∃W,W=w.alloc (.cells gr 47):=⟨_,rfl⟩
 have hb:Below w.heap.size w W:=by rw[hW];exact (Below.refl _ _).alloc (Nat.le_refl _) _
 have hzW:W.heap.size=w.heap.size+1:=by rw[hW];exact aB _ _
 have hB:bE w.heap.size W gr c:=by rw[hW];exact bE.new h
 have HB:=hI9 hB
 have HW:=hI9 hW
 have q1:=hB.fixed
 have n1:(0:Int)≤(n:Int)∧(n:Int)<6:=by omega
 clear hW h
 cases t0:c.fixed
 ·rw[t0] at q1
  have HE:Hid (c.wants n=(!c.told n && aZ c.ops (ofL n))):=GK t0
  obtain⟨a2,c2,q2,hs2,hl2⟩:=hB.ops
  have q3:=hB.told hn
  clear hB
  go_enter Tryz.func97,Tryz.ntmps97
  go_upto_region 1 with fail
  rw[←HW.out]
  clear HW
  go_upto_region 2 with fail
  cases t1:c.told n
  ·have HF:Hid (c.wants n=aZ c.ops (ofL n)):=by unfold Hid;rw[HE.out,t1];rfl
   rw[t1] at q3
   go_region_held3 (fun w'=>w'.cell? ⟨w.heap.size,3+n,none⟩=some (.bool false)∧w'.cell? ⟨w.heap.size,2,none⟩=some (.slice a2 c.ops.length c2)) (first | exact⟨q3,q2⟩ | exact⟨k3,k2⟩ | assumption) (first
    | (go_at_call 122;refine (iS _ _).mono ?_;rintro e w' ⟨rfl,rfl⟩)
    | (go_at_call 121;refine (fG a2 c2 c.ops (ofL n) _ hs2.2.1 (hs2.later (Below.drew (Below.refl _ _))).1).mono ?_;rintro e w3 ⟨rfl,hb3⟩;have HB3:Hid (Below w.heap.size w w3):=hb.drew.trans (hb3.mono (show w.heap.size≤W.heap.size by omega));have k3:w3.cell? ⟨w.heap.size,3+n,none⟩=some (.bool false):=(by rw[hb3.cell (p:=⟨w.heap.size,3+n,none⟩) (show w.heap.size<W.heap.size by omega)];exact q3);have k2:w3.cell? ⟨w.heap.size,2,none⟩=some (.slice a2 c.ops.length c2):=(by rw[hb3.cell (p:=⟨w.heap.size,2,none⟩) (show w.heap.size<W.heap.size by omega)];exact q2);clear hb3)
    | fail)
   all_goals
    go_wp2
    go_ret
    exact⟨aI HF.out.symm,HB3.out⟩
  ·have HF:Hid (c.wants n=false):=by unfold Hid;rw[HE.out,t1];rfl
   rw[t1] at q3
   go_region
   all_goals
    go_wp2
    go_ret
    exact⟨aI HF.out.symm,hb.drew⟩
 ·rw[t0] at q1
  have HE:Hid (c.wants n=(!c.known n || c.lacks (ofL n))):=DP t0
  have q3:=hB.known hn
  clear hB
  go_enter Tryz.func97,Tryz.ntmps97
  go_upto_region 1 with fail
  rw[←HW.out]
  clear HW
  go_upto_region 3 with fail
  cases t1:c.known n
  ·have HF:Hid (c.wants n=true):=by unfold Hid;rw[HE.out,t1];rfl
   rw[t1] at q3
   go_region
   all_goals
    go_wp2
    go_ret
    exact⟨aI HF.out.symm,hb.drew⟩
  ·have HF:Hid (c.wants n=c.lacks (ofL n)):=by unfold Hid;rw[HE.out,t1];rfl
   rw[t1] at q3
   have rB:=HB.out.range
   have z1:=HB.out.case.len
   obtain⟨gl,hgl⟩:∃gl,gl=gr.toList:=⟨_,rfl⟩
   rw[←hgl] at rB z1
   have HLV:Hid (∀wx,wx=W.drew→Calls Tryz.prog 123 #[.agg gl.toArray,.int .i64 (ofL n)] wx fun e w'=>e= .returned (.bool (c.lacks (ofL n)))∧Hid (Below w.heap.size w w')∧(w'.cell? ⟨w.heap.size,9+n,none⟩=some (.bool true)∧w'.rangeAt w.heap.size 0 gl)):=by
    rintro wx rfl
    rw[hgl,Array.toArray_toList]
    refine (BN gr c (ofL n) _ (HB.out.later (Below.drew (Below.refl _ _))).case h4).mono ?_
    rintro e w3 ⟨rfl,hb3⟩
    have hb3':Below W.heap.size W w3:=(Below.drew (Below.refl _ _)).trans hb3
    refine⟨rfl,hb.trans (hb3'.mono (by omega)),?_,fun j v hv=>?_⟩
    ·rw[hb3'.cell (p:=⟨w.heap.size,9+n,none⟩) (show w.heap.size<W.heap.size by omega)]
     exact q3
    ·rw[hb3'.cell (p:=⟨w.heap.size,0+j,none⟩) (show w.heap.size<W.heap.size by omega)]
     rw[←hgl] at hv
     exact rB j v hv
   clear hgl
   refine wp_region_held_drew (S:=fun w'=>w'.cell? ⟨w.heap.size,9+n,none⟩=some (.bool true)∧w'.rangeAt w.heap.size 0 gl) (by kernel_rfl) ⟨q3,rB⟩ ?_
   intro hH
   refine tkH 0 20 (.int .i64 n) hH ?_
   simp only[Act.put,sA,sZ,sS]
   refine tkH 1 21 (.pointer (some ⟨w.heap.size,9,none⟩)) hH ?_
   simp only[Act.put,sA,sZ,sS]
   refine tkH 2 22 (.pointer (some ⟨w.heap.size,9+n,none⟩)) hH ?_
   simp only[Act.put,sA,sZ,sS]
   refine tkH 3 23 (.bool true) hH ?_ (hy:=Or.inl ⟨by rfl,fun _ hS=>by obtain⟨hS1,hS2⟩:=hS;go_simp⟩)
   simp only[Act.put,sA,sZ,sS]
   refine tkH 4 24 (.bool false) hH ?_
   simp only[Act.put,sA,sZ,sS]
   refine tkH 5 25 (.bool false) hH ?_
   simp only[Act.put,sA,sZ,sS]
   refine tkH 6 26 (.agg gl.toArray) hH ?_ (hy:=yieldsIf_load_mid (by rfl) _ _ rfl _ _ rfl gl _ (fun _ h=>h.2) Tryz.underlying47 rfl z1)
   simp only[Act.put,sA,sZ,sS]
   refine tkH 7 27 (.int .i64 n) hH ?_
   simp only[Act.put,sA,sZ,sS]
   refine wpAnyH_ready (rs:=[8]) (by kernel_rfl) (by simp) ?_
   refine AllReadyH.cons rfl (fun K hK=>?_) AllReadyH.nil
   go_simp
   refine (iS _ _).mono ?_
   rintro e w1 ⟨rfl,hw1⟩
   subst hw1
   go_wp2_with fail
   refine hK.out _ _ (hH) (fun hH2=>?_)
   clear hK K hH
   have hH:=hH2
   clear hH2
   refine wpAnyH_ready (rs:=[9]) (by kernel_rfl) (by simp) ?_
   refine AllReadyH.cons rfl (fun K hK=>?_) AllReadyH.nil
   go_simp
   refine (HLV.out _ rfl).mono ?_
   rintro e w3 ⟨rfl,HB3,hS3⟩
   go_wp2_with fail
   refine hK.out _ _ (hS3) (fun hH2=>?_)
   clear hK K hH
   have hH:=hH2
   clear hH2
   refine tkH 10 30 (.bool (c.lacks (ofL n))) hH ?_
   simp only[Act.put,sA,sZ,sS]
   refine tkH 11 4 (.bool (c.lacks (ofL n))) hH ?_
   simp only[Act.put,sA,sZ,sS]
   refine wpAnyH_done (by kernel_rfl) ?_ _
   go_wp2
   go_ret
   exact⟨aI HF.out.symm,HB3.out⟩
theorem ME:∀(css:List (List Value)) (i j:Nat),(∀k,k<css.length→(css.getD k []).length=7)→i<css.length→j<7→css.flatten[i*7+j]? =(css.getD i [])[j]?
 | [],i,j,_,hi,_=>by simp at hi
 | c::css,0,j,h,_,hj=>by
  have h0:c.length=7:=by have:=h 0 (by simp);simpa using this
  simp only[List.flatten_cons,Nat.zero_mul,Nat.zero_add,List.getD_cons_zero]
  rw[List.getElem?_append_left (by omega)]
 | c::css,i+1,j,h,hi,hj=>by
  have h0:c.length=7:=by have:=h 0 (by simp);simpa using this
  have ih:=ME css i j (fun k hk=>by have:=h (k+1) (by simp;omega);simpa using this) (by simp at hi;omega) hj
  simp only[List.flatten_cons,List.getD_cons_succ]
  rw[List.getElem?_append_right (by omega),←ih]
  congr 1
  omega
theorem aQ.at {B:Nat} {w:World} {a:Option Addr} {cap:Nat} {fs:List aC} (h:aQ B w (.slice a fs.length cap) fs) {i:Nat} (hi:i<fs.length):
  ∃g cs,a=some ⟨g,0,none⟩∧g<w.heap.size∧w.rangeAt g (i*7) cs∧cs.length=7∧bS w (.agg cs.toArray) fs[i]:=by
 obtain⟨css,h1,h2,h3⟩:=h
 rcases h2.2 with ⟨_,h0⟩ | ⟨g,cp,cur,hv,hB,hg,hc,hm,hcs,htk⟩
 ·omega
 ·simp only[Value.slice.injEq] at hv
  obtain⟨rfl,_,rfl⟩:=hv
  have hlt:g<w.heap.size:=(Array.getElem?_eq_some_iff.1 hg).1
  refine⟨g,css.getD i [],rfl,hlt,fun j u hu=>?_,(h3 i hi).1,(h3 i hi).2.v⟩
  have hj:j<7:=by
   have:=(List.getElem?_eq_some_iff.1 hu).1
   rw[(h3 i hi).1] at this
   exact this
  have hf:=ME css i j (fun k hk=>(h3 k (by omega)).1) (by omega) hj
  rw[hu,←htk,List.getElem?_take_of_lt (by omega)] at hf
  rw[cell_of_row w g (i*7+j) cur _ _ hg]
  simpa using hf
theorem aQ.form {B:Nat} {w:World} {v:Value} {fs:List aC} (h:aQ B w v fs):∃a cap,v= .slice a fs.length cap:=by
 obtain⟨css,_,h2,_⟩:=h
 obtain⟨a,cap,e,_⟩:=bG h2
 exact⟨a,cap,e⟩
theorem aQ.len {B:Nat} {w:World} {v:Value} {fs:List aC} (h:aQ B w v fs):fs.length≤maxLen:=by
 obtain⟨css,_,h2,_⟩:=h
 rcases h2.2 with ⟨_,h0⟩ | ⟨g,cp,cur,_,_,_,hc,hm,_⟩
 ·omega
 ·omega
def gY (ok:Nat→Prop) (w:World) (v:Value) (f:aC):Prop:=∃a3 c3 a4 c4 a5 c5 a6 c6,
 v= .agg #[.int .i64 f.kind,.int .i64 f.node,.int .i64 f.id,.slice a3 f.ops.length c3,.slice a4 f.deps.length c4,.slice a5 f.ats.length c5,.slice a6 f.vals.length c6]∧
 (bZ w a3 c3 f.ops∧eW ok w a3 f.ops)∧(bP w a4 c4 f.deps∧cX ok w a4 f.deps)∧(bP w a5 c5 f.ats∧cX ok w a5 f.ats)∧(bP w a6 c6 f.vals∧cX ok w a6 f.vals)
theorem gY.g {B:Nat} {w:World} {v:Value} {f:aC} (h:gY (B≤·) w v f):lW B w v f:=h
theorem gY.same {ok:Nat→Prop} {w w':World} {v:Value} {f:aC} (h:gY ok w v f) (hb:bN ok w w'):gY ok w' v f:=by
 obtain⟨a3,c3,a4,c4,a5,c5,a6,c6,e,h3,h4,h5,h6⟩:=h
 exact⟨a3,c3,a4,c4,a5,c5,a6,c6,e,BY h3 hb,nN h4 hb,nN h5 hb,nN h6 hb⟩
theorem gY.mono {ok ok':Nat→Prop} {w:World} {v:Value} {f:aC} (h:gY ok w v f) (hk:∀k,k<w.heap.size→ok k→ok' k):gY ok' w v f:=by
 obtain⟨a3,c3,a4,c4,a5,c5,a6,c6,e,h3,h4,h5,h6⟩:=h
 exact⟨a3,c3,a4,c4,a5,c5,a6,c6,e,⟨h3.1,h3.2.mono hk⟩,⟨h4.1,h4.2.mono hk⟩,⟨h5.1,h5.2.mono hk⟩,⟨h6.1,h6.2.mono hk⟩⟩
structure FrC (ok:Nat→Prop) (base:Nat) (w:World) (v:Value) (fs:List aC) (css:List (List Value)):Prop where
 len:css.length=fs.length
 own:w.ownsRow base 123 7 v fs.length css.flatten
 each:∀i (h:i<fs.length),(css.getD i []).length=7∧gY (fun b=>ok b∧v.ownBlock≠some b) w (.agg (css.getD i []).toArray) fs[i]
theorem FrC.nil (ok:Nat→Prop) (base:Nat) (w:World):FrC ok base w (.slice none 0 0) [] []:=⟨rfl,World.ownsRow_nil _ _ _ _,fun _ h=>by simp at h⟩
theorem FrC.v {ok:Nat→Prop} {base B:Nat} {w:World} {v:Value} {fs:List aC} {css:List (List Value)} (h:FrC ok base w v fs css) (hB:B≤base) (hok:∀b,ok b→B≤b):aQ B w v fs:=
 ⟨css,h.len,eG h.own hB,fun i hi=>⟨(h.each i hi).1,((h.each i hi).2.mono (fun b _ hb=>hok b hb.1)).g⟩⟩
theorem FrC.later {ok:Nat→Prop} {base:Nat} {w w':World} {v:Value} {fs:List aC} {css:List (List Value)} (h:FrC ok base w v fs css) (hb:Below w.heap.size w w'):FrC ok base w' v fs css:=
 ⟨h.len,dP h.own (fun k hk=>hb.block k (World.ownsRow.lt h.own k hk).2),fun i hi=>⟨(h.each i hi).1,(h.each i hi).2.same (bN.of_size hb)⟩⟩
theorem FrC.snoc {ok:Nat→Prop} {base:Nat} {x Q:World} {v v':Value} {fs:List aC} {css:List (List Value)} (h:FrC ok base x v fs css) {cs:List Value} {f:aC} (hl:cs.length=7)
  (hf:gY (fun b=>ok b∧v.ownBlock≠some b) x (.agg cs.toArray) f) (hown:Q.ownsRow base 123 7 v' (fs.length+1) (css.flatten++cs)) (hg:x.grownBy Q v.ownBlock)
  (hat:v'.ownBlock=v.ownBlock∨v'.ownBlock=some x.heap.size):FrC ok base Q v' (fs++[f]) (css++[cs]):=by
 have step:∀{u:Value} {g:aC},gY (fun b=>ok b∧v.ownBlock≠some b) x u g→gY (fun b=>ok b∧v'.ownBlock≠some b) Q u g:=by
  intro u g hu
  have h1:gY (fun b=>(ok b∧v.ownBlock≠some b)∧b<x.heap.size) x u g:=hu.mono (fun b hb h=>⟨h,hb⟩)
  have h2:=h1.same (w':=Q) (fun b hb hk=>hg.block b hb (fun e=>hk.1.2 e.symm))
  refine h2.mono (fun b _ hk=>⟨hk.1.1,fun e=>?_⟩)
  rcases hat with hat | hat
  ·exact hk.1.2 (by rw[←hat];exact e)
  ·rw[hat] at e
   have hb:=hk.2
   cases e
   omega
 refine⟨by simp[h.len],by simpa using hown,fun i hi=>?_⟩
 by_cases hlt:i<fs.length
 ·have e1:(css++[cs]).getD i []=css.getD i []:=by simp[List.getD,List.getElem?_append_left (show i<css.length by rw[h.len];exact hlt)]
  rw[e1,List.getElem_append_left hlt]
  exact⟨(h.each i hlt).1,step (h.each i hlt).2⟩
 ·have hie:i=fs.length:=by simp at hi;omega
  subst hie
  have e1:(css++[cs]).getD fs.length []=cs:=by rw[←h.len];simp[List.getD]
  rw[e1]
  refine⟨hl,?_⟩
  rw[List.getElem_append_right (Nat.le_refl _)]
  simp only[Nat.sub_self,List.getElem_cons_zero]
  exact step hf
theorem vW (k n i:Int) (a3:Option Addr) (l3 c3:Nat) (a4:Option Addr) (l4 c4:Nat) (a5:Option Addr) (l5 c5:Nat) (a6:Option Addr) (l6 c6:Nat):(#[Value.int .i64 k,.int .i64 n,.int .i64 i,.slice a3 l3 c3,.slice a4 l4 c4,.slice a5 l5 c5,.slice a6 l6 c6]:Array Value).all (·.oneCell')=true:=by simp[Value.oneCell']
theorem IX (gr:Array Value) (c:aF) (id:Int) (n:Nat) (w:World) (h:cU w gr c):
  Calls Tryz.prog 98 #[.agg gr,.int .i64 n,.int .i64 id] w fun e w'=>∃cs:List Value,e= .returned (.agg cs.toArray)∧gY (w.heap.size≤·) w' (.agg cs.toArray) (c.msg id n)∧Below w.heap.size w w':=by
 obtain⟨W,hW⟩:∃W,W=(w.alloc (.cells gr 47)).alloc (.cells #[.int .i64 0,.int .i64 0,.int .i64 0,.slice none 0 0,.slice none 0 0,.slice none 0 0,.slice none 0 0] 123):=⟨_,rfl⟩
 have hb:Below w.heap.size w W:=by rw[hW];exact ((Below.refl _ _).alloc (Nat.le_refl _) _).alloc (by rw[aB];omega) _
 have hzW:W.heap.size=w.heap.size+2:=by rw[hW,aB,aB]
 have hB:bE w.heap.size W gr c:=by rw[hW];exact (bE.new h).later ((Below.refl _ _).alloc (Nat.le_refl _) _)
 have hR:W.heap[w.heap.size+1]? =some (.cells #[.int .i64 0,.int .i64 0,.int .i64 0,.slice none 0 0,.slice none 0 0,.slice none 0 0,.slice none 0 0] 123 (0,0)):=by rw[hW];exact (cT w _ _).2
 have HB:=hI9 hB
 have HW:Hid (W=(w.alloc (.cells gr 47)).alloc (.cells #[.int .i64 0,.int .i64 0,.int .i64 0,.slice none 0 0,.slice none 0 0,.slice none 0 0,.slice none 0 0] 123)):=hW
 obtain⟨a2,c2,q2,hs2,hl2⟩:=hB.ops
 clear hW hB h
 go_enter Tryz.func98,Tryz.ntmps98
 go_upto_region 1 with fail
 rw[←HW.out]
 clear HW
 go_wp2_with fail
 refine (gL a2 c2 c.ops W hs2 hl2).mono ?_
 rintro e w1 ⟨v,rfl,hown,_,hb1⟩
 obtain⟨ao,co,rfl,_,_⟩:=bG hown
 have hlo:w1.heap.size<(w1.alloc (.cells #[.int .i64 1,.int .i64 n,.int .i64 id,.slice ao c.ops.length co,.slice none 0 0,.slice none 0 0,.slice none 0 0] 123)).heap.size:=by rw[aB];omega
 have hz1:=hb1.size
 obtain⟨X,hX⟩:∃X,X=w1.alloc (.cells #[.int .i64 1,.int .i64 n,.int .i64 id,.slice ao c.ops.length co,.slice none 0 0,.slice none 0 0,.slice none 0 0] 123):=⟨_,rfl⟩
 have HX:=hI9 hX
 have hzX:X.heap.size=w1.heap.size+1:=by rw[hX];exact aB _ _
 have hbX:Below W.heap.size W X:=by rw[hX];exact hb1.alloc hz1 _
 have hX1:Below w1.heap.size w1 X:=by rw[hX];exact (Below.refl _ _).alloc (Nat.le_refl _) _
 have r1:X.heap[w1.heap.size]? =some (.cells #[.int .i64 1,.int .i64 n,.int .i64 id,.slice ao c.ops.length co,.slice none 0 0,.slice none 0 0,.slice none 0 0] 123 (0,0)):=by rw[hX];exact aJ _ _
 have rR:X.heap[w.heap.size+1]? =some (.cells #[.int .i64 0,.int .i64 0,.int .i64 0,.slice none 0 0,.slice none 0 0,.slice none 0 0,.slice none 0 0] 123 (0,0)):=by rw[hbX.block _ (by omega)];exact hR
 have HBX:Hid (bE w.heap.size X gr c):=HB.out.later hbX
 have HO:Hid (bZ X ao co c.ops∧eW (w.heap.size≤·) X ao c.ops):=by
  have h1:=dP hown (w':=X) (fun k hk=>hX1.block k (World.ownsRow.lt hown k hk).2)
  have h2:=(IsO.of_owns h1 hl2).mono (ok':=(w.heap.size≤·)) (fun b _ hb=>by have:=hb.1;show w.heap.size≤b;omega)
  obtain⟨a',c',e,h3,_⟩:=h2
  cases e
  exact⟨bZ.of_owns h1,h3⟩
 have HO1:Hid (eW (fun b=>W.heap.size≤b) w1 ao c.ops):=by
  obtain⟨a',c',e,h3,_⟩:=(IsO.of_owns hown hl2).mono (ok':=(W.heap.size≤·)) (fun b _ hb=>hb.1)
  cases e
  exact h3
 have HO2:Hid (eW (fun b=>W.heap.size≤b) X ao c.ops):=HO1.out.later (bN.of_size hX1)
 have q1:=HBX.out.fixed
 clear hlo hX hR q2 hs2 hown
 go_upto_region 2 with fail
 rw[←HX.out]
 clear HX
 cases t0:c.fixed
 ·have HM:Hid (c.msg id n=⟨1,n,id,c.ops,[],[],[]⟩):=by unfold Hid aF.msg;rw[t0];rfl
  rw[t0] at q1
  go_wp2_with (first
   | ((with_reducible apply cJ r1);(· rfl);(· exact eI);(· rfl);simp only[Act.put,sA,sZ,sS])
   | (refine wpList_store_row rfl 123 _ _ rfl (w.heap.size+1) #[.int .i64 1,.int .i64 n,.int .i64 id,.slice ao c.ops.length co,.slice none 0 0,.slice none 0 0,.slice none 0 0] rfl rfl 123 _ rR Tryz.infoFrame7 rfl (vW _ _ _ _ _ _ _ _ _ _ _ _ _ _ _) ?_)
   | fail)
  refine bodyPost_ret (v:= .agg #[.int .i64 1,.int .i64 n,.int .i64 id,.slice ao c.ops.length co,.slice none 0 0,.slice none 0 0,.slice none 0 0]) (results_cell_row Tryz.results98 _ _ (w.heap.size+1) 123 #[.int .i64 1,.int .i64 n,.int .i64 id,.slice ao c.ops.length co,.slice none 0 0,.slice none 0 0,.slice none 0 0] (0,0) _ rfl (aH rR) Tryz.underlying123 rfl Tryz.infoFrame7) rfl ⟨[.int .i64 1,.int .i64 n,.int .i64 id,.slice ao c.ops.length co,.slice none 0 0,.slice none 0 0,.slice none 0 0],rfl,?_,aU (hb.trans (hbX.mono (by omega))) (by omega) _⟩
  rw[HM.out]
  refine⟨_,_,_,_,_,_,_,_,rfl,?_,iL _ _,iL _ _,iL _ _⟩
  have h2:eW (fun b=>W.heap.size≤b) X ao c.ops:=HO2.out
  have h3:=h2.later (w':=X.setRow (w.heap.size+1) #[.int .i64 1,.int .i64 n,.int .i64 id,.slice ao c.ops.length co,.slice none 0 0,.slice none 0 0,.slice none 0 0]) (fun b _ hb=>bO _ _ (by omega))
  exact⟨⟨h3.at,HO.out.1.2⟩,h3.mono (fun b _ hb=>by show w.heap.size≤b;omega)⟩
 ·have HM:Hid (c.msg id n=⟨3,n,id,c.ops,c.deps,[],[]⟩):=by unfold Hid aF.msg;rw[t0];rfl
  rw[t0] at q1
  obtain⟨a5,c5,q5,hs5,hl5⟩:=HBX.out.deps
  go_wp2_with fail
  refine (c7 a5 c5 c.deps X hs5 hl5).mono ?_
  rintro e w2 ⟨v,rfl,hown5,_,hb2⟩
  obtain⟨ad,cd,rfl,_,_⟩:=bG hown5
  have hz2:=hb2.size
  have r2:w2.heap[w1.heap.size]? =some (.cells #[.int .i64 1,.int .i64 n,.int .i64 id,.slice ao c.ops.length co,.slice none 0 0,.slice none 0 0,.slice none 0 0] 123 (0,0)):=by rw[hb2.block _ (by omega)];exact r1
  have k0:w2.cell? ⟨w1.heap.size,0,none⟩=some (.int .i64 1):=by rw[cell_of_row _ _ _ _ _ _ r2];rfl
  have k4:w2.cell? ⟨w1.heap.size,4,none⟩=some (.slice none 0 0):=by rw[cell_of_row _ _ _ _ _ _ r2];rfl
  have f0:w2.frozen? ⟨w1.heap.size,0,none⟩=false:=frozen_of_row _ _ _ _ _ r2
  have f4:w2.frozen? ⟨w1.heap.size,4,none⟩=false:=frozen_of_row _ _ _ _ _ r2
  obtain⟨Y,hY⟩:∃Y,Y=(w2.setCell ⟨w1.heap.size,0,none⟩ (.int .i64 3)).setCell ⟨w1.heap.size,4,none⟩ (.slice ad c.deps.length cd):=⟨_,rfl⟩
  have hother:∀k,k≠w1.heap.size→Y.heap[k]? =w2.heap[k]? :=fun k hk=>by rw[hY,Below.heap_setCell _ _ _ _ hk,Below.heap_setCell _ _ _ _ hk]
  have hzY:Y.heap.size=w2.heap.size:=by rw[hY];simp[World.setCell]
  have hYw:Below w.heap.size w Y:=by
   have h1:=(hb.trans (hbX.mono (by omega))).trans (hb2.mono (by omega))
   rw[hY]
   exact (h1.setCell (by show w.heap.size≤w1.heap.size;omega) _).setCell (by show w.heap.size≤w1.heap.size;omega) _
  have rY:Y.heap[w1.heap.size]? =some (.cells #[.int .i64 3,.int .i64 n,.int .i64 id,.slice ao c.ops.length co,.slice ad c.deps.length cd,.slice none 0 0,.slice none 0 0] 123 (0,0)):=by
   rw[hY,heap_setCell_same _ _ _ _ _ _ (heap_setCell_same _ _ _ _ _ _ r2)]
   rfl
  have rRY:Y.heap[w.heap.size+1]? =some (.cells #[.int .i64 0,.int .i64 0,.int .i64 0,.slice none 0 0,.slice none 0 0,.slice none 0 0,.slice none 0 0] 123 (0,0)):=by rw[hother _ (by omega),hb2.block _ (by omega)];exact rR
  have HY:Hid (Y=(w2.setCell ⟨w1.heap.size,0,none⟩ (.int .i64 3)).setCell ⟨w1.heap.size,4,none⟩ (.slice ad c.deps.length cd)):=hY
  have HOY:Hid (eW (fun b=>W.heap.size≤b∧b≠w1.heap.size) Y ao c.ops):=by
   have h2:eW (fun b=>W.heap.size≤b) w1 ao c.ops:=HO1.out
   have h3:eW (fun b=>W.heap.size≤b∧b≠w1.heap.size∧b<w1.heap.size) w1 ao c.ops:=h2.mono (fun b hb h=>⟨h,by omega,hb⟩)
   exact (h3.later (w':=Y) (fun b _ hk=>by rw[hother _ hk.2.1,hb2.block _ (by omega),hX1.block _ hk.2.2])).mono (fun b _ hk=>⟨hk.1,hk.2.1⟩)
  have HDY:Hid (cX (fun b=>X.heap.size≤b) Y ad c.deps):=by
   have h1:=dP hown5 (w':=Y) (fun k hk=>hother k (by have:=(World.ownsRow.lt hown5 k hk).1;omega))
   obtain⟨a',c',e,h3,_⟩:=(IsI.of_owns h1 hl5).mono (ok':=(X.heap.size≤·)) (fun b _ hb=>hb.1)
   cases e
   exact h3
  have HDS:Hid (bP w2 ad cd c.deps):=bP.of_owns hown5
  clear hY hown5
  go_upto_region 4 with fail
  rw[←HY.out]
  clear HY
  go_wp2_with (first
   | ((with_reducible apply cJ rY);(· rfl);(· exact eI);(· rfl);simp only[Act.put,sA,sZ,sS])
   | (refine wpList_store_row rfl 123 _ _ rfl (w.heap.size+1) #[.int .i64 3,.int .i64 n,.int .i64 id,.slice ao c.ops.length co,.slice ad c.deps.length cd,.slice none 0 0,.slice none 0 0] rfl rfl 123 _ rRY Tryz.infoFrame7 rfl (vW _ _ _ _ _ _ _ _ _ _ _ _ _ _ _) ?_)
   | fail)
  refine bodyPost_ret (v:= .agg #[.int .i64 3,.int .i64 n,.int .i64 id,.slice ao c.ops.length co,.slice ad c.deps.length cd,.slice none 0 0,.slice none 0 0]) (results_cell_row Tryz.results98 _ _ (w.heap.size+1) 123 #[.int .i64 3,.int .i64 n,.int .i64 id,.slice ao c.ops.length co,.slice ad c.deps.length cd,.slice none 0 0,.slice none 0 0] (0,0) _ rfl (aH rRY) Tryz.underlying123 rfl Tryz.infoFrame7) rfl ⟨[.int .i64 3,.int .i64 n,.int .i64 id,.slice ao c.ops.length co,.slice ad c.deps.length cd,.slice none 0 0,.slice none 0 0],rfl,?_,aU hYw (by omega) _⟩
  rw[HM.out]
  refine⟨_,_,_,_,_,_,_,_,rfl,?_,?_,iL _ _,iL _ _⟩
  ·have h3:=HOY.out.later (w':=Y.setRow (w.heap.size+1) #[.int .i64 3,.int .i64 n,.int .i64 id,.slice ao c.ops.length co,.slice ad c.deps.length cd,.slice none 0 0,.slice none 0 0]) (fun b _ hb=>bO _ _ (by omega))
   exact⟨⟨h3.at,HO.out.1.2⟩,h3.mono (fun b _ hb=>by show w.heap.size≤b;omega)⟩
  ·have h3:=HDY.out.later (w':=Y.setRow (w.heap.size+1) #[.int .i64 3,.int .i64 n,.int .i64 id,.slice ao c.ops.length co,.slice ad c.deps.length cd,.slice none 0 0,.slice none 0 0]) (fun b _ hb=>bO _ _ (by omega))
   exact⟨⟨h3.at,HDS.out.2⟩,h3.mono (fun b _ hb=>by show w.heap.size≤b;omega)⟩
theorem FrC.len4 {ok:Nat→Prop} {base:Nat} {w:World} {v:Value} {fs:List aC} {css:List (List Value)} (h:FrC ok base w v fs css) {b:Nat} (hb:w.heap.size≤b):v.ownBlock≠some b:=fun e=>by
 have:=(World.ownsRow.lt h.own b e).2
 omega
theorem xN (gr:Array Value) (c:aF) (id:Int) (w:World) (h:cU w gr c):
  Calls Tryz.prog 77 #[.agg gr,.int .i64 id] w fun e w'=>∃v,e= .returned v∧aQ w.heap.size w' v (bU c id)∧Below w.heap.size w w':=by
 obtain⟨W,hW⟩:∃W,W=w.alloc (.cells gr 47):=⟨_,rfl⟩
 have hb:Below w.heap.size w W:=by rw[hW];exact (Below.refl _ _).alloc (Nat.le_refl _) _
 have hzW:W.heap.size=w.heap.size+1:=by rw[hW];exact aB _ _
 have hB:bE w.heap.size W gr c:=by rw[hW];exact bE.new h
 have rB:=hB.row
 have tB:=hB.case.row
 have HB:=hI9 hB
 have HW:=hI9 hW
 clear hW hB h
 go_enter Tryz.func77,Tryz.ntmps77
 go_upto_region 1 with fail
 rw[←HW.out]
 clear HW
 go_wp2_with (first
  | ((with_reducible apply cJ rB);(· rfl);(· exact tB);(· rfl);simp only[Act.put,sA,sZ,sS])
  | fail)
 refine (wK gr c id W HB.out.case).mono ?_
 rintro e w1 ⟨rfl,hb1⟩
 have hbw1:=hb.trans (hb1.mono hb.size)
 have HB1:Hid (bE w.heap.size w1 gr c):=HB.out.later hb1
 have hz1:=hb1.size
 clear rB
 cases t1:dF c id
 ·have HE:Hid (bU c id=[]):=AG (Or.inl t1)
  go_wp2
  go_ret
  exact⟨_,rfl,by rw[HE.out];exact aQ.nil _ _,hbw1⟩
 have HT1:Hid (dF c id=true):=t1
 clear t1
 go_wp2_with fail
 refine (tQ id w1).mono ?_
 rintro e w2 ⟨rfl,hw⟩
 subst hw
 by_cases t2:0≤id∧id<32
 rotate_left
 ·have HE:Hid (bU c id=[]):=AG (Or.inr (by omega))
  have d2:kM id=false:=decide_eq_false t2
  go_wp2
  go_ret
  exact⟨_,rfl,by rw[HE.out];exact aQ.nil _ _,hbw1⟩
 have HE:Hid (bU c id=c.sends id 6):=GP HT1.out t2.1 t2.2
 have d2:kM id=true:=decide_eq_true t2
 have h4:c.ops.length≤4:=by
  have:=HT1.out
  unfold dF at this
  simp only[Bool.and_eq_true] at this
  exact (rQ this.1.2 this.1.1).2
 have HBB:Hid (∀wx,Below w2.heap.size w2 wx→bE w.heap.size wx gr c):=fun wx hx=>HB1.out.later hx
 have hzb:w.heap.size<w2.heap.size:=by omega
 have HbW:Hid (Below w.heap.size w w2):=hbw1
 clear t2 HB1 hb1 hbw1 hb HB
 go_wp2
 go_loopw [5,16] (fun l i wr=>∃(k:Nat) (css:List (List Value)),k≤6∧i= .int .i64 k∧FrC (w2.heap.size≤·) w2.heap.size wr l (c.sends id k) css∧Below w2.heap.size w2 wr) (fun _ i _=>6-(intOf i).toNat)
 case atStart=>exact⟨0,[],by omega,rfl,FrC.nil _ _ _,Below.refl _ _⟩
 case round=>
  obtain⟨k,css,hk,rfl,hF,hBw⟩:=hrel
  have hsz:=hBw.size
  by_cases hlt:k<6
  ·have hbx:=HBB.out wr hBw
   have rB:=hbx.row
   have HX:Hid (bE w.heap.size wr gr c):=hbx
   have HF:Hid (FrC (w2.heap.size≤·) w2.heap.size wr u5 (c.sends id k) css):=hF
   have HBw:Hid (Below w2.heap.size w2 wr):=hBw
   have hkk:(k:Int)<6:=by omega
   clear hbx hF hBw
   go_wp2_with (first
    | ((with_reducible apply cJ rB);(· rfl);(· exact tB);(· rfl);simp only[Act.put,sA,sZ,sS])
    | fail)
   refine (M5 gr c k hlt wr HX.out.case h4).mono ?_
   rintro e w3 ⟨rfl,hb3⟩
   have HF3:Hid (FrC (w2.heap.size≤·) w2.heap.size w3 u5 (c.sends id k) css):=HF.out.later hb3
   have HX3:Hid (bE w.heap.size w3 gr c):=HX.out.later hb3
   have HB3:Hid (Below w2.heap.size w2 w3):=HBw.out.trans (hb3.mono hsz)
   have hz3:=hb3.size
   clear hb3 rB HF HX HBw
   cases t3:c.wants k
   ·have HS:Hid (c.sends id (k+1)=c.sends id k):=by unfold Hid;rw[rK,t3];simp
    go_wp2
    go_roundw
    case rel=>exact⟨k+1,css,by omega,by go_num,by rw[HS.out];exact HF3.out,HB3.out⟩
    case measure=>simp[intOf];omega
   ·have HS:Hid (c.sends id (k+1)=c.sends id k++[c.msg id k]):=by unfold Hid;rw[rK,t3];simp
    have rB3:=HX3.out.row
    go_wp2_with (first
     | ((with_reducible apply cJ rB3);(· rfl);(· exact tB);(· rfl);simp only[Act.put,sA,sZ,sS])
     | fail)
    refine (IX gr c id k w3 HX3.out.case).mono ?_
    rintro e w4 ⟨cs,rfl,hf,hb4⟩
    obtain⟨g,hg⟩:∃g,g=c.msg id k:=⟨_,rfl⟩
    rw[←hg] at hf
    have HS2:Hid (c.sends id (k+1)=c.sends id k++[g]):=by unfold Hid;rw[hg];exact HS.out
    have HF4:Hid (FrC (w2.heap.size≤·) w2.heap.size w4 u5 (c.sends id k) css):=HF3.out.later hb4
    have HB4:Hid (Below w2.heap.size w2 w4):=HB3.out.trans (hb4.mono (by omega))
    have hz4:=hb4.size
    have HG:Hid (gY (fun b=>w2.heap.size≤b∧u5.ownBlock≠some b) w4 (.agg cs.toArray) g):=hf.mono (fun b _ hb=>⟨by show w2.heap.size≤b;omega,HF3.out.len4 hb⟩)
    obtain⟨a3,c3,a4,c4,a5,c5,a6,c6,ecs,_⟩:=hf
    have ecs:cs.toArray=#[.int .i64 g.kind,.int .i64 g.node,.int .i64 g.id,.slice a3 g.ops.length c3,.slice a4 g.deps.length c4,.slice a5 g.ats.length c5,.slice a6 g.vals.length c6]:=by simpa using ecs
    rw[ecs] at HG ⊢
    have HOW:Hid ((w4.alloc (.cells #[.int .i64 g.kind,.int .i64 g.node,.int .i64 g.id,.slice a3 g.ops.length c3,.slice a4 g.deps.length c4,.slice a5 g.ats.length c5,.slice a6 g.vals.length c6] 123)).ownsRow w2.heap.size 123 7 u5 (c.sends id k).length css.flatten):=HF4.out.own.alloc _
    have hl6:(c.sends id k).length≤6:=by have:=zE c id k;omega
    clear hb4 hg HS rB3 HF3 HX3 HB3 ecs
    obtain⟨i0,hi,iz0,iz1,iz2⟩:=info_parts Tryz.infoFrameZ
    go_wp2_with (first
     | (at_builtin;refine wpList_append_own_at _ rfl _ _ 115 rfl w2.heap.size 123 i0 _ 7 120 Tryz.underlying115 hi iz0 iz1 iz2 rfl (by decide) _ _ _ rfl HOW.out ⟨w4.heap.size,0,none⟩ 1 1 [.int .i64 g.kind,.int .i64 g.node,.int .i64 g.id,.slice a3 g.ops.length c3,.slice a4 g.deps.length c4,.slice a5 g.ats.length c5,.slice a6 g.vals.length c6] rfl rfl (World.news_of_block (cs:=#[.int .i64 g.kind,.int .i64 g.node,.int .i64 g.id,.slice a3 g.ops.length c3,.slice a4 g.deps.length c4,.slice a5 g.ats.length c5,.slice a6 g.vals.length c6]) (t:=123) (fr:=(0,0)) (aJ w4 _)) ?c2 ?c3 ?c4 ?c5 ?_)
     | go_in)
    case c2=>
     intro u hu
     simp at hu
     rcases hu with rfl | rfl | rfl | rfl | rfl | rfl | rfl<;>rfl
    case c3=>unfold maxLen;omega
    case c4=>omega
    case c5=>rw[aB];omega
    ·intro v' Q hown' hgrow _ hat
     have hbA:Below w4.heap.size w4 (w4.alloc (.cells #[.int .i64 g.kind,.int .i64 g.node,.int .i64 g.id,.slice a3 g.ops.length c3,.slice a4 g.deps.length c4,.slice a5 g.ats.length c5,.slice a6 g.vals.length c6] 123)):=(Below.refl _ _).alloc (Nat.le_refl _) _
     have HFQ:Hid (FrC (w2.heap.size≤·) w2.heap.size Q v' (c.sends id k++[g]) (css++[[.int .i64 g.kind,.int .i64 g.node,.int .i64 g.id,.slice a3 g.ops.length c3,.slice a4 g.deps.length c4,.slice a5 g.ats.length c5,.slice a6 g.vals.length c6]])):=(HF4.out.later hbA).snoc rfl (HG.out.same (bN.of_size hbA)) hown' hgrow (by rw[aB];exact hat)
     have HBQ:Hid (Below w2.heap.size w2 Q):=(HB4.out.trans (hbA.mono (by omega))).grown hgrow (by rw[aB];omega) (fun b hb=>(World.ownsRow.lt HF4.out.own b hb).1)
     clear hown' hgrow hat hbA HOW hi iz0 iz1 iz2
     go_wp2
     go_roundw
     case rel=>exact⟨k+1,_,by omega,by go_num,by rw[HS2.out];exact HFQ.out,HBQ.out⟩
     case measure=>simp[intOf];omega
  ·have hk6:k=6:=by omega
   subst hk6
   have HF:Hid (FrC (w2.heap.size≤·) w2.heap.size wr u5 (c.sends id 6) css):=hF
   have HBw:Hid (Below w.heap.size w wr):=HbW.out.trans (hBw.mono (by omega))
   clear hF hBw
   go_wp2
   go_ret
   exact⟨_,rfl,by rw[HE.out];exact HF.out.v (by omega) (fun b hb=>by have:w2.heap.size≤b:=hb;omega),HBw.out⟩
end Go.Proofs.YtkoefoccbjhoiacGreat
