/-
squeezed by tools/squeeze.py from: CluA CluJ CluK CluP CluQ CluF CluR CluB TRefM CluC CMem QMem NEq CEq PostM
-/
import Derived.Test.YtkoefoccbjhoiacGreatTopb10
import Derived.Test.YtkoefoccbjhoiacGreatTopb4
import Derived.Test.YtkoefoccbjhoiacGreatTopb3
import Derived.Test.YtkoefoccbjhoiacGreatTopb5
set_option linter.unusedVariables false
set_option linter.unusedSimpArgs false
set_option maxRecDepth 100000
set_option maxHeartbeats 16000000
namespace Go.Proofs.YtkoefoccbjhoiacGreat
open Go.RowKit
structure fZ where
 kind:Int
 n:Int
 m:Int
 ops:List OpL
structure lC where
 code:Int
 n:Int
 vals:List Int
def mX:Nat→List UInt8→List (List UInt8)
 | n+1,a::b::r=>if 0<a.toNat*256+b.toNat∧a.toNat*256+b.toNat≤400∧a.toNat*256+b.toNat≤r.length then r.take (a.toNat*256+b.toNat)::mX n (r.drop (a.toNat*256+b.toNat)) else []
 | _,_=>[]
theorem uM:∀(n:Nat) (l:List UInt8),l.length≤n→∃t,(∀s∈mX n l,iH s)∧kG t∧l=cS (mX n l)++t
 | n,[],_=>⟨[],by cases n<;>simp[mX],vB (by simp),by cases n<;>simp[mX,nI]⟩
 | n,[a],_=>⟨[a],by cases n<;>simp[mX],vB (by simp),by cases n<;>simp[mX,nI]⟩
 | 0,a::b::r,h=>by simp at h
 | n+1,a::b::r,h=>by
  have h:r.length+1+1≤n+1:=h
  unfold mX
  split
  ·rename_i hc
   have hl:(r.take (a.toNat*256+b.toNat)).length=a.toNat*256+b.toNat:=by rw[List.length_take];omega
   obtain⟨t,h1,h2,h3⟩:=uM n (r.drop (a.toNat*256+b.toNat)) (by rw[List.length_drop];omega)
   refine⟨t,fun s hs=>?_,h2,?_⟩
   ·rcases List.mem_cons.1 hs with e | e
    ·rw[e];exact⟨by omega,by omega⟩
    ·exact h1 s e
   ·rw[lI,List.append_assoc,←h3]
    unfold rc
    rw[MF hl]
    simp
  ·rename_i hc
   refine⟨a::b::r,by simp,fun s t hs e=>?_,by rw[nI];rfl⟩
   obtain⟨a',b',e1,e2⟩:=qA s hs.2
   unfold rc at e
   rw[e1] at e
   simp only[List.cons_append,List.nil_append,List.cons.injEq] at e
   obtain⟨rfl,rfl,e⟩:=e
   have:=congrArg List.length e
   rw[List.length_append] at this
   exact hc ⟨by have:=hs.1;omega,by have:=hs.2;omega,by omega⟩
def qD (l:List UInt8):List (List UInt8):=mX l.length l
theorem nR (l:List UInt8):∃t,(∀s∈qD l,iH s)∧kG t∧l=cS (qD l)++t:=uM l.length l (Nat.le_refl _)
def kO:aK:=⟨fun _=>true,fun _=>dU,fun _=>[],fun _=>none,fun _=>cF,0,[]⟩
def aK.bring (c:aK) (t:List UInt8):aK × lC:=
 if (eM t).kind=1∨(eM t).kind=3 then ((come c (eM t)).1,if (come c (eM t)).2=0 then ⟨0,(eM t).id,[]⟩ else ⟨(come c (eM t)).2,0,[]⟩)
 else ((c.answer (eM t)).1,if (c.answer (eM t)).2=0 then ⟨0,(eM t).id,(cN ((c.answer (eM t)).1.cs (eM t).id.toNat)).1⟩ else ⟨(c.answer (eM t)).2,0,[]⟩)
def aK.without (c:aK) (k:Nat):aK:={ c with net:=c.net.eraseIdx k }
def doA (c:aK) (a:fZ):aK × lC:=
 if a.kind=1 then
  if 32≤c.cnt then (c,⟨5,0,[]⟩)
  else if (bK (c.cnt:Int) a.ops).2.2≠0 then (c,⟨(bK (c.cnt:Int) a.ops).2.2,0,[]⟩)
  else ({ c with cs:=upd c.cs c.cnt (bK (c.cnt:Int) a.ops).1,cnt:=c.cnt+1,net:=bY c.net (bK (c.cnt:Int) a.ops).2.1 },⟨0,(c.cnt:Int),[]⟩)
 else if a.kind=2∨a.kind=3∨a.kind=4 then
  if a.n<0∨(c.net.length:Int)≤a.n then (c,⟨4,0,[]⟩)
  else if a.kind=4 then (c.without a.n.toNat,⟨0,(eM (c.net.getD a.n.toNat [])).id,[]⟩)
  else if a.kind=2 then (c.without a.n.toNat).bring (c.net.getD a.n.toNat [])
  else c.bring (c.net.getD a.n.toNat [])
 else if a.kind=5 then
  if a.n<0∨(c.cnt:Int)≤a.n then (c,⟨4,0,[]⟩)
  else ({ c with net:=bY c.net (bU (c.cs a.n.toNat) (a.n.toNat:Int)) },⟨0,a.n,(cN (c.cs a.n.toNat)).1⟩)
 else if a.kind=6∨a.kind=7∨a.kind=8 then
  if a.n<0∨6≤a.n∨(a.kind=7∧(a.m<0∨400<a.m)) then (c,⟨2,0,[]⟩)
  else if a.kind=8 then if c.up a.n.toNat=true then (c,⟨6,0,[]⟩) else (c.rise a.n.toNat (qD (c.log a.n.toNat)),⟨0,0,[]⟩)
  else if c.up a.n.toNat=false then (c,⟨6,0,[]⟩)
  else if a.kind=6 then (c.crash a.n.toNat,⟨0,0,[]⟩) else (c.setTear a.n.toNat a.m,⟨0,0,[]⟩)
 else (c,⟨3,0,[]⟩)
theorem cC.start:cC kO ⟨fun _=>dU,fun _=>cF,fun _=>False⟩:=by
 refine⟨fB.start,jG.start,fun _ h=>h.elim,fun _ _=>JU,fun t ht=>?_,rfl,fun n _=>?_,by show 0≤32;omega,fun i _=>?_⟩
 ·have ht:t∈([]:List (List UInt8)):=ht
  simp at ht
 ·exact⟨[],[],rfl,by simp,qB,rfl,fun _=>⟨rfl,rfl⟩,fun e=>(by cases e)⟩
 ·exact⟨fun e=>(by cases e),fun e=>absurd e (Nat.not_lt_zero i)⟩
theorem cC.bring {c:aK} {S:Sys} (h:cC c S) {t:List UInt8} (ht:∃f,S.M f∧t=bR f):∃T,cC (c.bring t).1 T∧gA S T:=by
 obtain⟨f,hM,rfl⟩:=ht
 have e:eM (bR f)=f:=(lG (h.good f hM)).2
 unfold aK.bring
 rw[e]
 split
 ·rename_i hk
  exact h.come hM hk
 ·exact h.answer hM
theorem cC.act {c:aK} {S:Sys} (h:cC c S) (a:fZ):∃T,cC (doA c a).1 T∧gA S T∧((doA c a).1.cnt≠c.cnt→(doA c a).1.cnt=c.cnt+1∧∀b,b<c.cnt→(cN (S.C b)).2=true→gG T c.cnt b):=by
 have same:∀d:aK,cC d S→d.cnt=c.cnt→∃T,cC d T∧gA S T∧(d.cnt≠c.cnt→d.cnt=c.cnt+1∧∀b,b<c.cnt→(cN (S.C b)).2=true→gG T c.cnt b):=
  fun d hd e=>⟨S,hd,gA.refl S,fun k=>absurd e k⟩
 have some_:∀d:aK,(∃T,cC d T∧gA S T)→d.cnt=c.cnt→∃T,cC d T∧gA S T∧(d.cnt≠c.cnt→d.cnt=c.cnt+1∧∀b,b<c.cnt→(cN (S.C b)).2=true→gG T c.cnt b):=
  fun d ⟨T,h1,h2⟩ e=>⟨T,h1,h2,fun k=>absurd e k⟩
 have come_cnt:∀(d:aK) (f:aC),(Go.Proofs.YtkoefoccbjhoiacGreat.come d f).1.cnt=d.cnt:=by
  intro d f
  unfold Go.Proofs.YtkoefoccbjhoiacGreat.come
  split
  ·rfl
  ·split
   ·rfl
   ·split
    ·rfl
    ·split<;>rfl
 have bring_cnt:∀(d:aK) (t:List UInt8),(d.bring t).1.cnt=d.cnt:=by
  intro d t
  unfold aK.bring
  split
  ·exact come_cnt d _
  ·rfl
 have getMem:∀{k:Nat},k<c.net.length→c.net.getD k []∈c.net:=fun {k} hk=>by
  rw[List.getD_eq_getElem?_getD,List.getElem?_eq_getElem hk]
  exact List.getElem_mem hk
 unfold doA
 split
 ·split
  ·exact same c h rfl
  ·rename_i hc
   split
   ·exact same c h rfl
   ·rename_i h0
    have h0:(bK (c.cnt:Int) a.ops).2.2=0:=by
     by_cases e:(bK (c.cnt:Int) a.ops).2.2=0
     ·exact e
     ·exact absurd e h0
    obtain⟨T,h1,h2,h3⟩:=h.begin (by omega) h0
    exact⟨T,h1,h2,fun _=>⟨rfl,h3⟩⟩
 ·split
  ·split
   ·exact same c h rfl
   ·rename_i hn
    have hk:a.n.toNat<c.net.length:=by omega
    have less:cC (c.without a.n.toNat) S:=h.less fun t ht=>List.mem_of_mem_eraseIdx ht
    split
    ·exact same _ less rfl
    ·split
     ·exact some_ _ (less.bring (h.net _ (getMem hk))) (bring_cnt _ _)
     ·exact some_ _ (h.bring (h.net _ (getMem hk))) (bring_cnt _ _)
  ·split
   ·split
    ·exact same c h rfl
    ·rename_i hn
     have:=h.cnt.1
     exact some_ _ (h.again (by omega)) rfl
   ·split
    ·split
     ·exact same c h rfl
     ·rename_i hn
      have hk:a.n.toNat<6:=by omega
      split
      ·split
       ·exact same c h rfl
       ·obtain⟨t,r1,r2,r3⟩:=nR (c.log a.n.toNat)
        exact same _ (h.rise hk r1 r2 r3) rfl
      ·split
       ·exact same c h rfl
       ·rename_i hu
        split
        ·exact same _ (h.crash _) rfl
        ·exact same _ (h.setTear (by simpa using hu) _) rfl
    ·exact same c h rfl
theorem nS:∀(l:List aC) (net:List (List UInt8)),net.length+l.length≤60→bY net l=net++l.map bR
 | [],net,_=>by simp[bY]
 | f::l,net,h=>by
  have h:net.length+(l.length+1)≤60:=h
  show bY (if net.length<60 then net++[bR f] else net) l=_
  rw[if_pos (by omega),nS l _ (by rw[List.length_append,List.length_singleton];omega)]
  simp
theorem D4 {s:aA} {f:aC} (hg:bT s) (hn:0≤f.node∧f.node<6) (hf:aP f=0) (hk:(f.kind=1∧aZ f.ops (ofL f.node)=true)∨f.kind=3):(aO s f.node f).2.2=0:=by
 have hb:=vX.2 hg
 unfold aO
 rw[if_neg (by
  rintro (h | h | h | h)
  ·rw[hb] at h;cases h
  ·omega
  ·omega
  ·exact h rfl),if_neg (by rw[hf];decide)]
 rcases hk with ⟨hk,ht⟩ | hk
 ·rw[if_pos hk,if_neg (by rw[ht];decide)]
 ·rw[if_neg (by rw[hk];decide),if_pos hk]
theorem B9 {c:aF} {id:Int} {f:aC} (hg:dK c=true) (hb:c.begun=true) (hi:f.id=id) (ho:dO c.deps id=false) (hf:aP f=0) (hk:f.kind≠1∧f.kind≠3):(aN c id f).2.2=0:=by
 unfold aN
 rw[if_neg (by
  rintro (h | h | h | h)
  ·rw[hg] at h;cases h
  ·rw[hb] at h;cases h
  ·exact h hi
  ·rw[ho] at h;cases h),if_neg (by rw[hf];decide),if_neg (by
  rintro (h | h)
  ·exact hk.1 h
  ·exact hk.2 h)]
 split
 ·split<;>rfl
 ·split
  ·rfl
  ·split<;>rfl
theorem JS {l:List UInt8} {f:aC} (hl:l.length≤60000) (hf:aP f=0):fU l (bR f)=0:=by
 obtain⟨h1,h2⟩:=p9 hf
 unfold fU
 rw[if_neg (by omega),if_neg (by omega),if_neg (by omega)]
theorem xI {c:aK} {S:Sys} (h:cC c S) {f:aC} (hM:S.M f) (hk:f.kind=1∨f.kind=3) (hu:c.up f.node.toNat=true) (ht:c.tear f.node.toNat=none) (hl:(c.log f.node.toNat).length≤60000):
  (aO (S.B f.node.toNat) f.node f).2.2=0∧come c f=({ c with log:=upd c.log f.node.toNat (c.log f.node.toNat++rc (bR f)),st:=upd c.st f.node.toNat (aO (S.B f.node.toNat) f.node f).1,net:=bY c.net (aO (S.B f.node.toNat) f.node f).2.1 },0):=by
 obtain⟨hr1,_⟩:=h.t.s.rng f hM
 have hn6:f.node.toNat<6:=by omega
 have hg:=h.good f hM
 obtain⟨_,_,_,_,_,_,l5,_⟩:=h.log _ hn6
 have est:=(l5 hu).2
 have h0:(aO (S.B f.node.toNat) f.node f).2.2=0:=D4 (h.t.s.good _ hn6) hr1 hg (by
  rcases hk with hk | hk
  ·exact Or.inl ⟨hk,h.u.ask f hM hk⟩
  ·exact Or.inr hk)
 refine⟨h0,?_⟩
 have hw:=JS hl hg
 have ew:jH (c.log f.node.toNat) (bR f)=c.log f.node.toNat++rc (bR f):=by unfold jH;rw[if_pos hw]
 unfold Go.Proofs.YtkoefoccbjhoiacGreat.come
 rw[if_neg (by rw[hu];decide),est,if_neg (by rw[h0];decide),ht]
 simp only
 rw[if_neg (by rw[hw];decide),ew]
theorem J9 {c:aK} {S:Sys} (h:cC c S) {f:aC} (hM:S.M f) (hk:f.kind=1∨f.kind=3) (hu:c.up f.node.toNat=true) (ht:c.tear f.node.toNat=none) (hl:(c.log f.node.toNat).length≤60000):cC (come c f).1 (S.took f):=by
 obtain⟨h0,e⟩:=xI h hM hk hu ht hl
 obtain⟨hr1,_⟩:=h.t.s.rng f hM
 have hn6:f.node.toNat<6:=by omega
 have hnat:(f.node.toNat:Int)=f.node:=by omega
 have hg:=h.good f hM
 obtain⟨rs,t,l1,l2,_,l4,l5,_⟩:=h.log _ hn6
 obtain⟨rfl,est⟩:=l5 hu
 rw[List.append_nil] at l1
 rw[e]
 refine⟨h.t.node hM hk h0,jG.node h.t h.u hM hk h0,fun g hg=>?_,fun n hn=>?_,fun t ht=>?_,h.cs,fun n hn=>?_,h.cnt⟩
 ·rcases hg with hg | hg
  ·exact h.good g hg
  ·exact (m7 (h.bound _ hn6) g hg).1
 ·show iJ (upd S.B f.node.toNat _ n)
  by_cases e:n=f.node.toNat
  ·rw[e,aR];exact tH (h.bound _ hn6)
  ·rw[aM _ _ e];exact h.bound n hn
 ·rcases lF _ _ _ ht with ht | ⟨g,hg1,hg2⟩
  ·obtain⟨g,hg1,hg2⟩:=h.net t ht
   exact⟨g,Or.inl hg1,hg2⟩
  ·exact⟨g,Or.inr hg1,hg2⟩
 ·by_cases e:n=f.node.toNat
  ·subst e
   have Bs:(S.took f).B f.node.toNat=(aO (S.B f.node.toNat) f.node f).1:=aR _ _ _
   refine⟨rs++[bR f],[],?_,fun s hs=>?_,qB,?_,fun _=>⟨rfl,?_⟩,fun e=>?_⟩
   ·show upd c.log f.node.toNat _ f.node.toNat=_
    rw[aR,l1,nH,q8,List.append_nil]
   ·rcases List.mem_append.1 hs with hs | hs
    ·exact l2 s hs
    ·rw[List.mem_singleton.1 hs];exact AX hg
   ·rw[Bs]
    rw[hnat] at l4 ⊢
    exact sX l4 h0
   ·show upd c.st f.node.toNat _ f.node.toNat=_
    rw[aR,Bs]
   ·have e:c.up f.node.toNat=false:=e
    rw[hu] at e;cases e
  ·exact kE (h.log n hn) e (aM _ _ e) (aM _ _ e) rfl (aM _ _ e) rfl
def wt (f:aC):Nat:=if f.kind=1 then 2 else if f.kind=3 then 3 else 1
def wts (F:List aC):Nat:=(F.map wt).sum
theorem jC (f:aC) (F:List aC):wts (f::F)=wt f+wts F:=by simp[wts]
theorem qI (F G:List aC):wts (F++G)=wts F+wts G:=by simp[wts]
theorem JY (f:aC):1≤wt f:=by unfold wt;split<;>(try split)<;>omega
theorem qJ:∀F:List aC,F.length≤wts F
 | []=>Nat.zero_le _
 | f::F=>by
  rw[jC]
  have:=qJ F
  have:=JY f
  rw[List.length_cons]
  omega
def iP (c:aF):Nat:=if c.fixed=true then 0 else 19
theorem oK (c:aF) (id:Int) (n:Nat):wts (c.send id n)≤if c.fixed=true then 3 else 2:=by
 unfold aF.send
 cases c.fixed
 ·simp only[Bool.false_eq_true,if_false]
  split
  ·rw[jC]
   show 2+0≤2
   omega
  ·exact Nat.zero_le _
 ·simp only[if_true]
  split
  ·rw[jC]
   show 3+0≤3
   omega
  ·exact Nat.zero_le _
theorem uR (c:aF) (id:Int):wts (bU c id)≤if c.fixed=true then 18 else 12:=by
 unfold bU
 split
 ·exact Nat.zero_le _
 ·rw[show List.range 6=[0,1,2,3,4,5] from rfl]
  simp only[List.flatMap_cons,List.flatMap_nil,List.append_nil,qI]
  have h0:=oK c id 0
  have h1:=oK c id 1
  have h2:=oK c id 2
  have h3:=oK c id 3
  have h4:=oK c id 4
  have h5:=oK c id 5
  split at h0<;>rename_i e
  ·rw[if_pos e] at h1 h2 h3 h4 h5 ⊢
   omega
  ·rw[if_neg e] at h1 h2 h3 h4 h5 ⊢
   omega
theorem vJ {c:aF} {id:Int} (hg:dK c=true) (hb:c.begun=true) (hi:0≤id∧id<32) (ho:dO c.deps id=false):bU c id=(List.range 6).flatMap (c.send id):=by
 unfold bU
 rw[if_neg]
 rintro (h | h | h | h | h)
 ·rw[hg] at h;cases h
 ·rw[hb] at h;cases h
 ·omega
 ·omega
 ·rw[ho] at h;cases h
theorem sF {c:aF} {id:Int} (hg:dK c=true) (hb:c.begun=true) (hi:0≤id∧id<32) (ho:dO c.deps id=false) (hf:c.fixed=true) {k:Nat} (hk:k<6):
  (c.known k=true∧c.lacks (ofL k)=false)∨∃g∈bU c id,g.kind=3∧g.node=(k:Int):=by
 rw[vJ hg hb hi ho]
 by_cases hs:(!c.known k || c.lacks (ofL k))=true
 ·right
  refine⟨⟨3,k,id,c.ops,c.deps,[],[]⟩,List.mem_flatMap.2 ⟨k,List.mem_range.2 hk,?_⟩,rfl,rfl⟩
  unfold aF.send
  rw[if_pos hf,if_pos hs]
  exact List.mem_singleton.2 rfl
 ·left
  simp at hs
  exact hs
theorem GN {c:aF} {id:Int} (hg:dK c=true) (hb:c.begun=true) (hi:0≤id∧id<32) (ho:dO c.deps id=false) (hf:c.fixed=false) {k:Nat} (hk:k<6) (ht:aZ c.ops (ofL k)=true):
  c.told k=true∨∃g∈bU c id,g.kind=1∧g.node=(k:Int):=by
 rw[vJ hg hb hi ho]
 cases hs:c.told k
 ·right
  refine⟨⟨1,k,id,c.ops,[],[],[]⟩,List.mem_flatMap.2 ⟨k,List.mem_range.2 hk,?_⟩,rfl,rfl⟩
  unfold aF.send
  rw[if_neg (by rw[hf];decide),if_pos (by rw[ht,hs];rfl)]
  exact List.mem_singleton.2 rfl
 ·exact Or.inl rfl
theorem J3 {ops:List OpL} {t:Nat→Bool} (h:∀k:Nat,k<6→aZ ops (ofL (k:Int))=true→t k=true):dT ops t=true:=by
 unfold dT
 rw[Bool.and_eq_true]
 constructor
 ·cases e:aZ ops 0
  ·rfl
  ·have h0:=h 0 (by omega) e
   have h1:=h 1 (by omega) e
   have h2:=h 2 (by omega) e
   rw[vG]
   simp[h0,h1,h2]
 ·cases e:aZ ops 1
  ·rfl
  ·have h3:=h 3 (by omega) e
   have h4:=h 4 (by omega) e
   have h5:=h 5 (by omega) e
   rw[vG]
   simp[h3,h4,h5]
theorem vF {c:aF} {id:Int} {f:aC} {k:Nat} (h:c.known k=true):(aN c id f).1.known k=true:=by
 unfold aN
 split
 ·exact h
 ·split
  ·exact h
  ·split
   ·exact h
   ·split
    ·split<;>exact h
    ·split
     ·exact h
     ·split
      ·show upd c.known f.node.toNat true k=true
       unfold upd
       split
       ·rfl
       ·exact h
      ·show (c.dones (ofL f.node) (f.ats.zip f.vals)).known k=true
       rw[pN];exact h
structure jE (c:aK) (S:Sys) (F:List aC) (n B:Nat):Prop where
 inv:cC c S
 n32:n<32
 begun:(S.C n).begun=true
 net:c.net=F.map bR
 mem:∀f∈F,S.M f∧f.id=(n:Int)
 up:∀k,k<6→c.up k=true∧c.tear k=none
 log:∀k,k<6→(c.log k).length≤B
 pot:wts F+iP (S.C n)≤31
 asks:(S.C n).fixed=false→∀k:Nat,k<6→aZ (S.C n).ops (ofL (k:Int))=true→(S.C n).told k=true∨∃f∈F,(f.kind=1∨f.kind=2)∧f.node=(k:Int)
 coms:(S.C n).fixed=true→∀k:Nat,k<6→(S.C n).known k=true∨∃f∈F,(f.kind=3∨f.kind=4)∧f.node=(k:Int)
structure kF (S T:Sys) (n:Nat):Prop where
 state:∀k,k<6→∀i,((S.B k).ent i).state≤((T.B k).ent i).state
 other:∀i,i≠n→T.C i=S.C i
 mine:(S.C n).begun=true→(T.C n).begun=true∧(T.C n).ops=(S.C n).ops
 has:∀k,(S.C n).has k=true→(T.C n).has k=true
theorem kF.refl (S:Sys) (n:Nat):kF S S n:=⟨fun _ _ _=>Int.le_refl _,fun _ _=>rfl,fun h=>⟨h,rfl⟩,fun _ h=>h⟩
theorem kF.trans {S T U:Sys} {n:Nat} (h:kF S T n) (k:kF T U n):kF S U n:=
 ⟨fun m hm i=>Int.le_trans (h.state m hm i) (k.state m hm i),fun i hi=>(k.other i hi).trans (h.other i hi),fun b=>⟨(k.mine (h.mine b).1).1,(k.mine (h.mine b).1).2.trans (h.mine b).2⟩,fun m hm=>k.has m (h.has m hm)⟩
theorem wX {S:Sys} (h:fB S) {f:aC} (hM:S.M f) (n:Nat):kF S (S.took f) n:=by
 obtain⟨hr1,_⟩:=h.s.rng f hM
 have hn6:f.node.toNat<6:=by omega
 refine⟨fun k hk i=>?_,fun _ _=>rfl,fun b=>⟨b,rfl⟩,fun _ h=>h⟩
 show _≤((upd S.B f.node.toNat (aO (S.B f.node.toNat) f.node f).1 k).ent i).state
 by_cases e:k=f.node.toNat
 ·subst e
  rw[aR];exact wW (h.state _ hn6) i
 ·rw[aM _ _ e];exact Int.le_refl _
theorem CA {s:aA} {f:aC} (h0:(aO s f.node f).2.2=0):
  (f.kind=1→∃g,(aO s f.node f).2.1=[g]∧g.kind=2∧g.node=f.node∧g.id=f.id)∧
  (f.kind=3→∃g r,(aO s f.node f).2.1=g::r∧g.kind=4∧g.node=f.node∧g.id=f.id∧r.length≤1∧wts r≤1∧∀q∈r,q.kind=5∧q.id=f.id):=by
 rcases dE s f.node f with ⟨hh,_⟩ | ⟨_,_,_,_,_,_,⟨hk,_,e⟩ | ⟨hk,e⟩⟩
 ·exact absurd h0 hh
 ·refine⟨fun _=>?_,fun h=>absurd (hk.symm.trans h) (by decide)⟩
  rw[e]
  exact⟨_,rfl,rfl,rfl,rfl⟩
 ·refine⟨fun h=>absurd (h.symm.trans hk) (by decide),fun _=>?_⟩
  rw[e]
  show ∃g r,(s.commit (ofL f.node) f).answers (ofL f.node) f.node f.id=g::r∧_
  unfold aA.answers
  split
  ·exact⟨_,_,rfl,rfl,rfl,rfl,by simp,(by rw[jC];show 1+0≤1;omega),fun q hq=>by rw[List.mem_singleton.1 hq];exact⟨rfl,rfl⟩⟩
  ·exact⟨_,_,rfl,rfl,rfl,rfl,by simp,Nat.zero_le _,fun q hq=>by simp at hq⟩
theorem BR {f:aC} (h:aP f=0):(rc (bR f)).length≤100:=by
 have:=(p9 h).1
 rw[l0]
 omega
def Dn (S:Sys) (F:List aC) (n:Nat):Prop:=
 (S.C n).fixed=true∧(∀k,k<6→((S.B k).ent n).state=3)∧∀i,i<(S.C n).ops.length→(S.C n).has i=true∨∃f∈F,(f.kind=3∨f.kind=5)∧fL (ofL f.node) ((S.C n).ops.getD i (0,0,0))=true
theorem JQ {s:aA} {f:aC} (h0:(aO s f.node f).2.2=0) (hk:f.kind=3) (h3:((aO s f.node f).1.ent f.id.toNat).state=3) (ht:aZ ((aO s f.node f).1.ent f.id.toNat).ops (ofL f.node)=true):∃q∈(aO s f.node f).2.1,q.kind=5∧q.node=f.node:=by
 rcases dE s f.node f with ⟨hh,_⟩ | ⟨_,_,_,_,_,_,⟨hk1,_,_⟩ | ⟨_,e⟩⟩
 ·exact absurd h0 hh
 ·exact absurd (hk1.symm.trans hk) (by decide)
 ·rw[e] at h3 ht ⊢
  have h3:((s.commit (ofL f.node) f).ent f.id.toNat).state=3:=h3
  have ht:aZ ((s.commit (ofL f.node) f).ent f.id.toNat).ops (ofL f.node)=true:=ht
  show ∃q∈(s.commit (ofL f.node) f).answers (ofL f.node) f.node f.id,_
  unfold aA.answers
  rw[if_pos ⟨h3,ht⟩]
  exact⟨_,List.mem_cons_of_mem _ (List.mem_singleton.2 rfl),rfl,rfl⟩
theorem L4 {ops:List OpL} {i:Nat} {sh:Int} (hi:i<ops.length) (h:fL sh (ops.getD i (0,0,0))=true):aZ ops sh=true:=by
 rw[List.getD_eq_getElem?_getD,List.getElem?_eq_getElem hi] at h
 exact List.any_eq_true.2 ⟨_,List.getElem_mem hi,h⟩
theorem jE.come {c:aK} {S:Sys} {f:aC} {F:List aC} {n B:Nat} (h:jE c S (f::F) n B) (hB:B≤60000) (hk:f.kind=1∨f.kind=3):
  ∃T G,jE (Go.Proofs.YtkoefoccbjhoiacGreat.come (c.without 0) f).1 T G n (B+100)∧wts G+iP (T.C n)<wts (f::F)+iP (S.C n)∧kF S T n∧(Dn S (f::F) n→Dn T G n):=by
 obtain⟨hM,hid⟩:=h.mem f (by simp)
 obtain⟨hr1,_⟩:=h.inv.t.s.rng f hM
 have hn6:f.node.toNat<6:=by omega
 have hg:=h.inv.good f hM
 have less:cC (c.without 0) S:=h.inv.less fun t ht=>List.mem_of_mem_eraseIdx ht
 have hnet:(c.without 0).net=F.map bR:=by
  show c.net.eraseIdx 0=_
  rw[h.net];rfl
 obtain⟨hu,ht⟩:=h.up _ hn6
 have hl:((c.without 0).log f.node.toNat).length≤60000:=Nat.le_trans (h.log _ hn6) hB
 obtain⟨h0,e⟩:=xI less hM hk hu ht hl
 have hI:=J9 less hM hk hu ht hl
 obtain⟨A1,A3⟩:=CA h0
 obtain⟨R,hR⟩:∃R,R=(aO (S.B f.node.toNat) f.node f).2.1:=⟨_,rfl⟩
 have hpot:=h.pot
 rw[jC] at hpot
 have hlen:=qJ F
 have hRw:wts R<wt f∧R.length≤2∧∀q∈R,q.id=f.id:=by
  rcases hk with hk | hk
  ·obtain⟨g,e1,e2,e3,e4⟩:=A1 hk
   rw[hR,e1]
   refine⟨?_,by simp,fun q hq=>by rw[List.mem_singleton.1 hq];exact e4⟩
   have:wt g=1:=by unfold wt;rw[e2];rfl
   have:wt f=2:=by unfold wt;rw[if_pos hk]
   rw[jC]
   show wt g+0<wt f
   omega
  ·obtain⟨g,r,e1,e2,e3,e4,e5,e6,e7⟩:=A3 hk
   rw[hR,e1]
   refine⟨?_,by simp;omega,fun q hq=>?_⟩
   ·have:wt g=1:=by unfold wt;rw[e2];rfl
    have:wt f=3:=by unfold wt;rw[hk];rfl
    rw[jC]
    omega
   ·rcases List.mem_cons.1 hq with e | e
    ·rw[e];exact e4
    ·exact (e7 q e).2
 have wf:wt f≤3:=by unfold wt;split<;>(try split)<;>omega
 refine⟨S.took f,F++R,⟨hI,h.n32,h.begun,?_,fun q hq=>?_,fun k hk6=>?_,fun k hk6=>?_,?_,fun hf k hk6 htch=>?_,fun hf k hk6=>?_⟩,?_,wX h.inv.t hM n,fun D=>?_⟩
 ·rw[e]
  show bY (c.without 0).net (aO (S.B f.node.toNat) f.node f).2.1=_
  rw[hnet,←hR,nS _ _ (by rw[List.length_map];omega),List.map_append]
 ·rcases List.mem_append.1 hq with hq | hq
  ·obtain⟨m1,m2⟩:=h.mem q (by simp[hq])
   exact⟨Or.inl m1,m2⟩
  ·exact⟨Or.inr (hR ▸ hq),(hRw.2.2 q hq).trans hid⟩
 ·rw[e]
  exact h.up k hk6
 ·rw[e]
  show (upd (c.without 0).log f.node.toNat _ k).length≤B+100
  by_cases ek:k=f.node.toNat
  ·subst ek
   rw[aR,List.length_append]
   have:=h.log _ hn6
   have:=BR hg
   have e:(c.without 0).log=c.log:=rfl
   rw[e]
   omega
  ·rw[aM _ _ ek]
   have:=h.log k hk6
   exact Nat.le_trans this (by omega)
 ·show wts (F++R)+iP (S.C n)≤31
  rw[qI]
  omega
 ·rcases h.asks hf k hk6 htch with a | ⟨g,hgm,hgk,hgn⟩
  ·exact Or.inl a
  ·right
   rcases List.mem_cons.1 hgm with eg | eg
   ·rcases hk with hk | hk
    ·obtain⟨q,e1,e2,e3,_⟩:=A1 hk
     exact⟨q,List.mem_append_right _ (by rw[hR,e1];simp),Or.inr e2,by rw[e3,←eg];exact hgn⟩
    ·rw[eg,hk] at hgk
     exact absurd hgk (by decide)
   ·exact⟨g,List.mem_append_left _ eg,hgk,hgn⟩
 ·rcases h.coms hf k hk6 with a | ⟨g,hgm,hgk,hgn⟩
  ·exact Or.inl a
  ·right
   rcases List.mem_cons.1 hgm with eg | eg
   ·rcases hk with hk | hk
    ·rw[eg,hk] at hgk
     exact absurd hgk (by decide)
    ·obtain⟨q,r,e1,e2,e3,_⟩:=A3 hk
     exact⟨q,List.mem_append_right _ (by rw[hR,e1];simp),Or.inr e2,by rw[e3,←eg];exact hgn⟩
   ·exact⟨g,List.mem_append_left _ eg,hgk,hgn⟩
 ·show wts (F++R)+iP (S.C n)<_
  rw[qI,jC]
  omega
 ·obtain⟨fx,s3,dn⟩:=D
  have s3':∀k,k<6→(((S.took f).B k).ent n).state=3:=fun k hk6=>by
   have a:=(wX h.inv.t hM n).state k hk6 n
   have b:=((hI.t.s.good k hk6).state h.n32).2
   have:=s3 k hk6
   omega
  refine⟨fx,s3',fun i hi=>?_⟩
  rcases dn i hi with a | ⟨g,hgm,hgk,hgt⟩
  ·exact Or.inl a
  ·right
   rcases List.mem_cons.1 hgm with eg | eg
   ·rw[eg] at hgk hgt
    have hk3:f.kind=3:=by clear A1 A3;omega
    have en:f.id.toNat=n:=by clear A1 A3;omega
    have x3:=s3' _ hn6
    have xo:=(hI.t.s.ent1 _ hn6 n h.n32 (by rw[x3];decide)).2
    have Bs:(S.took f).B f.node.toNat=(aO (S.B f.node.toNat) f.node f).1:=aR _ _ _
    rw[Bs] at x3 xo
    have xo:((aO (S.B f.node.toNat) f.node f).1.ent n).ops=(S.C n).ops:=xo
    obtain⟨q,q1,q2,q3⟩:=JQ h0 hk3 (by rw[en];exact x3) (by rw[en,xo];exact L4 hi hgt)
    exact⟨q,List.mem_append_right _ (by rw[hR];exact q1),Or.inr q2,by rw[q3];exact hgt⟩
   ·exact⟨g,List.mem_append_left _ eg,hgk,hgt⟩
def Sys.heard (S:Sys) (f:aC):Sys:=⟨S.B,upd S.C f.id.toNat (aN (S.C f.id.toNat) f.id f).1,fun g=>S.M g∨g∈(aN (S.C f.id.toNat) f.id f).2.1⟩
theorem cC.answer_at {c:aK} {S:Sys} (h:cC c S) {f:aC} (hM:S.M f) (h0:(aN (S.C f.id.toNat) f.id f).2.2=0):cC (c.answer f).1 (S.heard f):=by
 obtain⟨_,hr2⟩:=h.t.s.rng f hM
 refine⟨h.t.answer hM h0,jG.answer h.t h.u hM h0,fun g hg=>?_,h.bound,fun t ht=>?_,?_,fun n hn=>oO (h.log n hn) rfl rfl rfl rfl rfl,⟨h.cnt.1,fun i hi=>?_⟩⟩
 ·rcases hg with hg | hg
  ·exact h.good g hg
  ·exact jM (jZ hg).1
 ·have ht:t∈bY c.net (aN (c.cs f.id.toNat) f.id f).2.1:=ht
  rw[h.cs] at ht
  rcases lF _ _ _ ht with ht | ⟨g,hg1,hg2⟩
  ·obtain⟨g,hg1,hg2⟩:=h.net t ht
   exact⟨g,Or.inl hg1,hg2⟩
  ·exact⟨g,Or.inr hg1,hg2⟩
 ·show upd c.cs f.id.toNat (aN (c.cs f.id.toNat) f.id f).1=_
  rw[h.cs]
  rfl
 ·show (upd S.C f.id.toNat (aN (S.C f.id.toNat) f.id f).1 i).begun=true↔i<c.cnt
  rw[←h.cnt.2 i hi]
  rcases eY S.C f.id.toNat (aN (S.C f.id.toNat) f.id f).1 i with ⟨e1,e2⟩ | ⟨_,e2⟩
  ·rw[e2,e1,oR]
  ·rw[e2]
theorem GF {c:aF} {id:Int} {f:aC} (h0:(aN c id f).2.2=0) (hk:f.kind=2) (hf:c.fixed=false) (ht:c.told f.node.toNat=false) (htc:aZ c.ops (ofL f.node)=true):
  aN c id f=(c.hear f,if (c.hear f).fixed=true then bU (c.hear f) id else [],0):=by
 unfold aN at h0 ⊢
 split at h0
 ·exact absurd h0 (show (2:Int)≠0 by decide)
 ·rename_i h1
  rw[if_neg h1]
  split at h0
  ·rename_i h2
   exact absurd h0 h2
  ·rename_i h2
   rw[if_neg h2,if_neg (by rw[hk];decide),if_pos hk,if_neg (by rw[hf,ht,htc];decide)]
theorem DO {c:aF} {id:Int} {f:aC} (h0:(aN c id f).2.2=0) (hk:f.kind=4) (hf:c.fixed=true):(aN c id f).1.known f.node.toNat=true:=by
 unfold aN at h0 ⊢
 split at h0
 ·exact absurd h0 (show (2:Int)≠0 by decide)
 ·rename_i h1
  rw[if_neg h1]
  split at h0
  ·rename_i h2
   exact absurd h0 h2
  ·rename_i h2
   rw[if_neg h2,if_neg (by rw[hk];decide),if_neg (by rw[hk];decide),if_neg (by rw[hf];decide),if_pos hk]
   exact aR _ _ _
theorem pR (sh:Int):∀(ops:List OpL) (i:Nat) (v:Nat→Int) (j:Nat),j<ops.length→fL sh (ops.getD j (0,0,0))=true→((i+j:Nat):Int)∈(cD sh i ops v).2.1
 | [],_,_,j,h,_=>absurd h (Nat.not_lt_zero j)
 | o::r,i,v,0,_,ht=>by
  have ht:(o.2.1 % 2 == sh)=true:=ht
  unfold cD
  rw[if_pos ht]
  exact List.mem_cons_self
 | o::r,i,v,j+1,h,ht=>by
  have hr:j<r.length:=by simpa using h
  have e:i+(j+1)=i+1+j:=by omega
  rw[e]
  unfold cD
  split
  ·exact List.mem_cons_of_mem _ (pR sh r (i+1) _ j hr ht)
  ·exact pR sh r (i+1) v j hr ht
theorem vR (sh:Int):∀(l:List (Int × Int)) (c:aF) (p:Int × Int),p∈l→p.1<c.ops.length→fL sh (c.ops.getD p.1.toNat (0,0,0))=true→(c.dones sh l).has p.1.toNat=true
 | [],_,_,h,_,_=>by simp at h
 | q::l,c,p,h,h1,h2=>by
  show ((aF.done1 sh c q).dones sh l).has p.1.toNat=true
  rcases List.mem_cons.1 h with e | e
  ·refine ((nP sh l _).2 _ ?_).1
   subst e
   unfold aF.done1
   cases hh:c.has p.1.toNat
   ·rw[if_pos ⟨h1,h2,rfl⟩]
    exact aR _ _ _
   ·rw[if_neg (by rintro⟨_,_,h⟩;cases h)]
    exact hh
  ·have so:=(t8 sh c q).1.ops
   exact vR sh l _ p e (by rw[so];exact h1) (by rw[so];exact h2)
theorem DM {c:aF} {id:Int} {f:aC} (h0:(aN c id f).2.2=0) (hk:f.kind=5) (hf:c.fixed=true):(aN c id f).1=c.dones (ofL f.node) (f.ats.zip f.vals):=by
 unfold aN at h0 ⊢
 split at h0
 ·exact absurd h0 (show (2:Int)≠0 by decide)
 ·rename_i h1
  rw[if_neg h1]
  split at h0
  ·rename_i h2
   exact absurd h0 h2
  ·rename_i h2
   rw[if_neg h2,if_neg (by rw[hk];decide),if_neg (by rw[hk];decide),if_neg (by rw[hf];decide),if_neg (by rw[hk];decide)]
theorem NG {xs vs:List Int} (h:vs.length=xs.length) {a:Int} (ha:a∈xs):∃v,(a,v)∈xs.zip vs:=by
 obtain⟨i,hi,e⟩:=List.getElem_of_mem ha
 refine⟨vs[i]'(by omega),?_⟩
 have:(xs.zip vs)[i]'(by rw[List.length_zip];omega)=(a,vs[i]'(by omega)):=by rw[List.getElem_zip,e]
 rw[←this]
 exact List.getElem_mem _
theorem jE.answer {c:aK} {S:Sys} {f:aC} {F:List aC} {n B:Nat} (h:jE c S (f::F) n B) (hk:f.kind≠1∧f.kind≠3):
  ∃T G,jE ((c.without 0).answer f).1 T G n (B+100)∧wts G+iP (T.C n)<wts (f::F)+iP (S.C n)∧kF S T n∧(Dn S (f::F) n→Dn T G n):=by
 obtain⟨hM,hid⟩:=h.mem f (by simp)
 obtain⟨hr1,_⟩:=h.inv.t.s.rng f hM
 have hn6:f.node.toNat<6:=by omega
 have hg:=h.inv.good f hM
 have en:f.id.toNat=n:=by omega
 have less:cC (c.without 0) S:=h.inv.less fun t ht=>List.mem_of_mem_eraseIdx ht
 have hnet:(c.without 0).net=F.map bR:=by
  show c.net.eraseIdx 0=_
  rw[h.net];rfl
 have R0:=h.inv.t.case n h.n32 h.begun
 have own:=h.inv.u.own n h.n32
 have h0:(aN (S.C n) f.id f).2.2=0:=B9 R0.good h.begun rfl (by rw[hid];exact own) hg hk
 have hI:cC ((c.without 0).answer f).1 (S.heard f):=less.answer_at hM (by rw[en];exact h0)
 obtain⟨R,hR⟩:∃R,R=(aN (S.C n) f.id f).2.1:=⟨_,rfl⟩
 obtain⟨d,hd⟩:∃d,d=(aN (S.C n) f.id f).1:=⟨_,rfl⟩
 have eC:(S.heard f).C n=d:=by
  show upd S.C f.id.toNat (aN (S.C f.id.toNat) f.id f).1 n=d
  rw[en,aR,hd]
 have eB:(S.heard f).B=S.B:=rfl
 have rs:=vE (id:=f.id) (f:=f) R0
 rw[←hd] at rs
 have hpot:=h.pot
 rw[jC] at hpot
 have w1:wt f=1:=by unfold wt;rw[if_neg hk.1,if_neg hk.2]
 have hlen:=qJ F
 have core:wts R+iP d≤iP (S.C n)∧
   (d.fixed=false→∀k:Nat,k<6→aZ d.ops (ofL (k:Int))=true→d.told k=true∨∃g∈F++R,(g.kind=1∨g.kind=2)∧g.node=(k:Int))∧
   (d.fixed=true→∀k:Nat,k<6→d.known k=true∨∃g∈F++R,(g.kind=3∨g.kind=4)∧g.node=(k:Int))∧d.ops=(S.C n).ops:=by
  have own':dO d.deps f.id=false:=by
   have:=hI.u.own n h.n32
   rw[eC] at this
   rw[hid];exact this
  rcases fF (S.C n) f.id f with ⟨hh,_⟩ | ⟨_,_,hk2,hf,htl,htc,he,_⟩ | ⟨_,e2,hk2,hs,_,_⟩
  ·exact absurd h0 hh
  ·have E:=GF h0 hk2 hf htl htc
   have ed:d=(S.C n).hear f:=by rw[hd,E]
   have eR:R=if d.fixed=true then bU d f.id else []:=by rw[hR,E,ed]
   have ps:iP (S.C n)=19:=by unfold iP;rw[if_neg (by rw[hf];decide)]
   have eo:d.ops=(S.C n).ops:=by rw[ed];rfl
   cases hdf:d.fixed
   ·rw[hdf] at eR
    have eR:R=[]:=eR
    refine⟨?_,fun _ k hk6 ht=>?_,fun e=>(by cases e),eo⟩
    ·rw[eR,ps]
     show 0+iP d≤19
     unfold iP
     split<;>omega
    ·rw[eo] at ht
     by_cases ek:k=f.node.toNat
     ·left
      rw[ed]
      show upd (S.C n).told f.node.toNat true k=true
      rw[ek,aR]
     ·rcases h.asks hf k hk6 ht with a | ⟨g,hgm,hgk,hgn⟩
      ·left
       rw[ed]
       show upd (S.C n).told f.node.toNat true k=true
       rw[aM _ _ ek];exact a
      ·right
       rcases List.mem_cons.1 hgm with eg | eg
       ·rw[eg] at hgn
        exact absurd (by omega) ek
       ·exact⟨g,List.mem_append_left _ eg,hgk,hgn⟩
   ·rw[hdf,if_pos rfl] at eR
    have hw:=uR d f.id
    rw[if_pos hdf,←eR] at hw
    refine⟨?_,fun e=>(by cases e),fun _ k hk6=>?_,eo⟩
    ·have:iP d=0:=by unfold iP;rw[if_pos hdf]
     omega
    ·rcases sF (id:=f.id) rs.1.good rs.1.begun (by omega) own' hdf hk6 with a | ⟨g,hgm,hgk,hgn⟩
     ·exact Or.inl a.1
     ·exact Or.inr ⟨g,List.mem_append_right _ (by rw[eR];exact hgm),Or.inl hgk,hgn⟩
  ·have eR:R=[]:=by rw[hR,e2]
   rw[←hd] at hs
   refine⟨?_,fun hdf k hk6 ht=>?_,fun hdf k hk6=>?_,hs.ops⟩
   ·rw[eR]
    show 0+iP d≤iP (S.C n)
    unfold iP
    rw[hs.fixed]
    omega
   ·rw[hs.ops] at ht
    rw[hs.fixed] at hdf
    rw[hs.told]
    rcases h.asks hdf k hk6 ht with a | ⟨g,hgm,hgk,hgn⟩
    ·exact Or.inl a
    ·rcases List.mem_cons.1 hgm with eg | eg
     ·left
      rw[eg] at hgk hgn
      have en':f.node.toNat=k:=by omega
      rcases hk2 (hgk.resolve_left hk.1) with e | e | e
      ·rw[hdf] at e;cases e
      ·rw[en'] at e;exact e
      ·rw[hgn,ht] at e;cases e
     ·exact Or.inr ⟨g,List.mem_append_left _ eg,hgk,hgn⟩
   ·rw[hs.fixed] at hdf
    rcases h.coms hdf k hk6 with a | ⟨g,hgm,hgk,hgn⟩
    ·left
     rw[hd];exact vF a
    ·rcases List.mem_cons.1 hgm with eg | eg
     ·left
      rw[eg] at hgk hgn
      have en':f.node.toNat=k:=by omega
      have hk4:=hgk.resolve_left hk.2
      have:=DO h0 hk4 hdf
      rw[en',←hd] at this
      exact this
     ·exact Or.inr ⟨g,List.mem_append_left _ eg,hgk,hgn⟩
 obtain⟨c1,c2,c3,c4⟩:=core
 have hRl:=qJ R
 have hp19:iP (S.C n)≤19:=by unfold iP;split<;>omega
 refine⟨S.heard f,F++R,⟨hI,h.n32,by rw[eC];exact rs.1.begun,?_,fun q hq=>?_,h.up,fun k hk6=>Nat.le_trans (h.log k hk6) (by omega),?_,by rw[eC];exact c2,by rw[eC];exact c3⟩,?_,⟨fun _ _ _=>Int.le_refl _,fun i hi=>?_,fun _=>by rw[eC];exact⟨rs.1.begun,c4⟩,fun k hk=>by rw[eC];exact (rs.2 k hk).1⟩,fun D=>?_⟩
 ·show bY (c.without 0).net (aN ((c.without 0).cs f.id.toNat) f.id f).2.1=_
  rw[less.cs,en,←hR,hnet,nS _ _ (by rw[List.length_map];omega),List.map_append]
 ·rcases List.mem_append.1 hq with hq | hq
  ·obtain⟨m1,m2⟩:=h.mem q (by simp[hq])
   exact⟨Or.inl m1,m2⟩
  ·rw[hR] at hq
   refine⟨Or.inr (by rw[en];exact hq),?_⟩
   rw[(mL (jZ hq).1).2.2.2.1,hid]
 ·rw[eC,qI]
  omega
 ·rw[eC,qI,jC]
  omega
 ·show upd S.C f.id.toNat _ i=S.C i
  rw[aM _ _ (by omega)]
 ·obtain⟨fx,s3,dn⟩:=D
  unfold Dn
  rw[eC]
  refine⟨?_,s3,fun i hi=>?_⟩
  ·rcases fF (S.C n) f.id f with ⟨hh,_⟩ | ⟨_,_,_,hf,_⟩ | ⟨_,_,_,hs,_⟩
   ·exact absurd h0 hh
   ·rw[fx] at hf;cases hf
   ·rw[hd,hs.fixed];exact fx
  ·rw[c4] at hi ⊢
   rcases dn i hi with a | ⟨g,hgm,hgk,hgt⟩
   ·exact Or.inl (rs.2 i a).1
   ·rcases List.mem_cons.1 hgm with eg | eg
    ·left
     rw[eg] at hgk hgt
     have hk5:=hgk.resolve_left hk.2
     obtain⟨d1,d2,d3⟩:=h.inv.t.s.don f hM hk5
     rw[en] at d1 d2 d3
     have hdid:=(j5 (h.inv.t.s.good _ hn6) h.n32).2 d1
     obtain⟨pre,post,ep,_⟩:=B0 (h.inv.t.sort _ hn6).sorted.nodup hdid
     have V:=(h.inv.t.val _ hn6).each pre n post ep
     have eo:=(h.inv.t.s.ent1 _ hn6 n h.n32 (by rw[d1];decide)).2
     have hnat:(f.node.toNat:Int)=f.node:=by omega
     have F0:=(h.inv.t.s.good _ hn6).fine h.n32 (by rw[d1];decide)
     have mem:((0+i:Nat):Int)∈f.ats:=by
      rw[d2,V.1,eo,hnat]
      exact pR (ofL f.node) _ 0 _ i hi hgt
     rw[Nat.zero_add] at mem
     obtain⟨v,hv⟩:=NG (vs:=f.vals) (by rw[d2,d3];exact F0.vals) mem
     have:=vR (ofL f.node) _ (S.C n) _ hv (by show (i:Int)<_;omega) (by show fL _ ((S.C n).ops.getD (i:Int).toNat _)=true;rw[Int.toNat_natCast];exact hgt)
     rw[hd,DM h0 hk5 fx]
     exact this
    ·exact Or.inr ⟨g,List.mem_append_left _ eg,hgk,hgt⟩
theorem jE.step {c:aK} {S:Sys} {f:aC} {F:List aC} {n B:Nat} (h:jE c S (f::F) n B) (hB:B≤60000):
  ∃T G,jE (doA c ⟨2,0,0,[]⟩).1 T G n (B+100)∧wts G+iP (T.C n)<wts (f::F)+iP (S.C n)∧kF S T n∧(Dn S (f::F) n→Dn T G n):=by
 obtain⟨hM,_⟩:=h.mem f (by simp)
 have ed:eM (bR f)=f:=(lG (h.inv.good f hM)).2
 have e:(doA c ⟨2,0,0,[]⟩).1=((c.without 0).bring (bR f)).1:=by
  unfold doA
  have hl:¬ ((0:Int)<0∨(c.net.length:Int)≤0):=by
   rw[h.net,List.length_map,List.length_cons]
   omega
  have hh:c.net.getD (0:Int).toNat []=bR f:=by rw[h.net];rfl
  simp only[hh]
  rw[if_neg (by decide),if_pos (by decide),if_neg hl,if_neg (by decide),if_pos (by decide)]
  rfl
 rw[e]
 unfold aK.bring
 rw[ed]
 split
 ·rename_i hk
  exact h.come hB hk
 ·rename_i hk
  exact h.answer ⟨fun k=>hk (Or.inl k),fun k=>hk (Or.inr k)⟩
def oC:Nat→aK→aK→Prop
 | 0,c,d=>d=c∧c.net=[]
 | k+1,c,d=>c.net≠[]∧oC k (doA c ⟨2,0,0,[]⟩).1 d
theorem jE.drains:∀(p:Nat) {c:aK} {S:Sys} {F:List aC} {n B:Nat},jE c S F n B→wts F+iP (S.C n)≤p→B+100*p≤60000→
  ∃k d T,k≤p∧oC k c d∧jE d T [] n (B+100*p)∧kF S T n∧(Dn S F n→Dn T [] n)
 | p,c,S,[],n,B,h,_,_=>⟨0,c,S,Nat.zero_le _,⟨rfl,by rw[h.net];rfl⟩,{ h with log:=fun k hk=>Nat.le_trans (h.log k hk) (by omega) },kF.refl S n,fun D=>D⟩
 | 0,c,S,f::F,n,B,h,hp,_=>by
  rw[jC] at hp
  have:=JY f
  omega
 | p+1,c,S,f::F,n,B,h,hp,hB=>by
  obtain⟨T,G,h1,h2,h3,h4⟩:=h.step (by omega)
  obtain⟨k,d,U,k1,k2,k3,k4,k5⟩:=jE.drains p h1 (by omega) (by omega)
  refine⟨k+1,d,U,by omega,⟨?_,k2⟩,?_,h3.trans k4,fun D=>k5 (h4 D)⟩
  ·rw[h.net];simp
  ·have e:B+100+100*p=B+100*(p+1):=by omega
   rw[e] at k3
   exact k3
theorem jE.ended {c:aK} {S:Sys} {n B:Nat} (h:jE c S [] n B):(S.C n).fixed=true∧∀k,k<6→(S.C n).known k=true∧2≤((S.B k).ent n).state:=by
 have hf:(S.C n).fixed=true:=by
  cases e:(S.C n).fixed
  ·have:=h.inv.u.most n h.n32 h.begun e
   rw[J3 fun k hk ht=>(h.asks e k hk ht).resolve_right (by rintro⟨f,hf,_⟩;simp at hf)] at this
   cases this
  ·rfl
 refine⟨hf,fun k hk=>?_⟩
 have hkn:=(h.coms hf k hk).resolve_right (by rintro⟨f,hf,_⟩;simp at hf)
 exact⟨hkn,h.inv.u.known n h.n32 k hk hkn⟩
theorem rH (sh:Int) (k:Nat) (hk:(k:Int) % 2≠sh):∀(ops:List OpL) (i:Nat) (v:Nat→Int),(∀o∈ops,0≤o.2.1)→(cD sh i ops v).1 k=v k
 | [],_,_,_=>rfl
 | o::r,i,v,h=>by
  have h0:=h o (by simp)
  have hr:∀p∈r,0≤p.2.1:=fun p hp=>h p (by simp[hp])
  unfold cD
  split
  ·rename_i hs
   rw[rH sh k hk r (i+1) _ hr,aM _ _ (fun e=>?_)]
   apply hk
   have:(k:Int)=o.2.1:=by omega
   rw[this]
   simpa using hs
  ·exact rH sh k hk r (i+1) v hr
theorem sE (sh:Int) (k:Nat) (hk:(k:Int) % 2≠sh) (ops:Nat→List OpL):∀(l:List Nat) (v:Nat→Int),(∀x∈l,∀o∈ops x,0≤o.2.1)→after sh ops l v k=v k
 | [],_,_=>rfl
 | x::l,v,h=>by
  show after sh ops l (cD sh 0 (ops x) v).1 k=v k
  rw[sE sh k hk ops l _ (fun y hy=>h y (by simp[hy])),rH sh k hk _ 0 v (h x (by simp))]
theorem fB.alike {S:Sys} (h:fB S) {n m:Nat} (hn:n<6) (hm:m<6) (hsh:ofL (n:Int)=ofL (m:Int)) (hset:∀x,x∈(S.B n).did↔x∈(S.B m).did):(S.B n).vals=(S.B m).vals:=by
 have A:=h.s.sorted hn (h.sort n hn)
 have B:=h.s.sorted hm (h.sort m hm)
 have opsE:∀{k:Nat},k<6→∀y∈(S.B k).did,y<32∧((S.B k).ent y).ops=(S.C y).ops∧(S.C y).fixed=true:=fun {k} hk y hy=>by
  have y32:=(h.sort k hk).sorted.lt y hy
  exact⟨y32,(h.s.ent1 k hk y y32 (by rw[(j5 (h.s.good k hk) y32).1 hy];decide)).2,h.s.did_fixed hk y32 hy⟩
 have keys:∀{k:Nat},k<6→∀y∈(S.B k).did,∀o∈(S.C y).ops,0≤o.2.1:=fun hk y hy=>h.keys y (opsE hk y hy).1 (opsE hk y hy).2.2
 rw[(h.val n hn).all,(h.val m hm).all,lX (ops':=fun y=>(S.C y).ops) _ _ _ (fun y hy=>(opsE hn y hy).2.1),lX (ops':=fun y=>(S.C y).ops) _ (S.B m).did _ (fun y hy=>(opsE hm y hy).2.1),hsh]
 funext k
 by_cases hk:(k:Int) % 2=ofL (m:Int)
 ·rw[sD _ k hk _ _ _ (keys hn),sD _ k hk _ _ _ (keys hm),lT k _ (S.B n).did _ (by unfold kK;decide),lT k _ (S.B m).did _ (by unfold kK;decide)]
  congr 1
  have sh2:∃sh:Nat,sh<2∧ofL (m:Int)=(sh:Int):=by
   rw[DW]
   split
   ·exact⟨0,by omega,rfl⟩
   ·exact⟨1,by omega,rfl⟩
  obtain⟨sh,hs,esh⟩:=sh2
  refine zD (List.Pairwise.filter _ A.nodup) (List.Pairwise.filter _ B.nodup) (fun y=>by rw[List.mem_filter,List.mem_filter,hset y]) (fun y hy z hz hyz=>?_)
  have hy1:=List.mem_filter.1 hy
  have hz1:=List.mem_filter.1 hz
  have ym:=(hset y).1 hy1.1
  have zm:=(hset z).1 hz1.1
  rw[oD hy hz,oD (List.mem_filter.2 ⟨ym,hy1.2⟩) (List.mem_filter.2 ⟨zm,hz1.2⟩)]
  obtain⟨y32,_,fy⟩:=opsE hn y hy1.1
  obtain⟨z32,_,fz⟩:=opsE hn z hz1.1
  obtain⟨q,hq,eq⟩:=JX hy1.2
  have q0:=h.keys y y32 fy q hq
  refine A.alike B hy1.1 hz1.1 ym zm hyz (h.s.hang y32 z32 hyz fy fz hs ?_)
  have:(sh:Int)=q.2.1 % 2:=by
   rw[←esh,←hk]
   congr 1
   omega
  rw[this]
  exact K9 hq q0 (h.keys z z32 fz) (eq ▸ hz1.2)
 ·rw[sE _ k hk _ _ _ (keys hn),sE _ k hk _ _ _ (keys hm)]
structure r7 (c:aK) (S:Sys) (B:Nat):Prop where
 inv:cC c S
 net:c.net=[]
 up:∀k,k<6→c.up k=true∧c.tear k=none
 log:∀k,k<6→(c.log k).length≤B
theorem jE.calm {c:aK} {S:Sys} {n B:Nat} (h:jE c S [] n B):r7 c S B:=⟨h.inv,by rw[h.net];rfl,h.up,h.log⟩
theorem GO (c:aF) (id:Int):(bU c id).length≤18:=by
 have h1:=qJ (bU c id)
 have h2:=uR c id
 split at h2<;>omega
theorem r7.phase {c:aK} {S:Sys} {B n:Nat} (h:r7 c S B) (hn:n<c.cnt):∃T F,jE (doA c ⟨5,(n:Int),0,[]⟩).1 T F n B∧kF S T n∧T.C=S.C∧T.B=S.B∧F=bU (S.C n) (n:Int):=by
 have n32:n<32:=by have:=h.inv.cnt.1;omega
 have hb:=(h.inv.cnt.2 n n32).2 hn
 have R0:=h.inv.t.case n n32 hb
 have own:=h.inv.u.own n n32
 have e:(doA c ⟨5,(n:Int),0,[]⟩).1={ c with net:=bY c.net (bU (S.C n) (n:Int)) }:=by
  unfold doA
  simp only
  rw[if_neg (by decide),if_neg (by decide),if_pos (by decide),if_neg (by omega),Int.toNat_natCast,h.inv.cs]
 have enet:bY c.net (bU (S.C n) (n:Int))=(bU (S.C n) (n:Int)).map bR:=by
  have:=GO (S.C n) (n:Int)
  rw[nS _ _ (by rw[h.net];simp;omega),h.net,List.nil_append]
 have hI:cC { c with net:=bY c.net (bU (S.C n) (n:Int)) } ⟨S.B,S.C,fun g=>S.M g∨g∈bU (S.C n) (n:Int)⟩:=by
  refine⟨h.inv.t.again n32,h.inv.u.again n,fun g hg=>?_,h.inv.bound,fun t ht=>?_,h.inv.cs,fun n hn=>oO (h.inv.log n hn) rfl rfl rfl rfl rfl,h.inv.cnt⟩
  ·rcases hg with hg | hg
   ·exact h.inv.good g hg
   ·exact jM hg
  ·rcases lF _ _ _ ht with ht | ⟨g,hg1,hg2⟩
   ·obtain⟨g,hg1,hg2⟩:=h.inv.net t ht
    exact⟨g,Or.inl hg1,hg2⟩
   ·exact⟨g,Or.inr hg1,hg2⟩
 rw[e]
 refine⟨_,bU (S.C n) (n:Int),⟨hI,n32,hb,enet,fun f hf=>⟨Or.inr hf,(mL hf).2.2.2.1⟩,h.up,h.log,?_,fun hf k hk ht=>?_,fun hf k hk=>?_⟩,⟨fun _ _ _=>Int.le_refl _,fun _ _=>rfl,fun b=>⟨b,rfl⟩,fun _ h=>h⟩,rfl,rfl,rfl⟩
 ·have hw:=uR (S.C n) (n:Int)
  show wts (bU (S.C n) (n:Int))+iP (S.C n)≤31
  unfold iP
  split at hw<;>rename_i e
  ·rw[if_pos e];omega
  ·rw[if_neg e];omega
 ·rcases GN R0.good hb (by omega) own hf hk ht with a | ⟨g,g1,g2,g3⟩
  ·exact Or.inl a
  ·exact Or.inr ⟨g,g1,Or.inl g2,g3⟩
 ·rcases sF R0.good hb (by omega) own hf hk with a | ⟨g,g1,g2,g3⟩
  ·exact Or.inl a.1
  ·exact Or.inr ⟨g,g1,Or.inl g2,g3⟩
theorem cC.all_done {c:aK} {S:Sys} (h:cC c S) {k:Nat} (hk:k<6) (hc:∀i,i<c.cnt→2≤((S.B k).ent i).state):∀i,i<c.cnt→((S.B k).ent i).state=3:=by
 intro i hi
 have i32:i<32:=by have:=h.cnt.1;omega
 refine (h.u.settled k hk).done (h.t.s.good k hk) i32 fun d hd hid=>?_
 have beg:∀{x y:Nat},cE (S.B k).graph.adj x y→x<c.cnt→y<c.cnt:=by
  intro x y hxy
  induction hxy using cE.ind with
  | refl=>exact fun h=>h
  | step a _h ih=>
   rename_i x z y
   intro hx
   refine ih ?_
   have x32:x<32:=by have:=h.cnt.1;omega
   unfold bD.adj at a
   simp only[Bool.and_eq_true,decide_eq_true_iff] at a
   have hz:(z:Int)∈((S.B k).ent x).deps:=by simpa [aA.graph] using a.2
   rw[(h.t.s.ent2 k hk x x32 (hc x hx)).2] at hz
   exact (h.cnt.2 z a.1.1.2).1 (h.u.deps x x32 z hz)
 exact hc d (beg ((cH _ i32 d).1 hid) hi)
theorem cC.copies {c:aK} {S:Sys} (h:cC c S) {k m:Nat} (hk:k<6) (hm:m<6) (hs:ofL (k:Int)=ofL (m:Int)) (hk3:∀i,i<c.cnt→((S.B k).ent i).state=3) (hm3:∀i,i<c.cnt→((S.B m).ent i).state=3):(S.B k).vals=(S.B m).vals:=by
 have one:∀{k:Nat},k<6→(∀i,i<c.cnt→((S.B k).ent i).state=3)→∀x,x∈(S.B k).did↔x<c.cnt:=fun {k} hk h3 x=>by
  constructor
  ·intro hx
   have x32:=(h.t.sort k hk).sorted.lt x hx
   exact (h.cnt.2 x x32).1 (h.t.s.ent1 k hk x x32 (by rw[(j5 (h.t.s.good k hk) x32).1 hx];decide)).1
  ·intro hx
   have x32:x<32:=by have:=h.cnt.1;omega
   exact (j5 (h.t.s.good k hk) x32).2 (h3 x hx)
 exact h.t.alike hk hm hs fun x=>by rw[one hk hk3,one hm hm3]
theorem JO (l:List UInt8) {f:aC} (h:aP f=0) (n:Int):(iN l (bR f) n).length≤l.length+100:=by
 have:=BR h
 unfold iN
 split
 ·rw[List.length_append,List.length_take]
  omega
 ·omega
theorem MB (l:List UInt8) {f:aC} (h:aP f=0):(jH l (bR f)).length≤l.length+100:=by
 have:=BR h
 unfold jH
 split
 ·rw[List.length_append]
  omega
 ·omega
theorem tT {L:Nat→List UInt8} {n k B:Nat} {x:List UInt8} (hL:(L k).length≤B) (hx:n=k→x.length≤B):(upd L n x k).length≤B:=by
 by_cases e:k=n
 ·subst e;rw[aR];exact hx rfl
 ·rw[aM _ _ e];exact hL
theorem EF {c:aK} {f:aC} (hf:aP f=0) {k:Nat}:((come c f).1.log k).length≤(c.log k).length+100:=by
 unfold come
 split
 ·show (c.log k).length≤_;omega
 ·split
  ·show (c.log k).length≤_;omega
  ·split
   ·exact tT (by omega) (fun e=>by subst e;exact JO _ hf _)
   ·split
    ·show (c.log k).length≤_;omega
    ·exact tT (by omega) (fun e=>by subst e;exact MB _ hf)
theorem J8 {c:aK} {f:aC} (h:c.net.length≤60):(come c f).1.net.length≤60:=by
 unfold come
 split
 ·exact h
 ·split
  ·exact h
  ·split
   ·exact h
   ·split
    ·exact h
    ·exact nM _ _ h
theorem tY {c:aK} {S:Sys} (h:cC c S) {t:List UInt8} (ht:∃f,S.M f∧t=bR f) {k:Nat}:((c.bring t).1.log k).length≤(c.log k).length+100:=by
 obtain⟨f,hM,rfl⟩:=ht
 have e:eM (bR f)=f:=(lG (h.good f hM)).2
 unfold aK.bring
 rw[e]
 split
 ·exact EF (h.good f hM)
 ·show (c.log k).length≤_
  omega
theorem yG {c:aK} {t:List UInt8} (h:c.net.length≤60):(c.bring t).1.net.length≤60:=by
 unfold aK.bring
 split
 ·exact J8 h
 ·exact nM _ _ h
theorem wQ (l:List UInt8):(cS (qD l)).length≤l.length:=by
 obtain⟨t,_,_,e⟩:=nR l
 have:=congrArg List.length e
 rw[List.length_append] at this
 omega
theorem tO {c:aK} {k:Nat} (hk:k<c.net.length):c.net.getD k []∈c.net:=by
 rw[List.getD_eq_getElem?_getD,List.getElem?_eq_getElem hk]
 exact List.getElem_mem hk
theorem G2 {c:aK} {S:Sys} (h:cC c S) (a:fZ) (k:Nat):((doA c a).1.log k).length≤(c.log k).length+100:=by
 have same:(c.log k).length≤(c.log k).length+100:=by omega
 unfold doA
 split
 ·split
  ·exact same
  ·split
   ·exact same
   ·exact same
 ·split
  ·split
   ·exact same
   ·rename_i hn
    have hk:a.n.toNat<c.net.length:=by omega
    have less:cC (c.without a.n.toNat) S:=h.less fun t ht=>List.mem_of_mem_eraseIdx ht
    split
    ·exact same
    ·split
     ·exact tY less (h.net _ (tO hk))
     ·exact tY h (h.net _ (tO hk))
  ·split
   ·split
    ·exact same
    ·exact same
   ·split
    ·split
     ·exact same
     ·split
      ·split
       ·exact same
       ·exact tT same (fun e=>by subst e;have:=wQ (c.log a.n.toNat);omega)
      ·split
       ·exact same
       ·split
        ·exact same
        ·exact same
    ·exact same
theorem MQ {c:aK} (h:c.net.length≤60) (a:fZ):(doA c a).1.net.length≤60:=by
 have less:∀k,(c.net.eraseIdx k).length≤60:=fun k=>Nat.le_trans (List.length_eraseIdx_le _ _) h
 unfold doA
 split
 ·split
  ·exact h
  ·split
   ·exact h
   ·exact nM _ _ h
 ·split
  ·split
   ·exact h
   ·split
    ·exact less _
    ·split
     ·exact yG (c:=c.without _) (less _)
     ·exact yG h
  ·split
   ·split
    ·exact h
    ·exact nM _ _ h
   ·split
    ·split
     ·exact h
     ·split
      ·split<;>exact h
      ·split
       ·exact h
       ·split<;>exact h
    ·exact h
structure fV (c:aK) (acts:Nat):Prop where
 inv:∃S,cC c S
 net:c.net.length≤60
 log:∀k,(c.log k).length≤100*acts
theorem fV.start:fV kO 0:=⟨⟨_,cC.start⟩,Nat.zero_le _,fun _=>Nat.zero_le _⟩
theorem fV.act {c:aK} {acts:Nat} (h:fV c acts) (a:fZ):fV (doA c a).1 (acts+1):=by
 obtain⟨S,hS⟩:=h.inv
 obtain⟨T,hT,_⟩:=hS.act a
 exact⟨⟨T,hT⟩,MQ h.net a,fun k=>Nat.le_trans (G2 hS a k) (by have:=h.log k;omega)⟩
theorem fV.more {c:aK} {acts acts':Nat} (h:fV c acts) (ha:acts≤acts'):fV c acts':=⟨h.inv,h.net,fun k=>Nat.le_trans (h.log k) (by omega)⟩
theorem AT {c:aK} {S:Sys} (h:cC c S) {n:Nat} (hn:n<6) (hu:c.up n=false):c.tear n=none:=by
 obtain⟨_,_,_,_,_,_,_,l⟩:=h.log n hn
 exact (l hu).2
theorem MY {f:aC} (h:aP f=0):1≤f.kind∧f.kind≤5:=by
 unfold aP at h
 split at h
 ·omega
 ·rename_i hn
  omega
theorem AJ {c:aK} {S:Sys} (h:cC c S) {f:aC} (hM:S.M f) (hk:f.kind≠1∧f.kind≠3):(S.C f.id.toNat).begun=true:=by
 obtain⟨hr1,hr2⟩:=h.t.s.rng f hM
 have hn6:f.node.toNat<6:=by omega
 have hi:f.id.toNat<32:=by omega
 have hb:=MY (h.good f hM)
 have key:1≤((S.B f.node.toNat).ent f.id.toNat).state:=by
  have k:f.kind=2∨f.kind=4∨f.kind=5:=by omega
  rcases k with k | k | k
  ·exact (h.t.s.tel f hM k).1
  ·have:=h.u.kn f hM k;omega
  ·have:=(h.t.s.don f hM k).1;omega
 exact (h.t.s.ent1 _ hn6 _ hi key).1
theorem EE {c:aK} {S:Sys} (h:cC c S) {t:List UInt8} (ht:∃f,S.M f∧t=bR f) (hl:∀k,(c.log k).length≤60000):(c.bring t).2.code=0∨(c.bring t).2.code=6:=by
 obtain⟨f,hM,rfl⟩:=ht
 have e:eM (bR f)=f:=(lG (h.good f hM)).2
 obtain⟨hr1,hr2⟩:=h.t.s.rng f hM
 have hn6:f.node.toNat<6:=by omega
 unfold aK.bring
 rw[e]
 by_cases hk:f.kind=1∨f.kind=3
 ·rw[if_pos hk]
  have key:(come c f).2=0∨(come c f).2=6:=by
   cases hu:c.up f.node.toNat
   ·unfold Go.Proofs.YtkoefoccbjhoiacGreat.come
    rw[if_pos hu]
    exact Or.inr rfl
   ·cases ht:c.tear f.node.toNat
    ·rw[(xI h hM hk hu ht (hl _)).2]
     exact Or.inl rfl
    ·obtain⟨_,_,_,_,_,_,l5,_⟩:=h.log _ hn6
     have est:=(l5 hu).2
     have h0:(aO (S.B f.node.toNat) f.node f).2.2=0:=D4 (h.t.s.good _ hn6) hr1 (h.good f hM) (by
      rcases hk with hk | hk
      ·exact Or.inl ⟨hk,h.u.ask f hM hk⟩
      ·exact Or.inr hk)
     unfold Go.Proofs.YtkoefoccbjhoiacGreat.come
     rw[if_neg (by rw[hu];decide),est,if_neg (by rw[h0];decide),ht]
     exact Or.inr rfl
  rcases key with k | k
  ·left;simp only;rw[if_pos k]
  ·right;simp only;rw[if_neg (by rw[k];decide)];exact k
 ·rw[if_neg hk]
  have hk':f.kind≠1∧f.kind≠3:=by omega
  have hb:=AJ h hM hk'
  have hi:f.id.toNat<32:=by omega
  have hid:(f.id.toNat:Int)=f.id:=by omega
  have own:=h.u.own _ hi
  rw[hid] at own
  have h0:(c.answer f).2=0:=by
   show (aN (c.cs f.id.toNat) f.id f).2.2=0
   rw[h.cs]
   exact B9 (h.t.case _ hi hb).good hb rfl own (h.good f hM) hk'
  left;simp only;rw[if_pos h0]
theorem AS {c:aK} {n:Nat} (hn:n<6) (hu:c.up n=true):doA c ⟨6,(n:Int),0,[]⟩=(c.crash n,⟨0,0,[]⟩):=by
 unfold doA
 simp only
 rw[if_neg (by decide),if_neg (by decide),if_neg (by decide),if_pos (by decide),if_neg (by omega),if_neg (by decide),Int.toNat_natCast,if_neg (by rw[hu];decide),if_pos (by decide)]
theorem xJ {c:aK} {n:Nat} (hn:n<6) (hu:c.up n=false):doA c ⟨6,(n:Int),0,[]⟩=(c,⟨6,0,[]⟩):=by
 unfold doA
 simp only
 rw[if_neg (by decide),if_neg (by decide),if_neg (by decide),if_pos (by decide),if_neg (by omega),if_neg (by decide),Int.toNat_natCast,if_pos hu]
theorem zP {c:aK} {n:Nat} (hn:n<6) (hu:c.up n=false):doA c ⟨8,(n:Int),0,[]⟩=(c.rise n (qD (c.log n)),⟨0,0,[]⟩):=by
 unfold doA
 simp only
 rw[if_neg (by decide),if_neg (by decide),if_neg (by decide),if_pos (by decide),if_neg (by omega),if_pos (by decide),Int.toNat_natCast,if_neg (by rw[hu];decide)]
theorem KC {c:aK} (h:c.net≠[]):doA c ⟨4,0,0,[]⟩=(c.without 0,⟨0,(eM (c.net.getD 0 [])).id,[]⟩):=by
 have h0:0<c.net.length:=List.length_pos_iff.2 h
 unfold doA
 simp only
 rw[if_neg (by decide),if_pos (by decide),if_neg (by omega),if_pos (by decide)]
 rfl
def pM (c:aK) (k:Nat):Prop:=∀i,i<k→c.up i=true∧c.tear i=none
theorem I7 {c:aK} {S:Sys} {B n:Nat} (h:cC c S) (hn:n<6) (hU:pM c n) (hB:∀k,k<6→(c.log k).length≤B):
    (doA (doA c ⟨6,(n:Int),0,[]⟩).1 ⟨8,(n:Int),0,[]⟩).2.code=0∧cC (doA (doA c ⟨6,(n:Int),0,[]⟩).1 ⟨8,(n:Int),0,[]⟩).1 S∧pM (doA (doA c ⟨6,(n:Int),0,[]⟩).1 ⟨8,(n:Int),0,[]⟩).1 (n+1)∧
    (∀k,k<6→((doA (doA c ⟨6,(n:Int),0,[]⟩).1 ⟨8,(n:Int),0,[]⟩).1.log k).length≤B)∧(doA (doA c ⟨6,(n:Int),0,[]⟩).1 ⟨8,(n:Int),0,[]⟩).1.cnt=c.cnt:=by
  have key:∀d:aK,cC d S→d.up n=false→pM d n→(∀k,k<6→(d.log k).length≤B)→d.cnt=c.cnt→
      (doA d ⟨8,(n:Int),0,[]⟩).2.code=0∧cC (doA d ⟨8,(n:Int),0,[]⟩).1 S∧pM (doA d ⟨8,(n:Int),0,[]⟩).1 (n+1)∧(∀k,k<6→((doA d ⟨8,(n:Int),0,[]⟩).1.log k).length≤B)∧(doA d ⟨8,(n:Int),0,[]⟩).1.cnt=c.cnt:=by
    intro d hd hu hUd hBd hcd
    rw[zP hn hu]
    obtain⟨t,r1,r2,r3⟩:=nR (d.log n)
    refine⟨rfl,hd.rise hn r1 r2 r3,fun i hi=>?_,fun k hk=>?_,hcd⟩
    ·by_cases e:i=n
     ·subst e
      exact⟨aR _ _ _,AT hd hn hu⟩
     ·have:=hUd i (by omega)
      exact⟨(aM _ _ e).trans this.1,this.2⟩
    ·exact tT (hBd k hk) (fun e=>by subst e;exact Nat.le_trans (wQ _) (hBd _ hk))
  cases hu:c.up n
  ·rw[xJ hn hu]
   exact key c h hu hU hB rfl
  ·rw[AS hn hu]
   exact key _ (h.crash n) (aR _ _ _) (fun i hi=>by
     have:=hU i hi
     exact⟨(aM _ _ (by omega)).trans this.1,(aM _ _ (by omega)).trans this.2⟩) hB rfl
theorem MS {c:aK} {S:Sys} (h:cC c S) (hne:c.net≠[]):(doA c ⟨4,0,0,[]⟩).2.code=0∧cC (doA c ⟨4,0,0,[]⟩).1 S∧(doA c ⟨4,0,0,[]⟩).1={ c with net:=c.net.eraseIdx 0 }∧(doA c ⟨4,0,0,[]⟩).1.net.length+1=c.net.length:=by
 have h0:0<c.net.length:=List.length_pos_iff.2 hne
 rw[KC hne]
 refine⟨rfl,h.less fun t ht=>List.mem_of_mem_eraseIdx ht,rfl,?_⟩
 show (c.net.eraseIdx 0).length+1=_
 rw[List.length_eraseIdx]
 split<;>omega
theorem J7 {c d:aK} {S T:Sys} {n:Nat} (h:cC c S) (k:cC d T) (a:kF S T n) (hb:(S.C n).begun=true):d.cnt=c.cnt:=by
 have e:∀i,i<32→(i<d.cnt↔i<c.cnt):=fun i hi=>by
  rw[←h.cnt.2 i hi,←k.cnt.2 i hi]
  by_cases ei:i=n
  ·subst ei
   exact⟨fun _=>hb,fun _=>(a.mine hb).1⟩
  ·rw[a.other i ei]
 have h1:=h.cnt.1
 have h2:=k.cnt.1
 rcases Nat.lt_trichotomy d.cnt c.cnt with l | l | l
 ·have:=(e d.cnt (by omega)).2 l;omega
 ·exact l
 ·have:=(e c.cnt (by omega)).1 l;omega
theorem r7.round {c:aK} {S:Sys} {B n:Nat} (h:r7 c S B) (hn:n<c.cnt) (hB:B+3100≤60000):
  ∃k d T,k≤31∧oC k (doA c ⟨5,(n:Int),0,[]⟩).1 d∧r7 d T (B+3100)∧d.cnt=c.cnt∧kF S T n∧((T.C n).fixed=true∧∀k,k<6→2≤((T.B k).ent n).state)∧
   ((S.C n).fixed=true→(∀k,k<6→((S.B k).ent n).state=3)→(cN (T.C n)).2=true):=by
 have n32:n<32:=by have:=h.inv.cnt.1;omega
 have hb:=(h.inv.cnt.2 n n32).2 hn
 have R0:=h.inv.t.case n n32 hb
 have own:=h.inv.u.own n n32
 obtain⟨T0,F,P,A,eC,eB,eF⟩:=h.phase hn
 obtain⟨k,d,T,k1,k2,k3,k4,k5⟩:=P.drains 31 P.pot (by omega)
 obtain⟨e1,e2⟩:=k3.ended
 refine⟨k,d,T,k1,k2,k3.calm,J7 h.inv k3.inv (A.trans k4) hb,A.trans k4,⟨e1,fun k hk=>(e2 k hk).2⟩,fun hf h3=>?_⟩
 have D0:Dn T0 F n:=by
  unfold Dn
  rw[eC,eB]
  refine⟨hf,h3,fun i hi=>?_⟩
  cases hh:(S.C n).has i
  ·right
   have key:∀k:Nat,k<6→fL (ofL (k:Int)) ((S.C n).ops.getD i (0,0,0))=true→∃f∈F,(f.kind=3∨f.kind=5)∧fL (ofL f.node) ((S.C n).ops.getD i (0,0,0))=true:=by
    intro k hk ht
    rcases sF R0.good hb (by omega) own hf hk with ⟨_,a⟩ | ⟨g,g1,g2,g3⟩
    ·unfold aF.lacks at a
     rw[List.any_eq_false] at a
     exact absurd (by rw[ht,hh];rfl) (a i (List.mem_range.2 hi))
    ·exact⟨g,by rw[eF];exact g1,Or.inl g2,by rw[g3];exact ht⟩
   by_cases e:fL (ofL ((0:Nat):Int)) ((S.C n).ops.getD i (0,0,0))=true
   ·exact key 0 (by omega) e
   ·refine key 3 (by omega) ?_
    unfold fL ofL at e ⊢
    simp at e ⊢
    omega
  ·exact Or.inl rfl
 obtain⟨_,_,dn⟩:=k5 D0
 have RT:=k3.inv.t.case n n32 k3.begun
 have hl:=fun sh=>sN (c:=T.C n) (fun i hi=>(dn i hi).resolve_right (by rintro⟨f,hf,_⟩;simp at hf)) sh
 unfold cN
 rw[if_neg]
 rintro (e | e | e | e)
 ·rw[k3.begun] at e;cases e
 ·rw[RT.good] at e;cases e
 ·rw[hl] at e;cases e
 ·rw[hl] at e;cases e
def xE (c:aK) (S:Sys) (B n:Nat):Prop:=r7 c S B∧∀i,i<n→(S.C i).fixed=true∧∀k,k<6→2≤((S.B k).ent i).state
theorem xE.step {c:aK} {S:Sys} {B n:Nat} (h:xE c S B n) (hn:n<c.cnt) (hB:B+3100≤60000):∃k d T,k≤31∧oC k (doA c ⟨5,(n:Int),0,[]⟩).1 d∧xE d T (B+3100) (n+1)∧d.cnt=c.cnt:=by
 obtain⟨k,d,T,h1,h2,h3,h4,h5,h6,_⟩:=h.1.round hn hB
 refine⟨k,d,T,h1,h2,⟨h3,fun i hi=>?_⟩,h4⟩
 by_cases e:i=n
 ·rw[e];exact h6
 ·obtain⟨a,b⟩:=h.2 i (by omega)
  exact⟨by rw[h5.other i e];exact a,fun k hk=>Int.le_trans (b k hk) (h5.state k hk i)⟩
structure mR (c:aK) (S:Sys) (B n:Nat):Prop where
 calm:r7 c S B
 all:∀i,i<c.cnt→(S.C i).fixed=true∧∀k,k<6→((S.B k).ent i).state=3
 told:∀i,i<n→(cN (S.C i)).2=true
theorem xE.twice {c:aK} {S:Sys} {B:Nat} (h:xE c S B c.cnt):mR c S B 0:=
 ⟨h.1,fun i hi=>⟨(h.2 i hi).1,fun k hk=>h.1.inv.all_done hk (fun j hj=>(h.2 j hj).2 k hk) i hi⟩,fun i hi=>absurd hi (Nat.not_lt_zero i)⟩
theorem mR.step {c:aK} {S:Sys} {B n:Nat} (h:mR c S B n) (hn:n<c.cnt) (hB:B+3100≤60000):∃k d T,k≤31∧oC k (doA c ⟨5,(n:Int),0,[]⟩).1 d∧mR d T (B+3100) (n+1)∧d.cnt=c.cnt:=by
 obtain⟨k,d,T,h1,h2,h3,h4,h5,h6,h7⟩:=h.calm.round hn hB
 obtain⟨a,b⟩:=h.all n hn
 have r:=h7 a b
 refine⟨k,d,T,h1,h2,⟨h3,fun i hi=>?_,fun i hi=>?_⟩,h4⟩
 ·rw[h4] at hi
  have i32:i<32:=by have:=h.calm.inv.cnt.1;omega
  refine⟨?_,fun k hk=>?_⟩
  ·by_cases e:i=n
   ·rw[e];exact h6.1
   ·rw[h5.other i e];exact (h.all i hi).1
  ·have:=h5.state k hk i
   have s3:=(h.all i hi).2 k hk
   have:=((h3.inv.t.s.good k hk).state i32).2
   omega
 ·by_cases e:i=n
  ·rw[e];exact r
  ·rw[h5.other i e];exact h.told i (by omega)
theorem mR.done {c:aK} {S:Sys} {B:Nat} (h:mR c S B c.cnt):
  (∀i,i<c.cnt→(cN (c.cs i)).2=true∧∀k,k<6→((c.st k).ent i).state=3)∧∀k m:Nat,k<6→m<6→ofL (k:Int)=ofL (m:Int)→(c.st k).vals=(c.st m).vals:=by
 have st:∀k,k<6→c.st k=S.B k:=fun k hk=>by
  obtain⟨_,_,_,_,_,_,l,_⟩:=h.calm.inv.log k hk
  exact (l (h.calm.up k hk).1).2
 refine⟨fun i hi=>⟨by rw[h.calm.inv.cs];exact h.told i hi,fun k hk=>by rw[st k hk];exact (h.all i hi).2 k hk⟩,fun k m hk hm hs=>?_⟩
 rw[st k hk,st m hm]
 exact h.calm.inv.copies hk hm hs (fun i hi=>(h.all i hi).2 k hk) (fun i hi=>(h.all i hi).2 m hm)
structure cA (ok:Nat→Prop) (w:World) (nv:Nat→Value) (c:aF):Prop where
 begun:nv 0= .bool c.begun
 fixed:nv 1= .bool c.fixed
 ops:IsO ok w (nv 2) c.ops
 told:∀i,i<6→nv (3+i)= .bool (c.told i)
 known:∀i,i<6→nv (9+i)= .bool (c.known i)
 deps:IsI ok w (nv 15) c.deps
 has:∀i,i<4→nv (16+i)= .bool (c.has i)
 vals:∀i,i<4→nv (20+i)= .int .i64 (c.vals i)
theorem cA.later {ok:Nat→Prop} {w w':World} {nv:Nat→Value} {c:aF} (h:cA ok w nv c) (hB:bN ok w w'):cA ok w' nv c:=
 ⟨h.begun,h.fixed,h.ops.later hB,h.told,h.known,h.deps.later hB,h.has,h.vals⟩
theorem cA.mono {ok ok':Nat→Prop} {w:World} {nv:Nat→Value} {c:aF} (h:cA ok w nv c) (hk:∀k,k<w.heap.size→ok k→ok' k):cA ok' w nv c:=
 ⟨h.begun,h.fixed,h.ops.mono hk,h.told,h.known,h.deps.mono hk,h.has,h.vals⟩
theorem cA.below {w w':World} {nv:Nat→Value} {c:aF} (h:cA (· <w.heap.size) w nv c) (hb:Below w.heap.size w w'):cA (· <w'.heap.size) w' nv c:=
 (h.later (bN.of_size hb)).mono (fun k _ (h:k<w.heap.size)=>by have:=hb.size;show k<_;omega)
theorem cA.any {ok:Nat→Prop} {w:World} {nv:Nat→Value} {c:aF} (h:cA ok w nv c):cA (· <w.heap.size) w nv c:=h.mono (fun _ h _=>h)
theorem cA.one {ok:Nat→Prop} {w:World} {nv:Nat→Value} {c:aF} (h:cA ok w nv c):∀i,i<24→(nv i).oneCell'=true:=by
 intro i hi
 by_cases h0:i=0
 ·subst h0;rw[h.begun];rfl
 by_cases h1:i=1
 ·subst h1;rw[h.fixed];rfl
 by_cases h2:i=2
 ·subst h2;exact h.ops.one
 by_cases h3:i<9
 ·have:=h.told (i-3) (by omega)
  rw[show 3+(i-3)=i by omega] at this
  rw[this];rfl
 by_cases h4:i<15
 ·have:=h.known (i-9) (by omega)
  rw[show 9+(i-9)=i by omega] at this
  rw[this];rfl
 by_cases h5:i=15
 ·subst h5;exact h.deps.one
 by_cases h6:i<20
 ·have:=h.has (i-16) (by omega)
  rw[show 16+(i-16)=i by omega] at this
  rw[this];rfl
 ·have:=h.vals (i-20) (by omega)
  rw[show 20+(i-20)=i by omega] at this
  rw[this];rfl
def zcv (i:Nat):Value:=if i=2∨i=15 then .slice none 0 0 else if 20≤i then .int .i64 0 else .bool false
theorem oV (ok:Nat→Prop) (w:World):cA ok w zcv cF:=
 ⟨rfl,rfl,IsO.nil ok w,fun i hi=>by
   unfold zcv;rw[if_neg (by omega),if_neg (by omega)];rfl,fun i hi=>by
   unfold zcv;rw[if_neg (by omega),if_neg (by omega)];rfl,IsI.nil ok w,fun i hi=>by
   unfold zcv;rw[if_neg (by omega),if_neg (by omega)];rfl,fun i hi=>by
   unfold zcv;rw[if_neg (by omega),if_pos (by omega)];rfl⟩
theorem Tryz.infoCase:(Tryz.prog.info? 47).map (·.size)=some 24:=by kernel_rfl
theorem Tryz.zeroCase:(Tryz.prog.info? 47).map (·.zero)=some (some (.agg (aD 24 zcv))):=by kernel_rfl
def j3 (ok:Nat→Prop) (w:World) (a:Option Addr) (zs:List (List UInt8)):Prop:=
 zs=[]∨∃b off,a=some ⟨b,off,none⟩∧ok b∧∀i,i<zs.length→w.cell? ⟨b,off+i,none⟩=some (.string (str (zs.getD i [])))
theorem j3.later {ok:Nat→Prop} {w w':World} {a:Option Addr} {zs:List (List UInt8)} (h:j3 ok w a zs) (hB:bN ok w w'):j3 ok w' a zs:=by
 rcases h with h | ⟨b,off,ha,hb,hc⟩
 ·exact Or.inl h
 ·exact Or.inr ⟨b,off,ha,hb,fun i hi=>hB.cell (hc i hi) hb⟩
theorem j3.mono {ok ok':Nat→Prop} {w:World} {a:Option Addr} {zs:List (List UInt8)} (h:j3 ok w a zs) (hk:∀k,k<w.heap.size→ok k→ok' k):j3 ok' w a zs:=by
 rcases h with h | ⟨b,off,ha,hb,hc⟩
 ·exact Or.inl h
 ·cases zs with
  | nil=>exact Or.inl rfl
  | cons z r=>exact Or.inr ⟨b,off,ha,hk b (World.block_lt_of_cell? w _ (hc 0 (by simp))) hb,hc⟩
def IsT (ok:Nat→Prop) (w:World) (v:Value) (zs:List (List UInt8)):Prop:=∃a cap,v= .slice a zs.length cap∧j3 ok w a zs∧zs.length*16≤140737488355328∧zs.length≤cap∧(a=none→zs.length=0∧cap=0)
theorem IsT.later {ok:Nat→Prop} {w w':World} {v:Value} {zs:List (List UInt8)} (h:IsT ok w v zs) (hB:bN ok w w'):IsT ok w' v zs:=by
 obtain⟨a,cap,h1,h2,h3⟩:=h
 exact⟨a,cap,h1,h2.later hB,h3⟩
theorem IsT.mono {ok ok':Nat→Prop} {w:World} {v:Value} {zs:List (List UInt8)} (h:IsT ok w v zs) (hk:∀k,k<w.heap.size→ok k→ok' k):IsT ok' w v zs:=by
 obtain⟨a,cap,h1,h2,h3⟩:=h
 exact⟨a,cap,h1,h2.mono hk,h3⟩
theorem IsT.nil (ok:Nat→Prop) (w:World):IsT ok w (.slice none 0 0) []:=⟨none,0,rfl,Or.inl rfl,by decide,Nat.le_refl _,fun _=>⟨rfl,rfl⟩⟩
structure k7 (ok:Nat→Prop) (w:World) (mv:Nat→Value) (up:Bool) (st:aA) (log:List UInt8) (tear:Option Int):Prop where
 st:bM ok w mv st
 log:mv 201= .string (str log)
 down:mv 202= .bool (!up)
 torn:mv 203= .bool tear.isSome
 tear:mv 204= .int .i64 (tear.getD 0)
theorem bM.same {ok:Nat→Prop} {w:World} {nv nv':Nat→Value} {s:aA} (h:bM ok w nv s) (hn:∀j,j<201→nv' j=nv j):bM ok w nv' s:=
 ⟨⟨fun i hi=>(h.es.ent i hi).same fun j hj=>hn _ (by omega),fun k hk=>by rw[hn _ (by omega)];exact h.es.vals k hk⟩,by rw[hn _ (by omega)];exact h.order⟩
theorem cA.same {ok:Nat→Prop} {w:World} {nv nv':Nat→Value} {c:aF} (h:cA ok w nv c) (hn:∀j,j<24→nv' j=nv j):cA ok w nv' c:=
  ⟨by rw[hn _ (by omega)];exact h.begun,by rw[hn _ (by omega)];exact h.fixed,by rw[hn _ (by omega)];exact h.ops,fun i hi=>by rw[hn _ (by omega)];exact h.told i hi,fun i hi=>by rw[hn _ (by omega)];exact h.known i hi,
    by rw[hn _ (by omega)];exact h.deps,fun i hi=>by rw[hn _ (by omega)];exact h.has i hi,fun i hi=>by rw[hn _ (by omega)];exact h.vals i hi⟩
theorem k7.same {ok:Nat→Prop} {w:World} {nv nv':Nat→Value} {up:Bool} {st:aA} {log:List UInt8} {tear:Option Int} (h:k7 ok w nv up st log tear) (hn:∀j,j<205→nv' j=nv j):k7 ok w nv' up st log tear:=
 ⟨h.st.same fun j hj=>hn j (by omega),by rw[hn _ (by omega)];exact h.log,by rw[hn _ (by omega)];exact h.down,by rw[hn _ (by omega)];exact h.torn,by rw[hn _ (by omega)];exact h.tear⟩
theorem k7.later {ok:Nat→Prop} {w w':World} {nv:Nat→Value} {up:Bool} {st:aA} {log:List UInt8} {tear:Option Int} (h:k7 ok w nv up st log tear) (hB:bN ok w w'):k7 ok w' nv up st log tear:=⟨h.st.later hB,h.log,h.down,h.torn,h.tear⟩
theorem k7.mono {ok ok':Nat→Prop} {w:World} {nv:Nat→Value} {up:Bool} {st:aA} {log:List UInt8} {tear:Option Int} (h:k7 ok w nv up st log tear) (hk:∀k,k<w.heap.size→ok k→ok' k):k7 ok' w nv up st log tear:=⟨h.st.mono hk,h.log,h.down,h.torn,h.tear⟩
theorem k7.one {ok:Nat→Prop} {w:World} {nv:Nat→Value} {up:Bool} {st:aA} {log:List UInt8} {tear:Option Int} (h:k7 ok w nv up st log tear):∀i,i<205→(nv i).oneCell'=true:=by
 intro i hi
 by_cases h0:i<201
 ·exact h.st.one i h0
 by_cases h1:i=201
 ·subst h1;rw[h.log];rfl
 by_cases h2:i=202
 ·subst h2;rw[h.down];rfl
 by_cases h3:i=203
 ·subst h3;rw[h.torn];rfl
 ·obtain rfl:i=204:=by omega
  rw[h.tear];rfl
structure fS (ok:Nat→Prop) (w:World) (cv:Nat→Value) (acts:Nat) (c:aK):Prop where
 acts:cv 0= .int .i64 acts
 cnt:cv 1= .int .i64 c.cnt
 mem:∀n,n<6→k7 ok w (fun i=>cv (2+n*205+i)) (c.up n) (c.st n) (c.log n) (c.tear n)
 cs:∀n,n<32→cA ok w (fun i=>cv (1232+n*24+i)) (c.cs n)
 net:IsT ok w (cv 2000) c.net
theorem fS.later {ok:Nat→Prop} {w w':World} {cv:Nat→Value} {acts:Nat} {c:aK} (h:fS ok w cv acts c) (hB:bN ok w w'):fS ok w' cv acts c:=
 ⟨h.acts,h.cnt,fun n hn=>(h.mem n hn).later hB,fun n hn=>(h.cs n hn).later hB,h.net.later hB⟩
theorem fS.mono {ok ok':Nat→Prop} {w:World} {cv:Nat→Value} {acts:Nat} {c:aK} (h:fS ok w cv acts c) (hk:∀k,k<w.heap.size→ok k→ok' k):fS ok' w cv acts c:=
 ⟨h.acts,h.cnt,fun n hn=>(h.mem n hn).mono hk,fun n hn=>(h.cs n hn).mono hk,h.net.mono hk⟩
theorem fS.setMem {ok:Nat→Prop} {w:World} {cv cv':Nat→Value} {acts:Nat} {c:aK} (h:fS ok w cv acts c) {n:Nat} (hn:n<6) (ho:∀i,i<2001→(i<2+n*205∨2+n*205+205≤i)→cv' i=cv i)
  {up:Bool} {st:aA} {log:List UInt8} {tear:Option Int} (hm:k7 ok w (fun i=>cv' (2+n*205+i)) up st log tear):fS ok w cv' acts { c with up:=upd c.up n up,st:=upd c.st n st,log:=upd c.log n log,tear:=upd c.tear n tear }:=by
 refine⟨by rw[ho 0 (by omega) (by omega)];exact h.acts,by rw[ho 1 (by omega) (by omega)];exact h.cnt,fun k hk=>?_,fun k hk=>(h.cs k hk).same fun j hj=>ho _ (by omega) (by omega),by rw[ho 2000 (by omega) (by omega)];exact h.net⟩
 show k7 ok w _ (upd c.up n up k) (upd c.st n st k) (upd c.log n log k) (upd c.tear n tear k)
 by_cases e:k=n
 ·subst e
  rw[aR,aR,aR,aR]
  exact hm
 ·rw[aM _ _ e,aM _ _ e,aM _ _ e,aM _ _ e]
  exact (h.mem k hk).same fun j hj=>ho _ (by omega) (by omega)
theorem fS.setCase {ok:Nat→Prop} {w:World} {cv cv':Nat→Value} {acts:Nat} {c:aK} (h:fS ok w cv acts c) {n:Nat} (hn:n<32) (ho:∀i,i<2001→(i<1232+n*24∨1232+n*24+24≤i)→cv' i=cv i)
  {x:aF} (hm:cA ok w (fun i=>cv' (1232+n*24+i)) x):fS ok w cv' acts { c with cs:=upd c.cs n x }:=by
 refine⟨by rw[ho 0 (by omega) (by omega)];exact h.acts,by rw[ho 1 (by omega) (by omega)];exact h.cnt,fun k hk=>(h.mem k hk).same fun j hj=>ho _ (by omega) (by omega),fun k hk=>?_,by rw[ho 2000 (by omega) (by omega)];exact h.net⟩
 show cA ok w _ (upd c.cs n x k)
 by_cases e:k=n
 ·subst e
  rw[aR]
  exact hm
 ·rw[aM _ _ e]
  exact (h.cs k hk).same fun j hj=>ho _ (by omega) (by omega)
def eQ (cv:Nat→Value) (m:Nat) (v:Value) (i:Nat):Value:=if i=m then v else cv i
theorem fS.setNet {ok:Nat→Prop} {w:World} {cv:Nat→Value} {acts:Nat} {c:aK} (h:fS ok w cv acts c) {v:Value} {net:List (List UInt8)} (hv:IsT ok w v net):fS ok w (eQ cv 2000 v) acts { c with net:=net }:=by
 have ho:∀i,i<2000→eQ cv 2000 v i=cv i:=fun i hi=>if_neg (by omega)
 exact⟨by rw[ho 0 (by omega)];exact h.acts,by rw[ho 1 (by omega)];exact h.cnt,fun k hk=>(h.mem k hk).same fun j hj=>ho _ (by omega),fun k hk=>(h.cs k hk).same fun j hj=>ho _ (by omega),hv⟩
theorem fS.setActs {ok:Nat→Prop} {w:World} {cv:Nat→Value} {acts:Nat} {c:aK} (h:fS ok w cv acts c) (m:Nat):fS ok w (eQ cv 0 (.int .i64 m)) m c:=by
 have ho:∀i,i≠0→eQ cv 0 (.int .i64 m) i=cv i:=fun i hi=>if_neg hi
 exact⟨rfl,by rw[ho 1 (by omega)];exact h.cnt,fun k hk=>(h.mem k hk).same fun j hj=>ho _ (by omega),fun k hk=>(h.cs k hk).same fun j hj=>ho _ (by omega),by rw[ho 2000 (by omega)];exact h.net⟩
theorem fS.setCnt {ok:Nat→Prop} {w:World} {cv:Nat→Value} {acts:Nat} {c:aK} (h:fS ok w cv acts c) (m:Nat):fS ok w (eQ cv 1 (.int .i64 m)) acts { c with cnt:=m }:=by
 have ho:∀i,i≠1→eQ cv 1 (.int .i64 m) i=cv i:=fun i hi=>if_neg hi
 exact⟨by rw[ho 0 (by omega)];exact h.acts,rfl,fun k hk=>(h.mem k hk).same fun j hj=>ho _ (by omega),fun k hk=>(h.cs k hk).same fun j hj=>ho _ (by omega),by rw[ho 2000 (by omega)];exact h.net⟩
structure aE (ok:Nat→Prop) (w:World) (p:Nat) (cv:Nat→Value) (acts:Nat) (c:aK):Prop where
 row:w.heap[p]? =some (.cells (aD 2001 cv) 92 (0,0))
 clu:fS ok w cv acts c
 out:¬ ok p
theorem aE.blk {ok:Nat→Prop} {w:World} {p:Nat} {cv:Nat→Value} {acts:Nat} {c:aK} (h:aE ok w p cv acts c):bI 2001 w p cv:=⟨_,h.row⟩
theorem aE.lt {ok:Nat→Prop} {w:World} {p:Nat} {cv:Nat→Value} {acts:Nat} {c:aK} (h:aE ok w p cv acts c):p<w.heap.size:=h.blk.lt
theorem aE.later {ok:Nat→Prop} {w w':World} {p:Nat} {cv:Nat→Value} {acts:Nat} {c:aK} (h:aE ok w p cv acts c) (hB:bN ok w w') (hp:w'.heap[p]? =w.heap[p]?):aE ok w' p cv acts c:=⟨hp.trans h.row,h.clu.later hB,h.out⟩
theorem aE.below {ok:Nat→Prop} {w w':World} {p:Nat} {cv:Nat→Value} {acts:Nat} {c:aK} (h:aE ok w p cv acts c) (hb:Below w.heap.size w w'):aE ok w' p cv acts c:=h.later (bN.of_size hb) (hb.block p h.lt)
theorem aE.mono {ok ok':Nat→Prop} {w:World} {p:Nat} {cv:Nat→Value} {acts:Nat} {c:aK} (h:aE ok w p cv acts c) (hk:∀k,k<w.heap.size→ok k→ok' k) (ho:¬ ok' p):aE ok' w p cv acts c:=⟨h.row,h.clu.mono hk,ho⟩
theorem aE.cell {ok:Nat→Prop} {w:World} {p:Nat} {cv:Nat→Value} {acts:Nat} {c:aK} (h:aE ok w p cv acts c) {i:Nat} (hi:i<2001):w.cell? ⟨p,i,none⟩=some (cv i):=h.blk.cell hi
theorem aE.frozen {ok:Nat→Prop} {w:World} {p:Nat} {cv:Nat→Value} {acts:Nat} {c:aK} (h:aE ok w p cv acts c) (i:Nat):w.frozen? ⟨p,i,none⟩=false:=h.blk.frozen i
theorem aE.put {ok:Nat→Prop} {w:World} {p:Nat} {cv:Nat→Value} {acts acts':Nat} {c c':aK} (h:aE ok w p cv acts c) (m:Nat) (v:Value) (hc:fS ok w (eQ cv m v) acts' c'):aE ok (w.setCell ⟨p,m,none⟩ v) p (eQ cv m v) acts' c':=by
 refine⟨?_,hc.later (fun k _ hk=>Below.heap_setCell _ _ _ _ (fun e=>h.out (by have e:k=p:=e;rw[←e];exact hk))),h.out⟩
 rw[heap_setCell_same w p m _ _ _ h.row,eU]
 rfl
def iY (cv:Nat→Value) (o:Nat) (vs:List Value) (i:Nat):Value:=if o≤i∧i<o+vs.length then vs.getD (i-o) (.bool false) else cv i
theorem e8 (w:World) {p k:Nat} (hk:k≠p):∀(vs:List Value) (o:Nat) (w:World),(w.setCells p o vs).heap[k]? =w.heap[k]?
 | [],_,_=>rfl
 | v::vs,o,w=>by
  rw[World.setCells,e8 w hk vs (o+1)]
  exact Below.heap_setCell _ _ _ _ hk
theorem oB {p:Nat} {t:TypeId}:∀(vs:List Value) (o:Nat) {w:World} {f:Nat→Value},w.heap[p]? =some (.cells (aD 2001 f) t (0,0))→o+vs.length≤2001→(w.setCells p o vs).heap[p]? =some (.cells (aD 2001 (iY f o vs)) t (0,0))
 | [],o,w,f,h,_=>by
  show w.heap[p]? =_
  rw[h,jS (g:=iY f o []) fun i _=>?_]
  unfold iY
  rw[if_neg (by simp)]
 | v::vs,o,w,f,h,hl=>by
  have hl:o+(vs.length+1)≤2001:=hl
  rw[World.setCells]
  have h1:(w.setCell ⟨p,o,none⟩ v).heap[p]? =some (.cells (aD 2001 (fun i=>if i=o then v else f i)) t (0,0)):=by rw[heap_setCell_same w p o _ _ _ h,eU]
  rw[oB vs (o+1) h1 (by omega),jS (g:=iY f o (v::vs)) fun i _=>?_]
  unfold iY
  simp only[List.length_cons]
  by_cases e:i=o
  ·subst e
   rw[if_neg (by omega),if_pos rfl,if_pos (by omega)]
   simp
  ·by_cases e2:o+1≤i∧i<o+1+vs.length
   ·rw[if_pos e2,if_pos (by omega)]
    obtain⟨k,hk⟩:∃k,i-o=k+1:=⟨i-o-1,by omega⟩
    rw[hk,show i-(o+1)=k by omega]
    simp
   ·rw[if_neg e2,if_neg e,if_neg (by omega)]
theorem aE.puts {ok:Nat→Prop} {w:World} {p:Nat} {cv:Nat→Value} {acts acts':Nat} {c c':aK} (h:aE ok w p cv acts c) (o:Nat) (vs:List Value) (hl:o+vs.length≤2001) (hc:fS ok w (iY cv o vs) acts' c'):aE ok (w.setCells p o vs) p (iY cv o vs) acts' c':=
 ⟨oB vs o h.row hl,hc.later (fun k _ hk=>e8 w (fun e=>h.out (by rw[←e];exact hk)) vs o w),h.out⟩
theorem qZ {cv:Nat→Value} {o:Nat} {N:Nat} {f:Nat→Value} {i:Nat} (hi:i<N):iY cv o (aD N f).toList (o+i)=f i:=by
 unfold iY
 have hl:(aD N f).toList.length=N:=by simp[aD]
 rw[hl,if_pos (by omega),show o+i-o=i by omega]
 simp[aD,hi]
theorem pE {cv:Nat→Value} {o:Nat} {N:Nat} {f:Nat→Value} {i:Nat} (hi:i<o∨o+N≤i):iY cv o (aD N f).toList i=cv i:=by
 unfold iY
 have hl:(aD N f).toList.length=N:=by simp[aD]
 rw[hl,if_neg (by omega)]
theorem gD {w w':World} {B c o:Nat} {cs:List Value} (h:w.rangeAt c o cs) (hb:Below B w w') (hc:c<B):w'.rangeAt c o cs:=fun j v hv=>by
 rw[hb.cell (p:=⟨c,o+j,none⟩) hc]
 exact h j v hv
theorem aE.range {ok:Nat→Prop} {w:World} {p:Nat} {cv:Nat→Value} {acts:Nat} {c:aK} (h:aE ok w p cv acts c) {o n:Nat} (ho:o+n≤2001):w.rangeAt p o (aD n fun i=>cv (o+i)).toList:=h.blk.range ho
theorem Tryz.infoMember:(Tryz.prog.info? 88).map (·.size)=some 205:=by kernel_rfl
theorem n8 {P:Program} {e:TypeId} (he:P.underlying e=some (.int .i64)) (hi:(P.info? e).map (·.size)=some 1) {n:Nat} (S:Nat→Int) {k:Nat} (hk:k<n) (w:World):
  (part e (aD n fun i=> .int .i64 (S i)) k).run P w= .ok (.int .i64 (S k)) w:=by
 cases hq:P.info? e with
 | none=>simp[hq] at hi
 | some i=>
  have hs:i.size=1:=by simpa [hq] using hi
  have hg:=nJ (fun i=>Value.int .i64 (S i)) hk
  simp[part,isAgg,run_underlying he,sizeOf,typeInfo,hq,hs,hg,go_sem]
  try omega
theorem wS {P:Program} {t e:TypeId} {n:Nat} (d:Nat) (ht:P.underlying t=some (.array n e)) (he:P.underlying e=some (.int .i64)) (hi:(P.info? e).map (·.size)=some 1) (S:Nat→Int) (w:World):
  (Op.equalIn (d+2) t (.agg (aD n fun i=> .int .i64 (S i))) (.agg (aD n fun i=> .int .i64 (S i)))).run P w= .ok true w:=by
 have hsz:∀w,(sizeOf e).run P w= .ok 1 w:=by
  intro w
  cases hq:P.info? e with
  | none=>simp[hq] at hi
  | some i=>
   have hs:i.size=1:=by simpa [hq] using hi
   simp[sizeOf,typeInfo,hq,hs]
 rw[Op.equalIn]
 simp only[Sem.run_bind,run_underlying ht,Result.andThen_ok,hsz,Std.Legacy.Range.forIn_eq_forIn_range',Std.Legacy.Range.size,Nat.sub_zero,Nat.add_sub_cancel,Nat.div_one]
 have hl:∀i∈List.range' 0 n 1,i<n:=fun i hi=>by simpa using (List.mem_range'_1.1 hi).2
 generalize List.range' 0 n 1=l at hl ⊢
 induction l with
 | nil=>simp
 | cons i l ih=>
  have hk:i<n:=hl i (by simp)
  have px:=n8 he hi S hk w
  have pe:(Op.equalIn (d+1) e (.int .i64 (S i)) (.int .i64 (S i))).run P w= .ok true w:=by simp[Op.equalIn,run_underlying he]
  simp only[List.forIn_cons,Sem.run_bind,Nat.mul_one,px,pe,Result.andThen_ok]
  simp only[Bool.not_true,Bool.false_eq_true,if_false,Sem.run_pure,Result.andThen_ok]
  simpa only[Nat.mul_one] using ih fun j hj=>hl j (by simp[hj])
theorem Tryz.infoInt1:(Tryz.prog.info? 3).map (·.size)=some 1:=by kernel_rfl
theorem Tryz.infoVals:(Tryz.prog.info? 30).map (·.size)=some 8:=by kernel_rfl
theorem Tryz.valsGuard:Tryz.prog.eqGuardType Tryz.prog.depth 30=false:=by kernel_rfl
def wU (n:Nat) (S T:Nat→Int):Bool:=(List.range n).all fun i=>S i == T i
theorem g7 {P:Program} {t e:TypeId} {n:Nat} (d:Nat) (ht:P.underlying t=some (.array n e)) (he:P.underlying e=some (.int .i64)) (hi:(P.info? e).map (·.size)=some 1) (S T:Nat→Int) (w:World):
  (Op.equalIn (d+2) t (.agg (aD n fun i=> .int .i64 (S i))) (.agg (aD n fun i=> .int .i64 (T i)))).run P w= .ok (wU n S T) w:=by
 have hsz:∀w,(sizeOf e).run P w= .ok 1 w:=by
  intro w
  cases hq:P.info? e with
  | none=>simp[hq] at hi
  | some i=>
   have hs:i.size=1:=by simpa [hq] using hi
   simp[sizeOf,typeInfo,hq,hs]
 unfold wU
 rw[List.range_eq_range',Op.equalIn]
 simp only[Sem.run_bind,run_underlying ht,Result.andThen_ok,hsz,Std.Legacy.Range.forIn_eq_forIn_range',Std.Legacy.Range.size,Nat.sub_zero,Nat.add_sub_cancel,Nat.div_one]
 have hl:∀i∈List.range' 0 n 1,i<n:=fun i hi=>by simpa using (List.mem_range'_1.1 hi).2
 generalize List.range' 0 n 1=l at hl ⊢
 induction l with
 | nil=>simp
 | cons i l ih=>
  have hk:i<n:=hl i (by simp)
  have px:=n8 he hi S hk w
  have py:=n8 he hi T hk w
  have pe:(Op.equalIn (d+1) e (.int .i64 (S i)) (.int .i64 (T i))).run P w= .ok (S i == T i) w:=by simp[Op.equalIn,run_underlying he]
  simp only[List.forIn_cons,Sem.run_bind,Nat.mul_one,px,py,pe,Result.andThen_ok,List.all_cons]
  cases hb:(S i == T i)
  ·simp
  ·simp only[Bool.not_true,Bool.false_eq_true,if_false,Sem.run_pure,Result.andThen_ok,Bool.true_and]
   simpa only[Nat.mul_one] using ih fun j hj=>hl j (by simp[hj])
theorem Tryz.infoSix:(Tryz.prog.info? 43).map (·.size)=some 6:=by kernel_rfl
theorem Tryz.infoFour:(Tryz.prog.info? 44).map (·.size)=some 4:=by kernel_rfl
theorem Tryz.infoFourI:(Tryz.prog.info? 45).map (·.size)=some 4:=by kernel_rfl
theorem Tryz.sixGuard:Tryz.prog.eqGuardType Tryz.prog.depth 43=false:=by kernel_rfl
theorem Tryz.fourGuard:Tryz.prog.eqGuardType Tryz.prog.depth 44=false:=by kernel_rfl
theorem Tryz.fourIGuard:Tryz.prog.eqGuardType Tryz.prog.depth 45=false:=by kernel_rfl
theorem s5 (n:Nat) (f:Nat→Value):(aD n f).toList=(List.range n).map f:=by simp[aD]
theorem bI.truths {w:World} {b o n N:Nat} {nv:Nat→Value} {S:Nat→Bool} (h:bI N w b nv) (hn:o+n≤N) (hs:∀i,i<n→nv (o+i)= .bool (S i)):w.rangeAt b o (aL n S).toList:=by
 have:=h.range (o:=o) (n:=n) hn
 rw[GV,s5,←List.map_congr_left (fun i hi=>hs i (List.mem_range.1 hi))]
 exact this
theorem bI.numbers {w:World} {b o n N:Nat} {nv:Nat→Value} {S:Nat→Int} (h:bI N w b nv) (hn:o+n≤N) (hs:∀i,i<n→nv (o+i)= .int .i64 (S i)):w.rangeAt b o (aD n fun i=> .int .i64 (S i)).toList:=by
 have:=h.range (o:=o) (n:=n) hn
 rw[s5,←List.map_congr_left (fun i hi=>hs i (List.mem_range.1 hi))]
 exact this
def aF.wants (c:aF) (n:Nat):Bool:=if c.fixed then !c.known n || c.lacks (ofL n) else aZ c.ops (ofL n) && !c.told n
def aF.msg (c:aF) (id:Int) (n:Nat):aC:=if c.fixed then ⟨3,n,id,c.ops,c.deps,[],[]⟩ else ⟨1,n,id,c.ops,[],[],[]⟩
theorem GA (c:aF) (id:Int) (n:Nat):c.send id n=if c.wants n then [c.msg id n] else []:=by
 unfold aF.send aF.wants aF.msg
 cases c.fixed<;>rfl
def aF.sends (c:aF) (id:Int) (k:Nat):List aC:=(List.range k).flatMap (c.send id)
theorem GB (c:aF) (id:Int):c.sends id 0=[]:=rfl
theorem rK (c:aF) (id:Int) (k:Nat):c.sends id (k+1)=c.sends id k++if c.wants k then [c.msg id k] else []:=by
 unfold aF.sends
 rw[List.range_succ,List.flatMap_append]
 simp only[List.flatMap_cons,List.flatMap_nil,List.append_nil,GA]
theorem zE (c:aF) (id:Int):∀k,(c.sends id k).length≤k
 | 0=>by simp[GB]
 | k+1=>by
  rw[rK,List.length_append]
  have:=zE c id k
  split
  ·simp;omega
  ·simp;omega
def dF (c:aF) (id:Int):Bool:=dK c && c.begun && !dO c.deps id
theorem GP {c:aF} {id:Int} (h:dF c id=true) (h0:0≤id) (h1:id<32):bU c id=c.sends id 6:=by
 unfold dF at h
 simp only[Bool.and_eq_true,Bool.not_eq_true'] at h
 unfold bU aF.sends
 rw[if_neg]
 rintro (e | e | e | e | e)
 ·rw[h.1.1] at e;cases e
 ·rw[h.1.2] at e;cases e
 ·omega
 ·omega
 ·rw[h.2] at e;cases e
theorem AG {c:aF} {id:Int} (h:dF c id=false∨id<0∨32≤id):bU c id=[]:=by
 unfold bU
 rw[if_pos]
 rcases h with h | h | h
 ·unfold dF at h
  cases e:dK c
  ·exact Or.inl rfl
  ·cases e2:c.begun
   ·exact Or.inr (Or.inl rfl)
   ·cases e3:dO c.deps id
    ·rw[e,e2,e3] at h;cases h
    ·exact Or.inr (Or.inr (Or.inr (Or.inr rfl)))
 ·exact Or.inr (Or.inr (Or.inl h))
 ·exact Or.inr (Or.inr (Or.inr (Or.inl h)))
def f7 (t:Nat→Bool) (sh:Int):Nat→Nat
 | 0=>0
 | k+1=>f7 t sh k+if t k && (ofL k == sh) then 1 else 0
theorem xH (t:Nat→Bool) (sh:Int):∀k,f7 t sh k≤k
 | 0=>Nat.le_refl _
 | k+1=>by
  have:=xH t sh k
  simp only[f7]
  split<;>omega
theorem GZ (t:Nat→Bool):f7 t 0 6=kA t 0:=by
 simp only[f7,kA,List.range_succ,List.range_zero,List.nil_append,List.filter_append,List.length_append,Nat.zero_mul,Nat.zero_add]
 simp only[show ofL ((0:Nat):Int)=0 from rfl,show ofL ((1:Nat):Int)=0 from rfl,show ofL ((2:Nat):Int)=0 from rfl,show ofL ((3:Nat):Int)=1 from rfl,show ofL ((4:Nat):Int)=1 from rfl,show ofL ((5:Nat):Int)=1 from rfl]
 cases e0:t 0<;>cases e1:t 1<;>cases e2:t 2<;>simp[e0,e1,e2]
theorem G1 (t:Nat→Bool):f7 t 1 6=kA t 1:=by
 simp only[f7,kA,List.range_succ,List.range_zero,List.nil_append,List.filter_append,List.length_append,Nat.one_mul]
 simp only[show ofL ((0:Nat):Int)=0 from rfl,show ofL ((1:Nat):Int)=0 from rfl,show ofL ((2:Nat):Int)=0 from rfl,show ofL ((3:Nat):Int)=1 from rfl,show ofL ((4:Nat):Int)=1 from rfl,show ofL ((5:Nat):Int)=1 from rfl]
 cases e0:t 3<;>cases e1:t 4<;>cases e2:t 5<;>simp[e0,e1,e2]
theorem LA (ops:List OpL) (t:Nat→Bool):dT ops t=(!(decide (f7 t 0 6<2) && aZ ops 0) && !(decide (f7 t 1 6<2) && aZ ops 1)):=by
 unfold dT
 rw[GZ,G1]
 have h:∀n:Nat,decide (2≤n)= !decide (n<2):=fun n=>by
  by_cases e:n<2
  ·simp[e]
  ·simp[e];omega
 rw[h,h]
 cases aZ ops 0<;>cases aZ ops 1<;>simp
def aF.hasAll (c:aF):Bool:=(List.range c.ops.length).all c.has
theorem mU {c:aF}:c.hasAll=true↔∀i,i<c.ops.length→c.has i=true:=by
 unfold aF.hasAll
 simp
theorem FW {c:aF} (hb:c.begun=true) (hg:dK c=true) (h:c.hasAll=true):cN c=((List.range c.ops.length).map c.vals,true):=by
 unfold cN
 rw[if_neg]
 rintro (e | e | e | e)
 ·rw[hb] at e;cases e
 ·rw[hg] at e;cases e
 ·rw[sN (mU.1 h)] at e;cases e
 ·rw[sN (mU.1 h)] at e;cases e
theorem sY {c:aF} (h:dK c=false∨c.begun=false∨c.hasAll=false):cN c=([],false):=by
 unfold cN
 rw[if_pos]
 rcases h with h | h | h
 ·exact Or.inr (Or.inl h)
 ·exact Or.inl h
 ·cases e0:c.lacks 0
  ·cases e1:c.lacks 1
   ·rw[mU.2 (fun i hi=>yT e0 e1 hi)] at h;cases h
   ·exact Or.inr (Or.inr (Or.inr rfl))
  ·exact Or.inr (Or.inr (Or.inl rfl))
theorem rQ {c:aF} (hb:c.begun=true) (hg:dK c=true):0<c.ops.length∧c.ops.length≤4:=by
 rw[kI hb,Bool.and_eq_true] at hg
 have:=hg.1
 unfold bQ at this
 simp at this
 omega
end Go.Proofs.YtkoefoccbjhoiacGreat
