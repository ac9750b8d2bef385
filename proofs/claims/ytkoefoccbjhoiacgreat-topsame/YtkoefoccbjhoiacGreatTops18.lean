/-
squeezed by tools/squeeze.py from: CluD CluA CluJ CluK CluP CluQ CluF CluR CluB QMem NEq CEq PostM CBox
-/
import Derived.Test.YtkoefoccbjhoiacGreatTops17
import Derived.Test.YtkoefoccbjhoiacGreatTops8
import Derived.Test.YtkoefoccbjhoiacGreatTops6
import Derived.Test.YtkoefoccbjhoiacGreatTops3
set_option linter.unusedVariables false
set_option linter.unusedSimpArgs false
set_option maxRecDepth 100000
set_option maxHeartbeats 4000000
namespace Go.Proofs.YtkoefoccbjhoiacGreat
open Go.RowKit
theorem MX {s s' t t':List UInt8} (h:iE s) (h':iE s') (e:rc s++t=rc s'++t'):s=s'∧t=t':=by
 obtain⟨a,b,e1,e2⟩:=pO s h.2
 obtain⟨a',b',e1',e2'⟩:=pO s' h'.2
 unfold rc at e
 rw[e1,e1'] at e
 simp only[List.cons_append,List.nil_append,List.cons.injEq] at e
 obtain⟨rfl,rfl,e⟩:=e
 exact List.append_inj e (by omega)
theorem xX:∀{rs rs':List (List UInt8)} {t t':List UInt8},(∀s∈rs,iE s)→(∀s∈rs',iE s)→kB t→kB t'→cP rs++t=cP rs'++t'→rs=rs'∧t=t'
 | [],[],t,t',_,_,_,_,e=>⟨rfl,by simpa [m5] using e⟩
 | [],s'::rs',t,t',_,h',n,_,e=>by
  rw[m5,List.nil_append,k8,List.append_assoc] at e
  exact absurd e (n s' _ (h' s' (by simp)))
 | s::rs,[],t,t',h,_,_,n',e=>by
  rw[m5,List.nil_append,k8,List.append_assoc] at e
  exact absurd e.symm (n' s _ (h s (by simp)))
 | s::rs,s'::rs',t,t',h,h',n,n',e=>by
  rw[k8,k8,List.append_assoc,List.append_assoc] at e
  obtain⟨e0,e1⟩:=MX (h s (by simp)) (h' s' (by simp)) e
  obtain⟨e2,e3⟩:=xX (fun x hx=>h x (by simp[hx])) (fun x hx=>h' x (by simp[hx])) n n' e1
  exact⟨by rw[e0,e2],e3⟩
def aP.crash (c:aP) (n:Nat):aP:={ c with up:=upd c.up n false,st:=upd c.st n dO,tear:=upd c.tear n none }
def aP.setTear (c:aP) (n:Nat) (m:Int):aP:={ c with tear:=upd c.tear n (some m) }
def aP.rise (c:aP) (n:Nat) (rs:List (List UInt8)):aP:={ c with up:=upd c.up n true,log:=upd c.log n (cP rs),st:=upd c.st n (jW (n:Int) rs).1 }
theorem dE.crash {c:aP} {S:Sys} (h:dE c S) (k:Nat):dE (c.crash k) S:=by
 refine⟨h.t,h.u,h.good,h.bound,h.net,h.cs,fun n hn=>?_,h.cnt⟩
 by_cases e:n=k
 ·subst e
  obtain⟨rs,t,l1,l2,l3,l4,_⟩:=h.log n hn
  exact⟨rs,t,l1,l2,l3,l4,fun e=>(by have e:upd c.up n false n=true:=e;rw[aT] at e;cases e),fun _=>⟨aT _ _ _,aT _ _ _⟩⟩
 ·exact kZ (h.log n hn) e rfl rfl (aQ _ _ e) (aQ _ _ e) (aQ _ _ e)
theorem dE.setTear {c:aP} {S:Sys} (h:dE c S) {k:Nat} (hu:c.up k=true) (m:Int):dE (c.setTear k m) S:=by
 refine⟨h.t,h.u,h.good,h.bound,h.net,h.cs,fun n hn=>?_,h.cnt⟩
 by_cases e:n=k
 ·subst e
  obtain⟨rs,t,l1,l2,l3,l4,l5,_⟩:=h.log n hn
  exact⟨rs,t,l1,l2,l3,l4,l5,fun e=>(by have e:c.up n=false:=e;rw[hu] at e;cases e)⟩
 ·exact kZ (h.log n hn) e rfl rfl rfl rfl (aQ _ _ e)
theorem dE.wakes {c:aP} {S:Sys} (h:dE c S) {n:Nat} (hn:n<6) {rs:List (List UInt8)} {t:List UInt8} (hr:∀s∈rs,iE s) (ht:kB t) (el:c.log n=cP rs++t):
  jW (n:Int) rs=(S.B n,0)∧(c.up n=true→t=[]∧c.st n=S.B n):=by
 obtain⟨rs',t',l1,l2,l3,l4,l5,_⟩:=h.log n hn
 rw[l1] at el
 obtain⟨rfl,rfl⟩:=xX l2 hr l3 ht el
 refine⟨?_,l5⟩
 unfold jW
 rw[if_neg,l4]
 unfold kU
 simp
 omega
theorem dE.rise {c:aP} {S:Sys} (h:dE c S) {k:Nat} (hk:k<6) {rs:List (List UInt8)} {t:List UInt8} (hr:∀s∈rs,iE s) (ht:kB t) (el:c.log k=cP rs++t):dE (c.rise k rs) S:=by
 have hw:=(h.wakes hk hr ht el).1
 refine⟨h.t,h.u,h.good,h.bound,h.net,h.cs,fun n hn=>?_,h.cnt⟩
 by_cases e:n=k
 ·subst e
  refine⟨rs,[],by rw[List.append_nil];exact aT _ _ _,hr,rN,?_,fun _=>⟨rfl,?_⟩,fun e=>?_⟩
  ·unfold jW at hw
   split at hw
   ·exact absurd (congrArg Prod.snd hw) (show (2:Int)≠0 by decide)
   ·exact hw
  ·show upd c.st n _ n=_
   rw[aT,hw]
  ·have e:upd c.up n true n=false:=e
   rw[aT] at e;cases e
 ·exact kZ (h.log n hn) e rfl (aQ _ _ e) (aQ _ _ e) (aQ _ _ e) rfl
theorem dE.less {c:aP} {S:Sys} (h:dE c S) {net:List (List UInt8)} (hs:∀t∈net,t∈c.net):dE { c with net:=net } S:=
 ⟨h.t,h.u,h.good,h.bound,fun t ht=>h.net t (hs t ht),h.cs,h.log,h.cnt⟩
def aP.answer (c:aP) (f:aD):aP × Int:=
 ({ c with cs:=upd c.cs f.id.toNat (aR (c.cs f.id.toNat) f.id f).1,net:=cK c.net (aR (c.cs f.id.toNat) f.id f).2.1 },(aR (c.cs f.id.toNat) f.id f).2.2)
theorem K5 {C:Nat→aG} {i:Nat}:upd C i (C i)=C:=by
 funext j
 unfold upd
 split
 ·rename_i e;rw[e]
 ·rfl
theorem uA {S T:Sys} {c d:aP} {n:Nat} (h:sG S c n) (hB:T.B n=S.B n) (hl:d.log n=c.log n) (hu:d.up n=c.up n) (hs:d.st n=c.st n) (ht:d.tear n=c.tear n):sG T d n:=
 kZ (k:=n+1) h (by omega) hB hl hu hs ht
theorem dE.answer {c:aP} {S:Sys} (h:dE c S) {f:aD} (hM:S.M f):∃T,dE (c.answer f).1 T∧dT S T:=by
  by_cases h0:(aR (S.C f.id.toNat) f.id f).2.2=0
  ·obtain⟨_,hr2⟩:=h.t.s.rng f hM
   refine⟨⟨S.B,upd S.C f.id.toNat (aR (S.C f.id.toNat) f.id f).1,fun g=>S.M g∨g∈(aR (S.C f.id.toNat) f.id f).2.1⟩,⟨h.t.answer hM h0,jP.answer h.t h.u hM h0,fun g hg=>?_,h.bound,fun t ht=>?_,?_,fun n hn=>uA (h.log n hn) rfl rfl rfl rfl rfl,⟨h.cnt.1,fun i hi=>?_⟩⟩,
     ⟨fun a b ha hb L=>L.answer h.t ha hb f _,fun n _=>⟨[],by simp⟩⟩⟩
   ·rcases hg with hg | hg
    ·exact h.good g hg
    ·exact lF (lT hg).1
   ·have ht:t∈cK c.net (aR (c.cs f.id.toNat) f.id f).2.1:=ht
    rw[h.cs] at ht
    rcases n9 _ _ _ ht with ht | ⟨g,hg1,hg2⟩
    ·obtain⟨g,hg1,hg2⟩:=h.net t ht
     exact⟨g,Or.inl hg1,hg2⟩
    ·exact⟨g,Or.inr hg1,hg2⟩
   ·show upd c.cs f.id.toNat (aR (c.cs f.id.toNat) f.id f).1=_
    rw[h.cs]
   ·show _↔i<c.cnt
    rw[←h.cnt.2 i hi]
    show (upd S.C f.id.toNat (aR (S.C f.id.toNat) f.id f).1 i).begun=true↔_
    rcases fA S.C f.id.toNat (aR (S.C f.id.toNat) f.id f).1 i with ⟨e1,e2⟩ | ⟨_,e2⟩
    ·rw[e2,e1]
     have hb:=(pI h0).1
     have:=(AO (id:=f.id) (f:=f) (h.t.case _ (by omega) hb)).1.begun
     rw[this,hb]
    ·rw[e2]
  ·rcases gE (S.C f.id.toNat) f.id f with ⟨_,e1,e2⟩ | ⟨e,_⟩ | ⟨e,_⟩
   ·refine⟨S,?_,dT.refl S⟩
    have:(c.answer f).1=c:=by
      unfold aP.answer
      rw[h.cs,e1,e2,K5]
      show (⟨c.up,c.st,c.log,c.tear,S.C,c.cnt,c.net⟩:aP)=c
      rw[←h.cs]
    rw[this]
    exact h
   ·exact absurd e h0
   ·exact absurd e h0
theorem dE.again {c:aP} {S:Sys} (h:dE c S) {i:Nat} (hi:i<32):∃T,dE { c with net:=cK c.net (cV (c.cs i) (i:Int)) } T∧dT S T:=by
 refine⟨⟨S.B,S.C,fun g=>S.M g∨g∈cV (S.C i) (i:Int)⟩,⟨h.t.again hi,h.u.again i,fun g hg=>?_,h.bound,fun t ht=>?_,h.cs,fun n hn=>uA (h.log n hn) rfl rfl rfl rfl rfl,h.cnt⟩,⟨fun a b _ _ L=>L.sent _,fun n _=>⟨[],by simp⟩⟩⟩
 ·rcases hg with hg | hg
  ·exact h.good g hg
  ·exact lF hg
 ·have ht:t∈cK c.net (cV (c.cs i) (i:Int)):=ht
  rw[h.cs] at ht
  rcases n9 _ _ _ ht with ht | ⟨g,hg1,hg2⟩
  ·obtain⟨g,hg1,hg2⟩:=h.net t ht
   exact⟨g,Or.inl hg1,hg2⟩
  ·exact⟨g,Or.inr hg1,hg2⟩
theorem dE.begin {c:aP} {S:Sys} (h:dE c S) (hi:c.cnt<32) {ops:List OpL} (h0:(bL (c.cnt:Int) ops).2.2=0):
    ∃T,dE { c with cs:=upd c.cs c.cnt (bL (c.cnt:Int) ops).1,cnt:=c.cnt+1,net:=cK c.net (bL (c.cnt:Int) ops).2.1 } T∧dT S T∧
      ∀b,b<c.cnt→(cT (S.C b)).2=true→fO T c.cnt b:=by
  have hz:(S.C c.cnt).begun=false:=by
    cases e:(S.C c.cnt).begun
    ·rfl
    ·exact absurd ((h.cnt.2 c.cnt hi).1 e) (by omega)
  have rs:=xY h0
  have eb:(bL (c.cnt:Int) ops).2.1=cV (bL (c.cnt:Int) ops).1 (c.cnt:Int):=by
    unfold bL at *
    split at h0
    ·exact absurd h0 (show (2:Int)≠0 by decide)
    ·rename_i h1
     rw[if_neg h1]
     split at h0
     ·exact absurd h0 (show (1:Int)≠0 by decide)
     ·rename_i h2
      rw[if_neg h2]
  refine⟨⟨S.B,upd S.C c.cnt (bL (c.cnt:Int) ops).1,fun g=>S.M g∨g∈(bL (c.cnt:Int) ops).2.1⟩,⟨h.t.begin hi hz h0,h.u.begin h0,fun g hg=>?_,h.bound,fun t ht=>?_,?_,fun n hn=>uA (h.log n hn) rfl rfl rfl rfl rfl,⟨hi,fun i hi2=>?_⟩⟩,
    ⟨fun a b ha hb L=>L.begin h.t ha hb hi hz _ _,fun n _=>⟨[],by simp⟩⟩,fun b hb hr=>?_⟩
  ·rcases hg with hg | hg
   ·exact h.good g hg
   ·rw[eb] at hg
    exact lF hg
  ·rcases n9 _ _ _ ht with ht | ⟨g,hg1,hg2⟩
   ·obtain⟨g,hg1,hg2⟩:=h.net t ht
    exact⟨g,Or.inl hg1,hg2⟩
   ·exact⟨g,Or.inr hg1,hg2⟩
  ·show upd c.cs c.cnt (bL (c.cnt:Int) ops).1=_
   rw[h.cs]
  ·show (upd S.C c.cnt (bL (c.cnt:Int) ops).1 i).begun=true↔i<c.cnt+1
   rcases fA S.C c.cnt (bL (c.cnt:Int) ops).1 i with ⟨e1,e2⟩ | ⟨e1,e2⟩
   ·rw[e2,rs.begun]
    exact⟨fun _=>by omega,fun _=>rfl⟩
   ·rw[e2,h.cnt.2 i hi2]
    omega
  ·exact h.t.late hi (by omega) hz ((h.cnt.2 b (by omega)).2 hb) hr _ rs.begun _
structure eZ where
 kind:Int
 n:Int
 m:Int
 ops:List OpL
structure kF where
 code:Int
 n:Int
 vals:List Int
def mN:Nat→List UInt8→List (List UInt8)
 | n+1,a::b::r=>if 0<a.toNat*256+b.toNat∧a.toNat*256+b.toNat≤400∧a.toNat*256+b.toNat≤r.length then r.take (a.toNat*256+b.toNat)::mN n (r.drop (a.toNat*256+b.toNat)) else []
 | _,_=>[]
theorem tL:∀(n:Nat) (l:List UInt8),l.length≤n→∃t,(∀s∈mN n l,iE s)∧kB t∧l=cP (mN n l)++t
 | n,[],_=>⟨[],by cases n<;>simp[mN],uC (by simp),by cases n<;>simp[mN,m5]⟩
 | n,[a],_=>⟨[a],by cases n<;>simp[mN],uC (by simp),by cases n<;>simp[mN,m5]⟩
 | 0,a::b::r,h=>by simp at h
 | n+1,a::b::r,h=>by
  have h:r.length+1+1≤n+1:=h
  unfold mN
  split
  ·rename_i hc
   have hl:(r.take (a.toNat*256+b.toNat)).length=a.toNat*256+b.toNat:=by rw[List.length_take];omega
   obtain⟨t,h1,h2,h3⟩:=tL n (r.drop (a.toNat*256+b.toNat)) (by rw[List.length_drop];omega)
   refine⟨t,fun s hs=>?_,h2,?_⟩
   ·rcases List.mem_cons.1 hs with e | e
    ·rw[e];exact⟨by omega,by omega⟩
    ·exact h1 s e
   ·rw[k8,List.append_assoc,←h3]
    unfold rc
    rw[LE hl]
    simp
  ·rename_i hc
   refine⟨a::b::r,by simp,fun s t hs e=>?_,by rw[m5];rfl⟩
   obtain⟨a',b',e1,e2⟩:=pO s hs.2
   unfold rc at e
   rw[e1] at e
   simp only[List.cons_append,List.nil_append,List.cons.injEq] at e
   obtain⟨rfl,rfl,e⟩:=e
   have:=congrArg List.length e
   rw[List.length_append] at this
   exact hc ⟨by have:=hs.1;omega,by have:=hs.2;omega,by omega⟩
def rT (l:List UInt8):List (List UInt8):=mN l.length l
theorem pG (l:List UInt8):∃t,(∀s∈rT l,iE s)∧kB t∧l=cP (rT l)++t:=tL l.length l (Nat.le_refl _)
def kJ:aP:=⟨fun _=>true,fun _=>dO,fun _=>[],fun _=>none,fun _=>cA,0,[]⟩
def aP.bring (c:aP) (t:List UInt8):aP × kF:=
 if (e7 t).kind=1∨(e7 t).kind=3 then ((come c (e7 t)).1,if (come c (e7 t)).2=0 then ⟨0,(e7 t).id,[]⟩ else ⟨(come c (e7 t)).2,0,[]⟩)
 else ((c.answer (e7 t)).1,if (c.answer (e7 t)).2=0 then ⟨0,(e7 t).id,(cT ((c.answer (e7 t)).1.cs (e7 t).id.toNat)).1⟩ else ⟨(c.answer (e7 t)).2,0,[]⟩)
def aP.without (c:aP) (k:Nat):aP:={ c with net:=c.net.eraseIdx k }
def doA (c:aP) (a:eZ):aP × kF:=
 if a.kind=1 then
  if 32≤c.cnt then (c,⟨5,0,[]⟩)
  else if (bL (c.cnt:Int) a.ops).2.2≠0 then (c,⟨(bL (c.cnt:Int) a.ops).2.2,0,[]⟩)
  else ({ c with cs:=upd c.cs c.cnt (bL (c.cnt:Int) a.ops).1,cnt:=c.cnt+1,net:=cK c.net (bL (c.cnt:Int) a.ops).2.1 },⟨0,(c.cnt:Int),[]⟩)
 else if a.kind=2∨a.kind=3∨a.kind=4 then
  if a.n<0∨(c.net.length:Int)≤a.n then (c,⟨4,0,[]⟩)
  else if a.kind=4 then (c.without a.n.toNat,⟨0,(e7 (c.net.getD a.n.toNat [])).id,[]⟩)
  else if a.kind=2 then (c.without a.n.toNat).bring (c.net.getD a.n.toNat [])
  else c.bring (c.net.getD a.n.toNat [])
 else if a.kind=5 then
  if a.n<0∨(c.cnt:Int)≤a.n then (c,⟨4,0,[]⟩)
  else ({ c with net:=cK c.net (cV (c.cs a.n.toNat) (a.n.toNat:Int)) },⟨0,a.n,(cT (c.cs a.n.toNat)).1⟩)
 else if a.kind=6∨a.kind=7∨a.kind=8 then
  if a.n<0∨6≤a.n∨(a.kind=7∧(a.m<0∨400<a.m)) then (c,⟨2,0,[]⟩)
  else if a.kind=8 then if c.up a.n.toNat=true then (c,⟨6,0,[]⟩) else (c.rise a.n.toNat (rT (c.log a.n.toNat)),⟨0,0,[]⟩)
  else if c.up a.n.toNat=false then (c,⟨6,0,[]⟩)
  else if a.kind=6 then (c.crash a.n.toNat,⟨0,0,[]⟩) else (c.setTear a.n.toNat a.m,⟨0,0,[]⟩)
 else (c,⟨3,0,[]⟩)
theorem dE.start:dE kJ ⟨fun _=>dO,fun _=>cA,fun _=>False⟩:=by
 refine⟨gA.start,jP.start,fun _ h=>h.elim,fun _ _=>IW,fun t ht=>?_,rfl,fun n _=>?_,by show 0≤32;omega,fun i _=>?_⟩
 ·have ht:t∈([]:List (List UInt8)):=ht
  simp at ht
 ·exact⟨[],[],rfl,by simp,rN,rfl,fun _=>⟨rfl,rfl⟩,fun e=>(by cases e)⟩
 ·exact⟨fun e=>(by cases e),fun e=>absurd e (Nat.not_lt_zero i)⟩
theorem dE.bring {c:aP} {S:Sys} (h:dE c S) {t:List UInt8} (ht:∃f,S.M f∧t=b9 f):∃T,dE (c.bring t).1 T∧dT S T:=by
 obtain⟨f,hM,rfl⟩:=ht
 have e:e7 (b9 f)=f:=(mM (h.good f hM)).2
 unfold aP.bring
 rw[e]
 split
 ·rename_i hk
  exact h.come hM hk
 ·exact h.answer hM
theorem dE.act {c:aP} {S:Sys} (h:dE c S) (a:eZ):∃T,dE (doA c a).1 T∧dT S T∧((doA c a).1.cnt≠c.cnt→(doA c a).1.cnt=c.cnt+1∧∀b,b<c.cnt→(cT (S.C b)).2=true→fO T c.cnt b):=by
 have same:∀d:aP,dE d S→d.cnt=c.cnt→∃T,dE d T∧dT S T∧(d.cnt≠c.cnt→d.cnt=c.cnt+1∧∀b,b<c.cnt→(cT (S.C b)).2=true→fO T c.cnt b):=
  fun d hd e=>⟨S,hd,dT.refl S,fun k=>absurd e k⟩
 have some_:∀d:aP,(∃T,dE d T∧dT S T)→d.cnt=c.cnt→∃T,dE d T∧dT S T∧(d.cnt≠c.cnt→d.cnt=c.cnt+1∧∀b,b<c.cnt→(cT (S.C b)).2=true→fO T c.cnt b):=
  fun d ⟨T,h1,h2⟩ e=>⟨T,h1,h2,fun k=>absurd e k⟩
 have come_cnt:∀(d:aP) (f:aD),(Go.Proofs.YtkoefoccbjhoiacGreat.come d f).1.cnt=d.cnt:=by
  intro d f
  unfold Go.Proofs.YtkoefoccbjhoiacGreat.come
  split
  ·rfl
  ·split
   ·rfl
   ·split
    ·rfl
    ·split<;>rfl
 have bring_cnt:∀(d:aP) (t:List UInt8),(d.bring t).1.cnt=d.cnt:=by
  intro d t
  unfold aP.bring
  split
  ·exact come_cnt d _
  ·rfl
 have getMem:∀{k:Nat},k<c.net.length→c.net.getD k []∈c.net:=fun {k} hk=>by
  rw[List.getD_eq_getElem?_getD,List.getElem?_eq_getElem hk]
  exact List.getElem_mem hk
 unfold doA
 split
 ·split
  ·exact same c h rfl
  ·rename_i hc
   split
   ·exact same c h rfl
   ·rename_i h0
    have h0:(bL (c.cnt:Int) a.ops).2.2=0:=by
     by_cases e:(bL (c.cnt:Int) a.ops).2.2=0
     ·exact e
     ·exact absurd e h0
    obtain⟨T,h1,h2,h3⟩:=h.begin (by omega) h0
    exact⟨T,h1,h2,fun _=>⟨rfl,h3⟩⟩
 ·split
  ·split
   ·exact same c h rfl
   ·rename_i hn
    have hk:a.n.toNat<c.net.length:=by omega
    have less:dE (c.without a.n.toNat) S:=h.less fun t ht=>List.mem_of_mem_eraseIdx ht
    split
    ·exact same _ less rfl
    ·split
     ·exact some_ _ (less.bring (h.net _ (getMem hk))) (bring_cnt _ _)
     ·exact some_ _ (h.bring (h.net _ (getMem hk))) (bring_cnt _ _)
  ·split
   ·split
    ·exact same c h rfl
    ·rename_i hn
     have:=h.cnt.1
     exact some_ _ (h.again (by omega)) rfl
   ·split
    ·split
     ·exact same c h rfl
     ·rename_i hn
      have hk:a.n.toNat<6:=by omega
      split
      ·split
       ·exact same c h rfl
       ·obtain⟨t,r1,r2,r3⟩:=pG (c.log a.n.toNat)
        exact same _ (h.rise hk r1 r2 r3) rfl
      ·split
       ·exact same c h rfl
       ·rename_i hu
        split
        ·exact same _ (h.crash _) rfl
        ·exact same _ (h.setTear (by simpa using hu) _) rfl
    ·exact same c h rfl
theorem H7 {f:aD} (h:aN f=0):(rc (b9 f)).length≤100:=by
 have:=(sI h).1
 rw[lQ]
 omega
theorem IR (l:List UInt8) {f:aD} (h:aN f=0) (n:Int):(iI l (b9 f) n).length≤l.length+100:=by
 have:=H7 h
 unfold iI
 split
 ·rw[List.length_append,List.length_take]
  omega
 ·omega
theorem LA (l:List UInt8) {f:aD} (h:aN f=0):(j0 l (b9 f)).length≤l.length+100:=by
 have:=H7 h
 unfold j0
 split
 ·rw[List.length_append]
  omega
 ·omega
theorem wY {L:Nat→List UInt8} {n k B:Nat} {x:List UInt8} (hL:(L k).length≤B) (hx:n=k→x.length≤B):(upd L n x k).length≤B:=by
 by_cases e:k=n
 ·subst e;rw[aT];exact hx rfl
 ·rw[aQ _ _ e];exact hL
theorem DC {c:aP} {f:aD} (hf:aN f=0) {k:Nat}:((come c f).1.log k).length≤(c.log k).length+100:=by
 unfold come
 split
 ·show (c.log k).length≤_;omega
 ·split
  ·show (c.log k).length≤_;omega
  ·split
   ·exact wY (by omega) (fun e=>by subst e;exact IR _ hf _)
   ·split
    ·show (c.log k).length≤_;omega
    ·exact wY (by omega) (fun e=>by subst e;exact LA _ hf)
theorem I6 {c:aP} {f:aD} (h:c.net.length≤60):(come c f).1.net.length≤60:=by
 unfold come
 split
 ·exact h
 ·split
  ·exact h
  ·split
   ·exact h
   ·split
    ·exact h
    ·exact m9 _ _ h
theorem sR {c:aP} {S:Sys} (h:dE c S) {t:List UInt8} (ht:∃f,S.M f∧t=b9 f) {k:Nat}:((c.bring t).1.log k).length≤(c.log k).length+100:=by
 obtain⟨f,hM,rfl⟩:=ht
 have e:e7 (b9 f)=f:=(mM (h.good f hM)).2
 unfold aP.bring
 rw[e]
 split
 ·exact DC (h.good f hM)
 ·show (c.log k).length≤_
  omega
theorem xA {c:aP} {t:List UInt8} (h:c.net.length≤60):(c.bring t).1.net.length≤60:=by
 unfold aP.bring
 split
 ·exact I6 h
 ·exact m9 _ _ h
theorem EI (l:List UInt8):(cP (rT l)).length≤l.length:=by
 obtain⟨t,_,_,e⟩:=pG l
 have:=congrArg List.length e
 rw[List.length_append] at this
 omega
theorem wD {c:aP} {k:Nat} (hk:k<c.net.length):c.net.getD k []∈c.net:=by
 rw[List.getD_eq_getElem?_getD,List.getElem?_eq_getElem hk]
 exact List.getElem_mem hk
theorem FT {c:aP} {S:Sys} (h:dE c S) (a:eZ) (k:Nat):((doA c a).1.log k).length≤(c.log k).length+100:=by
 have same:(c.log k).length≤(c.log k).length+100:=by omega
 unfold doA
 split
 ·split
  ·exact same
  ·split
   ·exact same
   ·exact same
 ·split
  ·split
   ·exact same
   ·rename_i hn
    have hk:a.n.toNat<c.net.length:=by omega
    have less:dE (c.without a.n.toNat) S:=h.less fun t ht=>List.mem_of_mem_eraseIdx ht
    split
    ·exact same
    ·split
     ·exact sR less (h.net _ (wD hk))
     ·exact sR h (h.net _ (wD hk))
  ·split
   ·split
    ·exact same
    ·exact same
   ·split
    ·split
     ·exact same
     ·split
      ·split
       ·exact same
       ·exact wY same (fun e=>by subst e;have:=EI (c.log a.n.toNat);omega)
      ·split
       ·exact same
       ·split
        ·exact same
        ·exact same
    ·exact same
theorem LQ {c:aP} (h:c.net.length≤60) (a:eZ):(doA c a).1.net.length≤60:=by
 have less:∀k,(c.net.eraseIdx k).length≤60:=fun k=>Nat.le_trans (List.length_eraseIdx_le _ _) h
 unfold doA
 split
 ·split
  ·exact h
  ·split
   ·exact h
   ·exact m9 _ _ h
 ·split
  ·split
   ·exact h
   ·split
    ·exact less _
    ·split
     ·exact xA (c:=c.without _) (less _)
     ·exact xA h
  ·split
   ·split
    ·exact h
    ·exact m9 _ _ h
   ·split
    ·split
     ·exact h
     ·split
      ·split<;>exact h
      ·split
       ·exact h
       ·split<;>exact h
    ·exact h
structure gR (c:aP) (acts:Nat):Prop where
 inv:∃S,dE c S
 net:c.net.length≤60
 log:∀k,(c.log k).length≤100*acts
theorem gR.start:gR kJ 0:=⟨⟨_,dE.start⟩,Nat.zero_le _,fun _=>Nat.zero_le _⟩
theorem gR.act {c:aP} {acts:Nat} (h:gR c acts) (a:eZ):gR (doA c a).1 (acts+1):=by
 obtain⟨S,hS⟩:=h.inv
 obtain⟨T,hT,_⟩:=hS.act a
 exact⟨⟨T,hT⟩,LQ h.net a,fun k=>Nat.le_trans (FT hS a k) (by have:=h.log k;omega)⟩
theorem gR.more {c:aP} {acts acts':Nat} (h:gR c acts) (ha:acts≤acts'):gR c acts':=⟨h.inv,h.net,fun k=>Nat.le_trans (h.log k) (by omega)⟩
theorem JA {c:aP} {S:Sys} (h:dE c S) {n:Nat} (hn:n<6) (hu:c.up n=false):c.tear n=none:=by
 obtain⟨_,_,_,_,_,_,_,l⟩:=h.log n hn
 exact (l hu).2
def jR (ok:Nat→Prop) (w:World) (a:Option Addr) (zs:List (List UInt8)):Prop:=
 zs=[]∨∃b off,a=some ⟨b,off,none⟩∧ok b∧∀i,i<zs.length→w.cell? ⟨b,off+i,none⟩=some (.string (str (zs.getD i [])))
theorem jR.later {ok:Nat→Prop} {w w':World} {a:Option Addr} {zs:List (List UInt8)} (h:jR ok w a zs) (hB:bQ ok w w'):jR ok w' a zs:=by
 rcases h with h | ⟨b,off,ha,hb,hc⟩
 ·exact Or.inl h
 ·exact Or.inr ⟨b,off,ha,hb,fun i hi=>hB.cell (hc i hi) hb⟩
theorem jR.mono {ok ok':Nat→Prop} {w:World} {a:Option Addr} {zs:List (List UInt8)} (h:jR ok w a zs) (hk:∀k,k<w.heap.size→ok k→ok' k):jR ok' w a zs:=by
 rcases h with h | ⟨b,off,ha,hb,hc⟩
 ·exact Or.inl h
 ·cases zs with
  | nil=>exact Or.inl rfl
  | cons z r=>exact Or.inr ⟨b,off,ha,hk b (World.block_lt_of_cell? w _ (hc 0 (by simp))) hb,hc⟩
def IsT (ok:Nat→Prop) (w:World) (v:Value) (zs:List (List UInt8)):Prop:=∃a cap,v= .slice a zs.length cap∧jR ok w a zs∧zs.length*16≤140737488355328∧zs.length≤cap∧(a=none→zs.length=0∧cap=0)
theorem IsT.later {ok:Nat→Prop} {w w':World} {v:Value} {zs:List (List UInt8)} (h:IsT ok w v zs) (hB:bQ ok w w'):IsT ok w' v zs:=by
 obtain⟨a,cap,h1,h2,h3⟩:=h
 exact⟨a,cap,h1,h2.later hB,h3⟩
theorem IsT.mono {ok ok':Nat→Prop} {w:World} {v:Value} {zs:List (List UInt8)} (h:IsT ok w v zs) (hk:∀k,k<w.heap.size→ok k→ok' k):IsT ok' w v zs:=by
 obtain⟨a,cap,h1,h2,h3⟩:=h
 exact⟨a,cap,h1,h2.mono hk,h3⟩
theorem IsT.nil (ok:Nat→Prop) (w:World):IsT ok w (.slice none 0 0) []:=⟨none,0,rfl,Or.inl rfl,by decide,Nat.le_refl _,fun _=>⟨rfl,rfl⟩⟩
structure kS (ok:Nat→Prop) (w:World) (mv:Nat→Value) (up:Bool) (st:aB) (log:List UInt8) (tear:Option Int):Prop where
 st:bP ok w mv st
 log:mv 201= .string (str log)
 down:mv 202= .bool (!up)
 torn:mv 203= .bool tear.isSome
 tear:mv 204= .int .i64 (tear.getD 0)
theorem bP.same {ok:Nat→Prop} {w:World} {nv nv':Nat→Value} {s:aB} (h:bP ok w nv s) (hn:∀j,j<201→nv' j=nv j):bP ok w nv' s:=
 ⟨⟨fun i hi=>(h.es.ent i hi).same fun j hj=>hn _ (by omega),fun k hk=>by rw[hn _ (by omega)];exact h.es.vals k hk⟩,by rw[hn _ (by omega)];exact h.order⟩
theorem b7.same {ok:Nat→Prop} {w:World} {nv nv':Nat→Value} {c:aG} (h:b7 ok w nv c) (hn:∀j,j<24→nv' j=nv j):b7 ok w nv' c:=
  ⟨by rw[hn _ (by omega)];exact h.begun,by rw[hn _ (by omega)];exact h.fixed,by rw[hn _ (by omega)];exact h.ops,fun i hi=>by rw[hn _ (by omega)];exact h.told i hi,fun i hi=>by rw[hn _ (by omega)];exact h.known i hi,
    by rw[hn _ (by omega)];exact h.deps,fun i hi=>by rw[hn _ (by omega)];exact h.has i hi,fun i hi=>by rw[hn _ (by omega)];exact h.vals i hi⟩
theorem kS.same {ok:Nat→Prop} {w:World} {nv nv':Nat→Value} {up:Bool} {st:aB} {log:List UInt8} {tear:Option Int} (h:kS ok w nv up st log tear) (hn:∀j,j<205→nv' j=nv j):kS ok w nv' up st log tear:=
 ⟨h.st.same fun j hj=>hn j (by omega),by rw[hn _ (by omega)];exact h.log,by rw[hn _ (by omega)];exact h.down,by rw[hn _ (by omega)];exact h.torn,by rw[hn _ (by omega)];exact h.tear⟩
theorem kS.later {ok:Nat→Prop} {w w':World} {nv:Nat→Value} {up:Bool} {st:aB} {log:List UInt8} {tear:Option Int} (h:kS ok w nv up st log tear) (hB:bQ ok w w'):kS ok w' nv up st log tear:=⟨h.st.later hB,h.log,h.down,h.torn,h.tear⟩
theorem kS.mono {ok ok':Nat→Prop} {w:World} {nv:Nat→Value} {up:Bool} {st:aB} {log:List UInt8} {tear:Option Int} (h:kS ok w nv up st log tear) (hk:∀k,k<w.heap.size→ok k→ok' k):kS ok' w nv up st log tear:=⟨h.st.mono hk,h.log,h.down,h.torn,h.tear⟩
theorem kS.one {ok:Nat→Prop} {w:World} {nv:Nat→Value} {up:Bool} {st:aB} {log:List UInt8} {tear:Option Int} (h:kS ok w nv up st log tear):∀i,i<205→(nv i).oneCell'=true:=by
 intro i hi
 by_cases h0:i<201
 ·exact h.st.one i h0
 by_cases h1:i=201
 ·subst h1;rw[h.log];rfl
 by_cases h2:i=202
 ·subst h2;rw[h.down];rfl
 by_cases h3:i=203
 ·subst h3;rw[h.torn];rfl
 ·obtain rfl:i=204:=by omega
  rw[h.tear];rfl
structure fN (ok:Nat→Prop) (w:World) (cv:Nat→Value) (acts:Nat) (c:aP):Prop where
 acts:cv 0= .int .i64 acts
 cnt:cv 1= .int .i64 c.cnt
 mem:∀n,n<6→kS ok w (fun i=>cv (2+n*205+i)) (c.up n) (c.st n) (c.log n) (c.tear n)
 cs:∀n,n<32→b7 ok w (fun i=>cv (1232+n*24+i)) (c.cs n)
 net:IsT ok w (cv 2000) c.net
theorem fN.later {ok:Nat→Prop} {w w':World} {cv:Nat→Value} {acts:Nat} {c:aP} (h:fN ok w cv acts c) (hB:bQ ok w w'):fN ok w' cv acts c:=
 ⟨h.acts,h.cnt,fun n hn=>(h.mem n hn).later hB,fun n hn=>(h.cs n hn).later hB,h.net.later hB⟩
theorem fN.mono {ok ok':Nat→Prop} {w:World} {cv:Nat→Value} {acts:Nat} {c:aP} (h:fN ok w cv acts c) (hk:∀k,k<w.heap.size→ok k→ok' k):fN ok' w cv acts c:=
 ⟨h.acts,h.cnt,fun n hn=>(h.mem n hn).mono hk,fun n hn=>(h.cs n hn).mono hk,h.net.mono hk⟩
theorem fN.setMem {ok:Nat→Prop} {w:World} {cv cv':Nat→Value} {acts:Nat} {c:aP} (h:fN ok w cv acts c) {n:Nat} (hn:n<6) (ho:∀i,i<2001→(i<2+n*205∨2+n*205+205≤i)→cv' i=cv i)
  {up:Bool} {st:aB} {log:List UInt8} {tear:Option Int} (hm:kS ok w (fun i=>cv' (2+n*205+i)) up st log tear):fN ok w cv' acts { c with up:=upd c.up n up,st:=upd c.st n st,log:=upd c.log n log,tear:=upd c.tear n tear }:=by
 refine⟨by rw[ho 0 (by omega) (by omega)];exact h.acts,by rw[ho 1 (by omega) (by omega)];exact h.cnt,fun k hk=>?_,fun k hk=>(h.cs k hk).same fun j hj=>ho _ (by omega) (by omega),by rw[ho 2000 (by omega) (by omega)];exact h.net⟩
 show kS ok w _ (upd c.up n up k) (upd c.st n st k) (upd c.log n log k) (upd c.tear n tear k)
 by_cases e:k=n
 ·subst e
  rw[aT,aT,aT,aT]
  exact hm
 ·rw[aQ _ _ e,aQ _ _ e,aQ _ _ e,aQ _ _ e]
  exact (h.mem k hk).same fun j hj=>ho _ (by omega) (by omega)
theorem fN.setCase {ok:Nat→Prop} {w:World} {cv cv':Nat→Value} {acts:Nat} {c:aP} (h:fN ok w cv acts c) {n:Nat} (hn:n<32) (ho:∀i,i<2001→(i<1232+n*24∨1232+n*24+24≤i)→cv' i=cv i)
  {x:aG} (hm:b7 ok w (fun i=>cv' (1232+n*24+i)) x):fN ok w cv' acts { c with cs:=upd c.cs n x }:=by
 refine⟨by rw[ho 0 (by omega) (by omega)];exact h.acts,by rw[ho 1 (by omega) (by omega)];exact h.cnt,fun k hk=>(h.mem k hk).same fun j hj=>ho _ (by omega) (by omega),fun k hk=>?_,by rw[ho 2000 (by omega) (by omega)];exact h.net⟩
 show b7 ok w _ (upd c.cs n x k)
 by_cases e:k=n
 ·subst e
  rw[aT]
  exact hm
 ·rw[aQ _ _ e]
  exact (h.cs k hk).same fun j hj=>ho _ (by omega) (by omega)
def eR (cv:Nat→Value) (m:Nat) (v:Value) (i:Nat):Value:=if i=m then v else cv i
theorem fN.setNet {ok:Nat→Prop} {w:World} {cv:Nat→Value} {acts:Nat} {c:aP} (h:fN ok w cv acts c) {v:Value} {net:List (List UInt8)} (hv:IsT ok w v net):fN ok w (eR cv 2000 v) acts { c with net:=net }:=by
 have ho:∀i,i<2000→eR cv 2000 v i=cv i:=fun i hi=>if_neg (by omega)
 exact⟨by rw[ho 0 (by omega)];exact h.acts,by rw[ho 1 (by omega)];exact h.cnt,fun k hk=>(h.mem k hk).same fun j hj=>ho _ (by omega),fun k hk=>(h.cs k hk).same fun j hj=>ho _ (by omega),hv⟩
theorem fN.setActs {ok:Nat→Prop} {w:World} {cv:Nat→Value} {acts:Nat} {c:aP} (h:fN ok w cv acts c) (m:Nat):fN ok w (eR cv 0 (.int .i64 m)) m c:=by
 have ho:∀i,i≠0→eR cv 0 (.int .i64 m) i=cv i:=fun i hi=>if_neg hi
 exact⟨rfl,by rw[ho 1 (by omega)];exact h.cnt,fun k hk=>(h.mem k hk).same fun j hj=>ho _ (by omega),fun k hk=>(h.cs k hk).same fun j hj=>ho _ (by omega),by rw[ho 2000 (by omega)];exact h.net⟩
theorem fN.setCnt {ok:Nat→Prop} {w:World} {cv:Nat→Value} {acts:Nat} {c:aP} (h:fN ok w cv acts c) (m:Nat):fN ok w (eR cv 1 (.int .i64 m)) acts { c with cnt:=m }:=by
 have ho:∀i,i≠1→eR cv 1 (.int .i64 m) i=cv i:=fun i hi=>if_neg hi
 exact⟨by rw[ho 0 (by omega)];exact h.acts,rfl,fun k hk=>(h.mem k hk).same fun j hj=>ho _ (by omega),fun k hk=>(h.cs k hk).same fun j hj=>ho _ (by omega),by rw[ho 2000 (by omega)];exact h.net⟩
structure aE (ok:Nat→Prop) (w:World) (p:Nat) (cv:Nat→Value) (acts:Nat) (c:aP):Prop where
 row:w.heap[p]? =some (.cells (aC 2001 cv) 92 (0,0))
 clu:fN ok w cv acts c
 out:¬ ok p
theorem aE.blk {ok:Nat→Prop} {w:World} {p:Nat} {cv:Nat→Value} {acts:Nat} {c:aP} (h:aE ok w p cv acts c):bE 2001 w p cv:=⟨_,h.row⟩
theorem aE.lt {ok:Nat→Prop} {w:World} {p:Nat} {cv:Nat→Value} {acts:Nat} {c:aP} (h:aE ok w p cv acts c):p<w.heap.size:=h.blk.lt
theorem aE.later {ok:Nat→Prop} {w w':World} {p:Nat} {cv:Nat→Value} {acts:Nat} {c:aP} (h:aE ok w p cv acts c) (hB:bQ ok w w') (hp:w'.heap[p]? =w.heap[p]?):aE ok w' p cv acts c:=⟨hp.trans h.row,h.clu.later hB,h.out⟩
theorem aE.below {ok:Nat→Prop} {w w':World} {p:Nat} {cv:Nat→Value} {acts:Nat} {c:aP} (h:aE ok w p cv acts c) (hb:Below w.heap.size w w'):aE ok w' p cv acts c:=h.later (bQ.of_size hb) (hb.block p h.lt)
theorem aE.mono {ok ok':Nat→Prop} {w:World} {p:Nat} {cv:Nat→Value} {acts:Nat} {c:aP} (h:aE ok w p cv acts c) (hk:∀k,k<w.heap.size→ok k→ok' k) (ho:¬ ok' p):aE ok' w p cv acts c:=⟨h.row,h.clu.mono hk,ho⟩
theorem aE.cell {ok:Nat→Prop} {w:World} {p:Nat} {cv:Nat→Value} {acts:Nat} {c:aP} (h:aE ok w p cv acts c) {i:Nat} (hi:i<2001):w.cell? ⟨p,i,none⟩=some (cv i):=h.blk.cell hi
theorem aE.frozen {ok:Nat→Prop} {w:World} {p:Nat} {cv:Nat→Value} {acts:Nat} {c:aP} (h:aE ok w p cv acts c) (i:Nat):w.frozen? ⟨p,i,none⟩=false:=h.blk.frozen i
theorem aE.put {ok:Nat→Prop} {w:World} {p:Nat} {cv:Nat→Value} {acts acts':Nat} {c c':aP} (h:aE ok w p cv acts c) (m:Nat) (v:Value) (hc:fN ok w (eR cv m v) acts' c'):aE ok (w.setCell ⟨p,m,none⟩ v) p (eR cv m v) acts' c':=by
 refine⟨?_,hc.later (fun k _ hk=>Below.heap_setCell _ _ _ _ (fun e=>h.out (by have e:k=p:=e;rw[←e];exact hk))),h.out⟩
 rw[heap_setCell_same w p m _ _ _ h.row,dP]
 rfl
def iU (cv:Nat→Value) (o:Nat) (vs:List Value) (i:Nat):Value:=if o≤i∧i<o+vs.length then vs.getD (i-o) (.bool false) else cv i
theorem eY (w:World) {p k:Nat} (hk:k≠p):∀(vs:List Value) (o:Nat) (w:World),(w.setCells p o vs).heap[k]? =w.heap[k]?
 | [],_,_=>rfl
 | v::vs,o,w=>by
  rw[World.setCells,eY w hk vs (o+1)]
  exact Below.heap_setCell _ _ _ _ hk
theorem nP {p:Nat} {t:TypeId}:∀(vs:List Value) (o:Nat) {w:World} {f:Nat→Value},w.heap[p]? =some (.cells (aC 2001 f) t (0,0))→o+vs.length≤2001→(w.setCells p o vs).heap[p]? =some (.cells (aC 2001 (iU f o vs)) t (0,0))
 | [],o,w,f,h,_=>by
  show w.heap[p]? =_
  rw[h,iV (g:=iU f o []) fun i _=>?_]
  unfold iU
  rw[if_neg (by simp)]
 | v::vs,o,w,f,h,hl=>by
  have hl:o+(vs.length+1)≤2001:=hl
  rw[World.setCells]
  have h1:(w.setCell ⟨p,o,none⟩ v).heap[p]? =some (.cells (aC 2001 (fun i=>if i=o then v else f i)) t (0,0)):=by rw[heap_setCell_same w p o _ _ _ h,dP]
  rw[nP vs (o+1) h1 (by omega),iV (g:=iU f o (v::vs)) fun i _=>?_]
  unfold iU
  simp only[List.length_cons]
  by_cases e:i=o
  ·subst e
   rw[if_neg (by omega),if_pos rfl,if_pos (by omega)]
   simp
  ·by_cases e2:o+1≤i∧i<o+1+vs.length
   ·rw[if_pos e2,if_pos (by omega)]
    obtain⟨k,hk⟩:∃k,i-o=k+1:=⟨i-o-1,by omega⟩
    rw[hk,show i-(o+1)=k by omega]
    simp
   ·rw[if_neg e2,if_neg e,if_neg (by omega)]
theorem aE.puts {ok:Nat→Prop} {w:World} {p:Nat} {cv:Nat→Value} {acts acts':Nat} {c c':aP} (h:aE ok w p cv acts c) (o:Nat) (vs:List Value) (hl:o+vs.length≤2001) (hc:fN ok w (iU cv o vs) acts' c'):aE ok (w.setCells p o vs) p (iU cv o vs) acts' c':=
 ⟨nP vs o h.row hl,hc.later (fun k _ hk=>eY w (fun e=>h.out (by rw[←e];exact hk)) vs o w),h.out⟩
theorem qI {cv:Nat→Value} {o:Nat} {N:Nat} {f:Nat→Value} {i:Nat} (hi:i<N):iU cv o (aC N f).toList (o+i)=f i:=by
 unfold iU
 have hl:(aC N f).toList.length=N:=by simp[aC]
 rw[hl,if_pos (by omega),show o+i-o=i by omega]
 simp[aC,hi]
theorem oR {cv:Nat→Value} {o:Nat} {N:Nat} {f:Nat→Value} {i:Nat} (hi:i<o∨o+N≤i):iU cv o (aC N f).toList i=cv i:=by
 unfold iU
 have hl:(aC N f).toList.length=N:=by simp[aC]
 rw[hl,if_neg (by omega)]
theorem fY {w w':World} {B c o:Nat} {cs:List Value} (h:w.rangeAt c o cs) (hb:Below B w w') (hc:c<B):w'.rangeAt c o cs:=fun j v hv=>by
 rw[hb.cell (p:=⟨c,o+j,none⟩) hc]
 exact h j v hv
theorem aE.range {ok:Nat→Prop} {w:World} {p:Nat} {cv:Nat→Value} {acts:Nat} {c:aP} (h:aE ok w p cv acts c) {o n:Nat} (ho:o+n≤2001):w.rangeAt p o (aC n fun i=>cv (o+i)).toList:=h.blk.range ho
theorem Tryz.infoMember:(Tryz.prog.info? 88).map (·.size)=some 205:=by kernel_rfl
theorem qU {P:Program} {e:TypeId} (he:P.underlying e=some (.int .i64)) (hi:(P.info? e).map (·.size)=some 1) {n:Nat} (S:Nat→Int) {k:Nat} (hk:k<n) (w:World):
  (part e (aC n fun i=> .int .i64 (S i)) k).run P w= .ok (.int .i64 (S k)) w:=by
 cases hq:P.info? e with
 | none=>simp[hq] at hi
 | some i=>
  have hs:i.size=1:=by simpa [hq] using hi
  have hg:=m6 (fun i=>Value.int .i64 (S i)) hk
  simp[part,isAgg,run_underlying he,sizeOf,typeInfo,hq,hs,hg,go_sem]
  try omega
theorem Tryz.infoInt1:(Tryz.prog.info? 3).map (·.size)=some 1:=by kernel_rfl
def vR (n:Nat) (S T:Nat→Int):Bool:=(List.range n).all fun i=>S i == T i
theorem gW {P:Program} {t e:TypeId} {n:Nat} (d:Nat) (ht:P.underlying t=some (.array n e)) (he:P.underlying e=some (.int .i64)) (hi:(P.info? e).map (·.size)=some 1) (S T:Nat→Int) (w:World):
  (Op.equalIn (d+2) t (.agg (aC n fun i=> .int .i64 (S i))) (.agg (aC n fun i=> .int .i64 (T i)))).run P w= .ok (vR n S T) w:=by
 have hsz:∀w,(sizeOf e).run P w= .ok 1 w:=by
  intro w
  cases hq:P.info? e with
  | none=>simp[hq] at hi
  | some i=>
   have hs:i.size=1:=by simpa [hq] using hi
   simp[sizeOf,typeInfo,hq,hs]
 unfold vR
 rw[List.range_eq_range',Op.equalIn]
 simp only[Sem.run_bind,run_underlying ht,Result.andThen_ok,hsz,Std.Legacy.Range.forIn_eq_forIn_range',Std.Legacy.Range.size,Nat.sub_zero,Nat.add_sub_cancel,Nat.div_one]
 have hl:∀i∈List.range' 0 n 1,i<n:=fun i hi=>by simpa using (List.mem_range'_1.1 hi).2
 generalize List.range' 0 n 1=l at hl ⊢
 induction l with
 | nil=>simp
 | cons i l ih=>
  have hk:i<n:=hl i (by simp)
  have px:=qU he hi S hk w
  have py:=qU he hi T hk w
  have pe:(Op.equalIn (d+1) e (.int .i64 (S i)) (.int .i64 (T i))).run P w= .ok (S i == T i) w:=by simp[Op.equalIn,run_underlying he]
  simp only[List.forIn_cons,Sem.run_bind,Nat.mul_one,px,py,pe,Result.andThen_ok,List.all_cons]
  cases hb:(S i == T i)
  ·simp
  ·simp only[Bool.not_true,Bool.false_eq_true,if_false,Sem.run_pure,Result.andThen_ok,Bool.true_and]
   simpa only[Nat.mul_one] using ih fun j hj=>hl j (by simp[hj])
theorem Tryz.infoSix:(Tryz.prog.info? 43).map (·.size)=some 6:=by kernel_rfl
theorem Tryz.infoFour:(Tryz.prog.info? 44).map (·.size)=some 4:=by kernel_rfl
theorem Tryz.infoFourI:(Tryz.prog.info? 45).map (·.size)=some 4:=by kernel_rfl
theorem Tryz.sixGuard:Tryz.prog.eqGuardType Tryz.prog.depth 43=false:=by kernel_rfl
theorem Tryz.fourGuard:Tryz.prog.eqGuardType Tryz.prog.depth 44=false:=by kernel_rfl
theorem Tryz.fourIGuard:Tryz.prog.eqGuardType Tryz.prog.depth 45=false:=by kernel_rfl
theorem oS (n:Nat) (f:Nat→Value):(aC n f).toList=(List.range n).map f:=by simp[aC]
theorem bE.truths {w:World} {b o n N:Nat} {nv:Nat→Value} {S:Nat→Bool} (h:bE N w b nv) (hn:o+n≤N) (hs:∀i,i<n→nv (o+i)= .bool (S i)):w.rangeAt b o (aK n S).toList:=by
 have:=h.range (o:=o) (n:=n) hn
 rw[FM,oS,←List.map_congr_left (fun i hi=>hs i (List.mem_range.1 hi))]
 exact this
theorem bE.numbers {w:World} {b o n N:Nat} {nv:Nat→Value} {S:Nat→Int} (h:bE N w b nv) (hn:o+n≤N) (hs:∀i,i<n→nv (o+i)= .int .i64 (S i)):w.rangeAt b o (aC n fun i=> .int .i64 (S i)).toList:=by
 have:=h.range (o:=o) (n:=n) hn
 rw[oS,←List.map_congr_left (fun i hi=>hs i (List.mem_range.1 hi))]
 exact this
def aG.wants (c:aG) (n:Nat):Bool:=if c.fixed then !c.known n || c.lacks (ofL n) else bJ c.ops (ofL n) && !c.told n
def aG.msg (c:aG) (id:Int) (n:Nat):aD:=if c.fixed then ⟨3,n,id,c.ops,c.deps,[],[]⟩ else ⟨1,n,id,c.ops,[],[],[]⟩
theorem EW (c:aG) (id:Int) (n:Nat):c.send id n=if c.wants n then [c.msg id n] else []:=by
 unfold aG.send aG.wants aG.msg
 cases c.fixed<;>rfl
def aG.sends (c:aG) (id:Int) (k:Nat):List aD:=(List.range k).flatMap (c.send id)
theorem EX (c:aG) (id:Int):c.sends id 0=[]:=rfl
theorem qN (c:aG) (id:Int) (k:Nat):c.sends id (k+1)=c.sends id k++if c.wants k then [c.msg id k] else []:=by
 unfold aG.sends
 rw[List.range_succ,List.flatMap_append]
 simp only[List.flatMap_cons,List.flatMap_nil,List.append_nil,EW]
theorem yA (c:aG) (id:Int):∀k,(c.sends id k).length≤k
 | 0=>by simp[EX]
 | k+1=>by
  rw[qN,List.length_append]
  have:=yA c id k
  split
  ·simp;omega
  ·simp;omega
def dH (c:aG) (id:Int):Bool:=eE c && c.begun && !eI c.deps id
theorem FG {c:aG} {id:Int} (h:dH c id=true) (h0:0≤id) (h1:id<32):cV c id=c.sends id 6:=by
 unfold dH at h
 simp only[Bool.and_eq_true,Bool.not_eq_true'] at h
 unfold cV aG.sends
 rw[if_neg]
 rintro (e | e | e | e | e)
 ·rw[h.1.1] at e;cases e
 ·rw[h.1.2] at e;cases e
 ·omega
 ·omega
 ·rw[h.2] at e;cases e
theorem y9 {c:aG} {id:Int} (h:dH c id=false∨id<0∨32≤id):cV c id=[]:=by
 unfold cV
 rw[if_pos]
 rcases h with h | h | h
 ·unfold dH at h
  cases e:eE c
  ·exact Or.inl rfl
  ·cases e2:c.begun
   ·exact Or.inr (Or.inl rfl)
   ·cases e3:eI c.deps id
    ·rw[e,e2,e3] at h;cases h
    ·exact Or.inr (Or.inr (Or.inr (Or.inr rfl)))
 ·exact Or.inr (Or.inr (Or.inl h))
 ·exact Or.inr (Or.inr (Or.inr (Or.inl h)))
def fU (t:Nat→Bool) (sh:Int):Nat→Nat
 | 0=>0
 | k+1=>fU t sh k+if t k && (ofL k == sh) then 1 else 0
theorem wB (t:Nat→Bool) (sh:Int):∀k,fU t sh k≤k
 | 0=>Nat.le_refl _
 | k+1=>by
  have:=wB t sh k
  simp only[fU]
  split<;>omega
theorem FQ (t:Nat→Bool):fU t 0 6=jY t 0:=by
 simp only[fU,jY,List.range_succ,List.range_zero,List.nil_append,List.filter_append,List.length_append,Nat.zero_mul,Nat.zero_add]
 simp only[show ofL ((0:Nat):Int)=0 from rfl,show ofL ((1:Nat):Int)=0 from rfl,show ofL ((2:Nat):Int)=0 from rfl,show ofL ((3:Nat):Int)=1 from rfl,show ofL ((4:Nat):Int)=1 from rfl,show ofL ((5:Nat):Int)=1 from rfl]
 cases e0:t 0<;>cases e1:t 1<;>cases e2:t 2<;>simp[e0,e1,e2]
theorem FR (t:Nat→Bool):fU t 1 6=jY t 1:=by
 simp only[fU,jY,List.range_succ,List.range_zero,List.nil_append,List.filter_append,List.length_append,Nat.one_mul]
 simp only[show ofL ((0:Nat):Int)=0 from rfl,show ofL ((1:Nat):Int)=0 from rfl,show ofL ((2:Nat):Int)=0 from rfl,show ofL ((3:Nat):Int)=1 from rfl,show ofL ((4:Nat):Int)=1 from rfl,show ofL ((5:Nat):Int)=1 from rfl]
 cases e0:t 3<;>cases e1:t 4<;>cases e2:t 5<;>simp[e0,e1,e2]
theorem JY (ops:List OpL) (t:Nat→Bool):eA ops t=(!(decide (fU t 0 6<2) && bJ ops 0) && !(decide (fU t 1 6<2) && bJ ops 1)):=by
 unfold eA
 rw[FQ,FR]
 have h:∀n:Nat,decide (2≤n)= !decide (n<2):=fun n=>by
  by_cases e:n<2
  ·simp[e]
  ·simp[e];omega
 rw[h,h]
 cases bJ ops 0<;>cases bJ ops 1<;>simp
def aG.hasAll (c:aG):Bool:=(List.range c.ops.length).all c.has
theorem mK {c:aG}:c.hasAll=true↔∀i,i<c.ops.length→c.has i=true:=by
 unfold aG.hasAll
 simp
theorem EL {c:aG} (hb:c.begun=true) (hg:eE c=true) (h:c.hasAll=true):cT c=((List.range c.ops.length).map c.vals,true):=by
 unfold cT
 rw[if_neg]
 rintro (e | e | e | e)
 ·rw[hb] at e;cases e
 ·rw[hg] at e;cases e
 ·rw[xL (mK.1 h)] at e;cases e
 ·rw[xL (mK.1 h)] at e;cases e
theorem rU {c:aG} (h:eE c=false∨c.begun=false∨c.hasAll=false):cT c=([],false):=by
 unfold cT
 rw[if_pos]
 rcases h with h | h | h
 ·exact Or.inr (Or.inl h)
 ·exact Or.inl h
 ·cases e0:c.lacks 0
  ·cases e1:c.lacks 1
   ·rw[mK.2 (fun i hi=>xN e0 e1 hi)] at h;cases h
   ·exact Or.inr (Or.inr (Or.inr rfl))
  ·exact Or.inr (Or.inr (Or.inl rfl))
theorem qT {c:aG} (hb:c.begun=true) (hg:eE c=true):0<c.ops.length∧c.ops.length≤4:=by
 rw[kD hb,Bool.and_eq_true] at hg
 have:=hg.1
 unfold bR at this
 simp at this
 omega
def kH (n:Int):Bool:=decide (0≤n∧n<32)
theorem sM (n:Int) (w:World):
  Calls Tryz.prog 89 #[.int .i64 n] w fun e w'=>e= .returned (.bool (kH n))∧w'=w:=by
 by_cases h1:0≤n
 ·by_cases h2:n<32
  ·have E:Hid (kH n=true):=by unfold kH Hid;simp;omega
   have d1:decide (0≤n)=true:=by simpa using h1
   have d2:decide (n<32)=true:=by simpa using h2
   go_enter Tryz.func89,Tryz.ntmps89
   go_wp2
   go_ret
   exact⟨aH E.out.symm,rfl⟩
  ·have E:Hid (kH n=false):=by unfold kH Hid;simp;omega
   have d1:decide (0≤n)=true:=by simpa using h1
   have d2:decide (n<32)=false:=by simpa using h2
   go_enter Tryz.func89,Tryz.ntmps89
   go_wp2
   go_ret
   exact⟨aH E.out.symm,rfl⟩
 ·have E:Hid (kH n=false):=by unfold kH Hid;simp;omega
  have d1:decide (0≤n)=false:=by simpa using h1
  go_enter Tryz.func89,Tryz.ntmps89
  go_wp2
  go_ret
  exact⟨aH E.out.symm,rfl⟩
def cR (w:World) (gr:Array Value) (c:aG):Prop:=∃nv,gr=aC 24 nv∧b7 (· <w.heap.size) w nv c
theorem cR.later {w w':World} {gr:Array Value} {c:aG} (h:cR w gr c) (hb:Below w.heap.size w w'):cR w' gr c:=by
 obtain⟨nv,e,h⟩:=h
 exact⟨nv,e,h.below hb⟩
theorem cR.size {w:World} {gr:Array Value} {c:aG} (h:cR w gr c):gr.size=24:=by
 obtain⟨nv,e,_⟩:=h
 rw[e,aF]
theorem cR.info {w:World} {gr:Array Value} {c:aG} (h:cR w gr c):(Tryz.prog.info? 47).map (·.size)=some gr.size:=by rw[h.size];exact Tryz.infoCase
theorem cR.one {w:World} {gr:Array Value} {c:aG} (h:cR w gr c):gr.all (·.oneCell')=true:=by
 obtain⟨nv,e,h⟩:=h
 rw[e]
 exact cF h.one
structure bD (b:Nat) (w:World) (gr:Array Value) (c:aG):Prop where
 row:w.heap[b]? =some (.cells gr 47 (0,0))
 case:cR w gr c
theorem bD.later {b:Nat} {w w':World} {gr:Array Value} {c:aG} (h:bD b w gr c) (hb:Below w.heap.size w w'):bD b w' gr c:=
 ⟨by rw[hb.block b (Array.getElem?_eq_some_iff.1 h.row).1];exact h.row,h.case.later hb⟩
theorem bD.lt {b:Nat} {w:World} {gr:Array Value} {c:aG} (h:bD b w gr c):b<w.heap.size:=(Array.getElem?_eq_some_iff.1 h.row).1
theorem bD.new {w:World} {gr:Array Value} {c:aG} (h:cR w gr c):bD w.heap.size (w.alloc (.cells gr 47)) gr c:=
 ⟨aJ _ _,h.later ((Below.refl _ _).alloc (Nat.le_refl _) _)⟩
theorem bD.blk {b:Nat} {w:World} {gr:Array Value} {c:aG} (h:bD b w gr c):∃nv,gr=aC 24 nv∧bE 24 w b nv∧b7 (· <w.heap.size) w nv c:=by
 obtain⟨nv,e,hc⟩:=h.case
 exact⟨nv,e,⟨_,by rw[←e];exact h.row⟩,hc⟩
theorem bD.begun {b:Nat} {w:World} {gr:Array Value} {c:aG} (h:bD b w gr c):w.cell? ⟨b,0,none⟩=some (.bool c.begun):=by
 obtain⟨nv,_,hb,hc⟩:=h.blk
 rw[hb.cell (by omega),hc.begun]
theorem bD.fixed {b:Nat} {w:World} {gr:Array Value} {c:aG} (h:bD b w gr c):w.cell? ⟨b,1,none⟩=some (.bool c.fixed):=by
 obtain⟨nv,_,hb,hc⟩:=h.blk
 rw[hb.cell (by omega),hc.fixed]
theorem bD.ops {b:Nat} {w:World} {gr:Array Value} {c:aG} (h:bD b w gr c):∃a cap,w.cell? ⟨b,2,none⟩=some (.slice a c.ops.length cap)∧bX w a cap c.ops∧c.ops.length*24≤140737488355328:=by
 obtain⟨nv,_,hb,hc⟩:=h.blk
 obtain⟨a,cap,e,hs⟩:=hc.ops.sl
 obtain⟨_,_,_,_,hl,_⟩:=hc.ops
 exact⟨a,cap,by rw[hb.cell (by omega),e],hs,hl⟩
theorem bD.deps {b:Nat} {w:World} {gr:Array Value} {c:aG} (h:bD b w gr c):∃a cap,w.cell? ⟨b,15,none⟩=some (.slice a c.deps.length cap)∧bO w a cap c.deps∧c.deps.length*8≤140737488355328:=by
 obtain⟨nv,_,hb,hc⟩:=h.blk
 obtain⟨a,cap,e,hs⟩:=hc.deps.sl
 obtain⟨_,_,_,_,hl,_⟩:=hc.deps
 exact⟨a,cap,by rw[hb.cell (by omega),e],hs,hl⟩
theorem bD.told {b:Nat} {w:World} {gr:Array Value} {c:aG} (h:bD b w gr c) {i:Nat} (hi:i<6):w.cell? ⟨b,3+i,none⟩=some (.bool (c.told i)):=by
 obtain⟨nv,_,hb,hc⟩:=h.blk
 rw[hb.cell (by omega),hc.told i hi]
theorem bD.known {b:Nat} {w:World} {gr:Array Value} {c:aG} (h:bD b w gr c) {i:Nat} (hi:i<6):w.cell? ⟨b,9+i,none⟩=some (.bool (c.known i)):=by
 obtain⟨nv,_,hb,hc⟩:=h.blk
 rw[hb.cell (by omega),hc.known i hi]
theorem bD.has {b:Nat} {w:World} {gr:Array Value} {c:aG} (h:bD b w gr c) {i:Nat} (hi:i<4):w.cell? ⟨b,16+i,none⟩=some (.bool (c.has i)):=by
 obtain⟨nv,_,hb,hc⟩:=h.blk
 rw[hb.cell (by omega),hc.has i hi]
theorem bD.vals {b:Nat} {w:World} {gr:Array Value} {c:aG} (h:bD b w gr c) {i:Nat} (hi:i<4):w.cell? ⟨b,20+i,none⟩=some (.int .i64 (c.vals i)):=by
 obtain⟨nv,_,hb,hc⟩:=h.blk
 rw[hb.cell (by omega),hc.vals i hi]
theorem bD.rTold {b:Nat} {w:World} {gr:Array Value} {c:aG} (h:bD b w gr c):w.rangeAt b 3 (aK 6 c.told).toList:=by
 obtain⟨nv,_,hb,hc⟩:=h.blk
 exact hb.truths (by omega) hc.told
theorem bD.rKnown {b:Nat} {w:World} {gr:Array Value} {c:aG} (h:bD b w gr c):w.rangeAt b 9 (aK 6 c.known).toList:=by
 obtain⟨nv,_,hb,hc⟩:=h.blk
 exact hb.truths (by omega) hc.known
theorem bD.rHas {b:Nat} {w:World} {gr:Array Value} {c:aG} (h:bD b w gr c):w.rangeAt b 16 (aK 4 c.has).toList:=by
 obtain⟨nv,_,hb,hc⟩:=h.blk
 exact hb.truths (by omega) hc.has
theorem bD.rVals {b:Nat} {w:World} {gr:Array Value} {c:aG} (h:bD b w gr c):w.rangeAt b 20 (aC 4 fun i=> .int .i64 (c.vals i)).toList:=by
 obtain⟨nv,_,hb,hc⟩:=h.blk
 exact hb.numbers (by omega) hc.vals
theorem bD.range {b:Nat} {w:World} {gr:Array Value} {c:aG} (h:bD b w gr c):w.rangeAt b 0 gr.toList:=by
 intro j v hv
 rw[cell_of_row w b (0+j) _ _ _ h.row,Nat.zero_add]
 simpa using hv
theorem cR.len {w:World} {gr:Array Value} {c:aG} (h:cR w gr c):(Tryz.prog.info? 47).map (·.size)=some gr.toList.length:=by rw[Array.length_toList];exact h.info
theorem jJ (w:World):cR w (aC 24 zcv) cA:=⟨zcv,rfl,oG _ w⟩
theorem nC:aC 24 zcv=#[.bool false,.bool false,.slice none 0 0,.bool false,.bool false,.bool false,.bool false,.bool false,.bool false,.bool false,.bool false,.bool false,.bool false,.bool false,.bool false,.slice none 0 0,.bool false,.bool false,.bool false,.bool false,.int .i64 0,.int .i64 0,.int .i64 0,.int .i64 0]:=rfl
theorem Tryz.sizeSix (S:Nat→Bool):(Tryz.prog.info? 43).map (·.size)=some (aK 6 S).toList.length:=by rw[iW];exact Tryz.infoSix
theorem Tryz.sizeFour (S:Nat→Bool):(Tryz.prog.info? 44).map (·.size)=some (aK 4 S).toList.length:=by rw[iW];exact Tryz.infoFour
theorem Tryz.sizeFourI (S:Nat→Int):(Tryz.prog.info? 45).map (·.size)=some (aC 4 fun i=>Value.int .i64 (S i)).toList.length:=by rw[oS,List.length_map,List.length_range];exact Tryz.infoFourI
theorem fF (S:Nat→Bool):iY Tryz.prog 43 (aK 6 S).toList.length:=⟨_,Tryz.underlying43,rfl,Tryz.sizeSix S⟩
theorem iL (S:Nat→Bool):iY Tryz.prog 44 (aK 4 S).toList.length:=⟨_,Tryz.underlying44,rfl,Tryz.sizeFour S⟩
theorem gN (S:Nat→Int):iY Tryz.prog 45 (aC 4 fun i=>Value.int .i64 (S i)).toList.length:=⟨_,Tryz.underlying45,rfl,Tryz.sizeFourI S⟩
theorem cR.row {w:World} {gr:Array Value} {c:aG} (h:cR w gr c):iY Tryz.prog 47 gr.size:=⟨_,Tryz.underlying47,rfl,h.info⟩
theorem eJ:iY Tryz.prog 123 7:=⟨_,Tryz.underlying123,rfl,Tryz.infoFrame7⟩
end Go.Proofs.YtkoefoccbjhoiacGreat
