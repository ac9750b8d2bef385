/-
squeezed by tools/squeeze.py from: CluD CluA CluJ CluK CluP CluQ CluF CluR CluB QMem NEq CEq PostM CBox
-/
import Derived.Test.YtkoefoccbjhoiadGreatTope17
import Derived.Test.YtkoefoccbjhoiadGreatTope7
import Derived.Test.YtkoefoccbjhoiadGreatTope6
import Derived.Test.YtkoefoccbjhoiadGreatTope3
import Derived.Test.YtkoefoccbjhoiadGreatTope8
set_option linter.unusedVariables false
set_option linter.unusedSimpArgs false
set_option maxRecDepth 100000
set_option maxHeartbeats 4000000
namespace Go.Proofs.YtkoefoccbjhoiadGreat
open Go.RowKit
theorem LV {s s' t t':List UInt8} (h:gZ s) (h':gZ s') (e:rc s++t=rc s'++t'):s=s'∧t=t':=by
 obtain⟨a,b,e1,e2⟩:=oW s h.2
 obtain⟨a',b',e1',e2'⟩:=oW s' h'.2
 unfold rc at e
 rw[e1,e1'] at e
 simp only[List.cons_append,List.nil_append,List.cons.injEq] at e
 obtain⟨rfl,rfl,e⟩:=e
 exact List.append_inj e (by omega)
theorem wX:∀{rs rs':List (List UInt8)} {t t':List UInt8},(∀s∈rs,gZ s)→(∀s∈rs',gZ s)→jX t→jX t'→cK rs++t=cK rs'++t'→rs=rs'∧t=t'
 | [],[],t,t',_,_,_,_,e=>⟨rfl,by simpa [mN] using e⟩
 | [],s'::rs',t,t',_,h',n,_,e=>by
  rw[mN,List.nil_append,kO,List.append_assoc] at e
  exact absurd e (n s' _ (h' s' (by simp)))
 | s::rs,[],t,t',h,_,_,n',e=>by
  rw[mN,List.nil_append,kO,List.append_assoc] at e
  exact absurd e.symm (n' s _ (h s (by simp)))
 | s::rs,s'::rs',t,t',h,h',n,n',e=>by
  rw[kO,kO,List.append_assoc,List.append_assoc] at e
  obtain⟨e0,e1⟩:=LV (h s (by simp)) (h' s' (by simp)) e
  obtain⟨e2,e3⟩:=wX (fun x hx=>h x (by simp[hx])) (fun x hx=>h' x (by simp[hx])) n n' e1
  exact⟨by rw[e0,e2],e3⟩
def aP.crash (c:aP) (n:Nat):aP:={ c with up:=upd c.up n false,st:=upd c.st n dN,tear:=upd c.tear n none }
def aP.setTear (c:aP) (n:Nat) (m:Int):aP:={ c with tear:=upd c.tear n (some m) }
def aP.rise (c:aP) (n:Nat) (rs:List (List UInt8)):aP:={ c with up:=upd c.up n true,log:=upd c.log n (cK rs),st:=upd c.st n (jR (n:Int) rs).1 }
theorem dG.crash {c:aP} {S:Sys} (h:dG c S) (k:Nat):dG (c.crash k) S:=by
 refine⟨h.t,h.u,h.good,h.bound,h.net,h.cs,fun n hn=>?_,h.cnt⟩
 by_cases e:n=k
 ·subst e
  obtain⟨rs,t,l1,l2,l3,l4,_⟩:=h.log n hn
  exact⟨rs,t,l1,l2,l3,l4,fun e=>(by have e:upd c.up n false n=true:=e;rw[aU] at e;cases e),fun _=>⟨aU _ _ _,aU _ _ _⟩⟩
 ·exact kM (h.log n hn) e rfl rfl (aQ _ _ e) (aQ _ _ e) (aQ _ _ e)
theorem dG.setTear {c:aP} {S:Sys} (h:dG c S) {k:Nat} (hu:c.up k=true) (m:Int):dG (c.setTear k m) S:=by
 refine⟨h.t,h.u,h.good,h.bound,h.net,h.cs,fun n hn=>?_,h.cnt⟩
 by_cases e:n=k
 ·subst e
  obtain⟨rs,t,l1,l2,l3,l4,l5,_⟩:=h.log n hn
  exact⟨rs,t,l1,l2,l3,l4,l5,fun e=>(by have e:c.up n=false:=e;rw[hu] at e;cases e)⟩
 ·exact kM (h.log n hn) e rfl rfl rfl rfl (aQ _ _ e)
theorem dG.wakes {c:aP} {S:Sys} (h:dG c S) {n:Nat} (hn:n<6) {rs:List (List UInt8)} {t:List UInt8} (hr:∀s∈rs,gZ s) (ht:jX t) (el:c.log n=cK rs++t):
  jR (n:Int) rs=(S.B n,0)∧(c.up n=true→t=[]∧c.st n=S.B n):=by
 obtain⟨rs',t',l1,l2,l3,l4,l5,_⟩:=h.log n hn
 rw[l1] at el
 obtain⟨rfl,rfl⟩:=wX l2 hr l3 ht el
 refine⟨?_,l5⟩
 unfold jR
 rw[if_neg,l4]
 unfold kH
 simp
 omega
theorem dG.rise {c:aP} {S:Sys} (h:dG c S) {k:Nat} (hk:k<6) {rs:List (List UInt8)} {t:List UInt8} (hr:∀s∈rs,gZ s) (ht:jX t) (el:c.log k=cK rs++t):dG (c.rise k rs) S:=by
 have hw:=(h.wakes hk hr ht el).1
 refine⟨h.t,h.u,h.good,h.bound,h.net,h.cs,fun n hn=>?_,h.cnt⟩
 by_cases e:n=k
 ·subst e
  refine⟨rs,[],by rw[List.append_nil];exact aU _ _ _,hr,qT,?_,fun _=>⟨rfl,?_⟩,fun e=>?_⟩
  ·unfold jR at hw
   split at hw
   ·exact absurd (congrArg Prod.snd hw) (show (2:Int)≠0 by decide)
   ·exact hw
  ·show upd c.st n _ n=_
   rw[aU,hw]
  ·have e:upd c.up n true n=false:=e
   rw[aU] at e;cases e
 ·exact kM (h.log n hn) e rfl (aQ _ _ e) (aQ _ _ e) (aQ _ _ e) rfl
theorem dG.less {c:aP} {S:Sys} (h:dG c S) {net:List (List UInt8)} (hs:∀t∈net,t∈c.net):dG { c with net:=net } S:=
 ⟨h.t,h.u,h.good,h.bound,fun t ht=>h.net t (hs t ht),h.cs,h.log,h.cnt⟩
def aP.answer (c:aP) (f:aD):aP × Int:=
 ({ c with cs:=upd c.cs f.id.toNat (aR (c.cs f.id.toNat) f.id f).1,net:=cD c.net (aR (c.cs f.id.toNat) f.id f).2.1 },(aR (c.cs f.id.toNat) f.id f).2.2)
theorem J0 {C:Nat→aG} {i:Nat}:upd C i (C i)=C:=by
 funext j
 unfold upd
 split
 ·rename_i e;rw[e]
 ·rfl
theorem tD {S T:Sys} {c d:aP} {n:Nat} (h:rM S c n) (hB:T.B n=S.B n) (hl:d.log n=c.log n) (hu:d.up n=c.up n) (hs:d.st n=c.st n) (ht:d.tear n=c.tear n):rM T d n:=
 kM (k:=n+1) h (by omega) hB hl hu hs ht
theorem dG.answer {c:aP} {S:Sys} (h:dG c S) {f:aD} (hM:S.M f):∃T,dG (c.answer f).1 T∧fQ S T:=by
  by_cases h0:(aR (S.C f.id.toNat) f.id f).2.2=0
  ·obtain⟨_,hr2⟩:=h.t.s.rng f hM
   refine⟨⟨S.B,upd S.C f.id.toNat (aR (S.C f.id.toNat) f.id f).1,fun g=>S.M g∨g∈(aR (S.C f.id.toNat) f.id f).2.1⟩,⟨h.t.answer hM h0,jL.answer h.t h.u hM h0,fun g hg=>?_,h.bound,fun t ht=>?_,?_,fun n hn=>tD (h.log n hn) rfl rfl rfl rfl rfl,⟨h.cnt.1,fun i hi=>?_⟩⟩,
     ⟨fun a b ha hb L=>L.answer h.t ha hb f _,fun n _=>⟨[],by simp⟩⟩⟩
   ·rcases hg with hg | hg
    ·exact h.good g hg
    ·exact kW (lG hg).1
   ·have ht:t∈cD c.net (aR (c.cs f.id.toNat) f.id f).2.1:=ht
    rw[h.cs] at ht
    rcases nN _ _ _ ht with ht | ⟨g,hg1,hg2⟩
    ·obtain⟨g,hg1,hg2⟩:=h.net t ht
     exact⟨g,Or.inl hg1,hg2⟩
    ·exact⟨g,Or.inr hg1,hg2⟩
   ·show upd c.cs f.id.toNat (aR (c.cs f.id.toNat) f.id f).1=_
    rw[h.cs]
   ·show _↔i<c.cnt
    rw[←h.cnt.2 i hi]
    show (upd S.C f.id.toNat (aR (S.C f.id.toNat) f.id f).1 i).begun=true↔_
    rcases eW S.C f.id.toNat (aR (S.C f.id.toNat) f.id f).1 i with ⟨e1,e2⟩ | ⟨_,e2⟩
    ·rw[e2,e1]
     have hb:=(oQ h0).1
     have:=(zR (id:=f.id) (f:=f) (h.t.case _ (by omega) hb)).1.begun
     rw[this,hb]
    ·rw[e2]
  ·rcases f8 (S.C f.id.toNat) f.id f with ⟨_,e1,e2⟩ | ⟨e,_⟩ | ⟨e,_⟩
   ·refine⟨S,?_,fQ.refl S⟩
    have:(c.answer f).1=c:=by
      unfold aP.answer
      rw[h.cs,e1,e2,J0]
      show (⟨c.up,c.st,c.log,c.tear,S.C,c.cnt,c.net⟩:aP)=c
      rw[←h.cs]
    rw[this]
    exact h
   ·exact absurd e h0
   ·exact absurd e h0
theorem dG.again {c:aP} {S:Sys} (h:dG c S) {i:Nat} (hi:i<32):∃T,dG { c with net:=cD c.net (cQ (c.cs i) (i:Int)) } T∧fQ S T:=by
 refine⟨⟨S.B,S.C,fun g=>S.M g∨g∈cQ (S.C i) (i:Int)⟩,⟨h.t.again hi,h.u.again i,fun g hg=>?_,h.bound,fun t ht=>?_,h.cs,fun n hn=>tD (h.log n hn) rfl rfl rfl rfl rfl,h.cnt⟩,⟨fun a b _ _ L=>L.sent _,fun n _=>⟨[],by simp⟩⟩⟩
 ·rcases hg with hg | hg
  ·exact h.good g hg
  ·exact kW hg
 ·have ht:t∈cD c.net (cQ (c.cs i) (i:Int)):=ht
  rw[h.cs] at ht
  rcases nN _ _ _ ht with ht | ⟨g,hg1,hg2⟩
  ·obtain⟨g,hg1,hg2⟩:=h.net t ht
   exact⟨g,Or.inl hg1,hg2⟩
  ·exact⟨g,Or.inr hg1,hg2⟩
theorem dG.begin {c:aP} {S:Sys} (h:dG c S) (hi:c.cnt<32) {ops:List OpL} (h0:(bI (c.cnt:Int) ops).2.2=0):
    ∃T,dG { c with cs:=upd c.cs c.cnt (bI (c.cnt:Int) ops).1,cnt:=c.cnt+1,net:=cD c.net (bI (c.cnt:Int) ops).2.1 } T∧fQ S T∧
      ∀b,b<c.cnt→(cT (S.C b)).2=true→fX T c.cnt b:=by
  have hz:(S.C c.cnt).begun=false:=by
    cases e:(S.C c.cnt).begun
    ·rfl
    ·exact absurd ((h.cnt.2 c.cnt hi).1 e) (by omega)
  have rs:=wY h0
  have eb:(bI (c.cnt:Int) ops).2.1=cQ (bI (c.cnt:Int) ops).1 (c.cnt:Int):=by
    unfold bI at *
    split at h0
    ·exact absurd h0 (show (2:Int)≠0 by decide)
    ·rename_i h1
     rw[if_neg h1]
     split at h0
     ·exact absurd h0 (show (1:Int)≠0 by decide)
     ·rename_i h2
      rw[if_neg h2]
  refine⟨⟨S.B,upd S.C c.cnt (bI (c.cnt:Int) ops).1,fun g=>S.M g∨g∈(bI (c.cnt:Int) ops).2.1⟩,⟨h.t.begin hi hz h0,h.u.begin h0,fun g hg=>?_,h.bound,fun t ht=>?_,?_,fun n hn=>tD (h.log n hn) rfl rfl rfl rfl rfl,⟨hi,fun i hi2=>?_⟩⟩,
    ⟨fun a b ha hb L=>L.begin h.t ha hb hi hz _ _,fun n _=>⟨[],by simp⟩⟩,fun b hb hr=>?_⟩
  ·rcases hg with hg | hg
   ·exact h.good g hg
   ·rw[eb] at hg
    exact kW hg
  ·rcases nN _ _ _ ht with ht | ⟨g,hg1,hg2⟩
   ·obtain⟨g,hg1,hg2⟩:=h.net t ht
    exact⟨g,Or.inl hg1,hg2⟩
   ·exact⟨g,Or.inr hg1,hg2⟩
  ·show upd c.cs c.cnt (bI (c.cnt:Int) ops).1=_
   rw[h.cs]
  ·show (upd S.C c.cnt (bI (c.cnt:Int) ops).1 i).begun=true↔i<c.cnt+1
   rcases eW S.C c.cnt (bI (c.cnt:Int) ops).1 i with ⟨e1,e2⟩ | ⟨e1,e2⟩
   ·rw[e2,rs.begun]
    exact⟨fun _=>by omega,fun _=>rfl⟩
   ·rw[e2,h.cnt.2 i hi2]
    omega
  ·exact h.t.late hi (by omega) hz ((h.cnt.2 b (by omega)).2 hb) hr _ rs.begun _
structure fF where
 kind:Int
 n:Int
 m:Int
 ops:List OpL
structure kJ where
 code:Int
 n:Int
 vals:List Int
def l9:Nat→List UInt8→List (List UInt8)
 | n+1,a::b::r=>if 0<a.toNat*256+b.toNat∧a.toNat*256+b.toNat≤400∧a.toNat*256+b.toNat≤r.length then r.take (a.toNat*256+b.toNat)::l9 n (r.drop (a.toNat*256+b.toNat)) else []
 | _,_=>[]
theorem sT:∀(n:Nat) (l:List UInt8),l.length≤n→∃t,(∀s∈l9 n l,gZ s)∧jX t∧l=cK (l9 n l)++t
 | n,[],_=>⟨[],by cases n<;>simp[l9],tH (by simp),by cases n<;>simp[l9,mN]⟩
 | n,[a],_=>⟨[a],by cases n<;>simp[l9],tH (by simp),by cases n<;>simp[l9,mN]⟩
 | 0,a::b::r,h=>by simp at h
 | n+1,a::b::r,h=>by
  have h:r.length+1+1≤n+1:=h
  unfold l9
  split
  ·rename_i hc
   have hl:(r.take (a.toNat*256+b.toNat)).length=a.toNat*256+b.toNat:=by rw[List.length_take];omega
   obtain⟨t,h1,h2,h3⟩:=sT n (r.drop (a.toNat*256+b.toNat)) (by rw[List.length_drop];omega)
   refine⟨t,fun s hs=>?_,h2,?_⟩
   ·rcases List.mem_cons.1 hs with e | e
    ·rw[e];exact⟨by omega,by omega⟩
    ·exact h1 s e
   ·rw[kO,List.append_assoc,←h3]
    unfold rc
    rw[J9 hl]
    simp
  ·rename_i hc
   refine⟨a::b::r,by simp,fun s t hs e=>?_,by rw[mN];rfl⟩
   obtain⟨a',b',e1,e2⟩:=oW s hs.2
   unfold rc at e
   rw[e1] at e
   simp only[List.cons_append,List.nil_append,List.cons.injEq] at e
   obtain⟨rfl,rfl,e⟩:=e
   have:=congrArg List.length e
   rw[List.length_append] at this
   exact hc ⟨by have:=hs.1;omega,by have:=hs.2;omega,by omega⟩
def qZ (l:List UInt8):List (List UInt8):=l9 l.length l
theorem oO (l:List UInt8):∃t,(∀s∈qZ l,gZ s)∧jX t∧l=cK (qZ l)++t:=sT l.length l (Nat.le_refl _)
def j5:aP:=⟨fun _=>true,fun _=>dN,fun _=>[],fun _=>none,fun _=>b9,0,[]⟩
def aP.bring (c:aP) (t:List UInt8):aP × kJ:=
 if (eU t).kind=1∨(eU t).kind=3 then ((come c (eU t)).1,if (come c (eU t)).2=0 then ⟨0,(eU t).id,[]⟩ else ⟨(come c (eU t)).2,0,[]⟩)
 else ((c.answer (eU t)).1,if (c.answer (eU t)).2=0 then ⟨0,(eU t).id,(cT ((c.answer (eU t)).1.cs (eU t).id.toNat)).1⟩ else ⟨(c.answer (eU t)).2,0,[]⟩)
def aP.without (c:aP) (k:Nat):aP:={ c with net:=c.net.eraseIdx k }
def doA (c:aP) (a:fF):aP × kJ:=
 if a.kind=1 then
  if 32≤c.cnt then (c,⟨5,0,[]⟩)
  else if (bI (c.cnt:Int) a.ops).2.2≠0 then (c,⟨(bI (c.cnt:Int) a.ops).2.2,0,[]⟩)
  else ({ c with cs:=upd c.cs c.cnt (bI (c.cnt:Int) a.ops).1,cnt:=c.cnt+1,net:=cD c.net (bI (c.cnt:Int) a.ops).2.1 },⟨0,(c.cnt:Int),[]⟩)
 else if a.kind=2∨a.kind=3∨a.kind=4 then
  if a.n<0∨(c.net.length:Int)≤a.n then (c,⟨4,0,[]⟩)
  else if a.kind=4 then (c.without a.n.toNat,⟨0,(eU (c.net.getD a.n.toNat [])).id,[]⟩)
  else if a.kind=2 then (c.without a.n.toNat).bring (c.net.getD a.n.toNat [])
  else c.bring (c.net.getD a.n.toNat [])
 else if a.kind=5 then
  if a.n<0∨(c.cnt:Int)≤a.n then (c,⟨4,0,[]⟩)
  else ({ c with net:=cD c.net (cQ (c.cs a.n.toNat) (a.n.toNat:Int)) },⟨0,a.n,(cT (c.cs a.n.toNat)).1⟩)
 else if a.kind=6∨a.kind=7∨a.kind=8 then
  if a.n<0∨6≤a.n∨(a.kind=7∧(a.m<0∨400<a.m)) then (c,⟨2,0,[]⟩)
  else if a.kind=8 then if c.up a.n.toNat=true then (c,⟨6,0,[]⟩) else (c.rise a.n.toNat (qZ (c.log a.n.toNat)),⟨0,0,[]⟩)
  else if c.up a.n.toNat=false then (c,⟨6,0,[]⟩)
  else if a.kind=6 then (c.crash a.n.toNat,⟨0,0,[]⟩) else (c.setTear a.n.toNat a.m,⟨0,0,[]⟩)
 else (c,⟨3,0,[]⟩)
theorem dG.start:dG j5 ⟨fun _=>dN,fun _=>b9,fun _=>False⟩:=by
 refine⟨fW.start,jL.start,fun _ h=>h.elim,fun _ _=>G3,fun t ht=>?_,rfl,fun n _=>?_,by show 0≤32;omega,fun i _=>?_⟩
 ·have ht:t∈([]:List (List UInt8)):=ht
  simp at ht
 ·exact⟨[],[],rfl,by simp,qT,rfl,fun _=>⟨rfl,rfl⟩,fun e=>(by cases e)⟩
 ·exact⟨fun e=>(by cases e),fun e=>absurd e (Nat.not_lt_zero i)⟩
theorem dG.bring {c:aP} {S:Sys} (h:dG c S) {t:List UInt8} (ht:∃f,S.M f∧t=bY f):∃T,dG (c.bring t).1 T∧fQ S T:=by
 obtain⟨f,hM,rfl⟩:=ht
 have e:eU (bY f)=f:=(l8 (h.good f hM)).2
 unfold aP.bring
 rw[e]
 split
 ·rename_i hk
  exact h.come hM hk
 ·exact h.answer hM
theorem dG.act {c:aP} {S:Sys} (h:dG c S) (a:fF):∃T,dG (doA c a).1 T∧fQ S T∧((doA c a).1.cnt≠c.cnt→(doA c a).1.cnt=c.cnt+1∧∀b,b<c.cnt→(cT (S.C b)).2=true→fX T c.cnt b):=by
 have same:∀d:aP,dG d S→d.cnt=c.cnt→∃T,dG d T∧fQ S T∧(d.cnt≠c.cnt→d.cnt=c.cnt+1∧∀b,b<c.cnt→(cT (S.C b)).2=true→fX T c.cnt b):=
  fun d hd e=>⟨S,hd,fQ.refl S,fun k=>absurd e k⟩
 have some_:∀d:aP,(∃T,dG d T∧fQ S T)→d.cnt=c.cnt→∃T,dG d T∧fQ S T∧(d.cnt≠c.cnt→d.cnt=c.cnt+1∧∀b,b<c.cnt→(cT (S.C b)).2=true→fX T c.cnt b):=
  fun d ⟨T,h1,h2⟩ e=>⟨T,h1,h2,fun k=>absurd e k⟩
 have come_cnt:∀(d:aP) (f:aD),(Go.Proofs.YtkoefoccbjhoiadGreat.come d f).1.cnt=d.cnt:=by
  intro d f
  unfold Go.Proofs.YtkoefoccbjhoiadGreat.come
  split
  ·rfl
  ·split
   ·rfl
   ·split
    ·rfl
    ·split<;>rfl
 have bring_cnt:∀(d:aP) (t:List UInt8),(d.bring t).1.cnt=d.cnt:=by
  intro d t
  unfold aP.bring
  split
  ·exact come_cnt d _
  ·rfl
 have getMem:∀{k:Nat},k<c.net.length→c.net.getD k []∈c.net:=fun {k} hk=>by
  rw[List.getD_eq_getElem?_getD,List.getElem?_eq_getElem hk]
  exact List.getElem_mem hk
 unfold doA
 split
 ·split
  ·exact same c h rfl
  ·rename_i hc
   split
   ·exact same c h rfl
   ·rename_i h0
    have h0:(bI (c.cnt:Int) a.ops).2.2=0:=by
     by_cases e:(bI (c.cnt:Int) a.ops).2.2=0
     ·exact e
     ·exact absurd e h0
    obtain⟨T,h1,h2,h3⟩:=h.begin (by omega) h0
    exact⟨T,h1,h2,fun _=>⟨rfl,h3⟩⟩
 ·split
  ·split
   ·exact same c h rfl
   ·rename_i hn
    have hk:a.n.toNat<c.net.length:=by omega
    have less:dG (c.without a.n.toNat) S:=h.less fun t ht=>List.mem_of_mem_eraseIdx ht
    split
    ·exact same _ less rfl
    ·split
     ·exact some_ _ (less.bring (h.net _ (getMem hk))) (bring_cnt _ _)
     ·exact some_ _ (h.bring (h.net _ (getMem hk))) (bring_cnt _ _)
  ·split
   ·split
    ·exact same c h rfl
    ·rename_i hn
     have:=h.cnt.1
     exact some_ _ (h.again (by omega)) rfl
   ·split
    ·split
     ·exact same c h rfl
     ·rename_i hn
      have hk:a.n.toNat<6:=by omega
      split
      ·split
       ·exact same c h rfl
       ·obtain⟨t,r1,r2,r3⟩:=oO (c.log a.n.toNat)
        exact same _ (h.rise hk r1 r2 r3) rfl
      ·split
       ·exact same c h rfl
       ·rename_i hu
        split
        ·exact same _ (h.crash _) rfl
        ·exact same _ (h.setTear (by simpa using hu) _) rfl
    ·exact same c h rfl
theorem GF {f:aD} (h:aM f=0):(rc (bY f)).length≤100:=by
 have:=(rO h).1
 rw[lE]
 omega
theorem GY (l:List UInt8) {f:aD} (h:aM f=0) (n:Int):(iC l (bY f) n).length≤l.length+100:=by
 have:=GF h
 unfold iC
 split
 ·rw[List.length_append,List.length_take]
  omega
 ·omega
theorem J5 (l:List UInt8) {f:aD} (h:aM f=0):(jT l (bY f)).length≤l.length+100:=by
 have:=GF h
 unfold jT
 split
 ·rw[List.length_append]
  omega
 ·omega
theorem wB {L:Nat→List UInt8} {n k B:Nat} {x:List UInt8} (hL:(L k).length≤B) (hx:n=k→x.length≤B):(upd L n x k).length≤B:=by
 by_cases e:k=n
 ·subst e;rw[aU];exact hx rfl
 ·rw[aQ _ _ e];exact hL
theorem CM {c:aP} {f:aD} (hf:aM f=0) {k:Nat}:((come c f).1.log k).length≤(c.log k).length+100:=by
 unfold come
 split
 ·show (c.log k).length≤_;omega
 ·split
  ·show (c.log k).length≤_;omega
  ·split
   ·exact wB (by omega) (fun e=>by subst e;exact GY _ hf _)
   ·split
    ·show (c.log k).length≤_;omega
    ·exact wB (by omega) (fun e=>by subst e;exact J5 _ hf)
theorem H9 {c:aP} {f:aD} (h:c.net.length≤60):(come c f).1.net.length≤60:=by
 unfold come
 split
 ·exact h
 ·split
  ·exact h
  ·split
   ·exact h
   ·split
    ·exact h
    ·exact mR _ _ h
theorem sD {c:aP} {S:Sys} (h:dG c S) {t:List UInt8} (ht:∃f,S.M f∧t=bY f) {k:Nat}:((c.bring t).1.log k).length≤(c.log k).length+100:=by
 obtain⟨f,hM,rfl⟩:=ht
 have e:eU (bY f)=f:=(l8 (h.good f hM)).2
 unfold aP.bring
 rw[e]
 split
 ·exact CM (h.good f hM)
 ·show (c.log k).length≤_
  omega
theorem wE {c:aP} {t:List UInt8} (h:c.net.length≤60):(c.bring t).1.net.length≤60:=by
 unfold aP.bring
 split
 ·exact H9 h
 ·exact mR _ _ h
theorem DQ (l:List UInt8):(cK (qZ l)).length≤l.length:=by
 obtain⟨t,_,_,e⟩:=oO l
 have:=congrArg List.length e
 rw[List.length_append] at this
 omega
theorem vI {c:aP} {k:Nat} (hk:k<c.net.length):c.net.getD k []∈c.net:=by
 rw[List.getD_eq_getElem?_getD,List.getElem?_eq_getElem hk]
 exact List.getElem_mem hk
theorem EQ {c:aP} {S:Sys} (h:dG c S) (a:fF) (k:Nat):((doA c a).1.log k).length≤(c.log k).length+100:=by
 have same:(c.log k).length≤(c.log k).length+100:=by omega
 unfold doA
 split
 ·split
  ·exact same
  ·split
   ·exact same
   ·exact same
 ·split
  ·split
   ·exact same
   ·rename_i hn
    have hk:a.n.toNat<c.net.length:=by omega
    have less:dG (c.without a.n.toNat) S:=h.less fun t ht=>List.mem_of_mem_eraseIdx ht
    split
    ·exact same
    ·split
     ·exact sD less (h.net _ (vI hk))
     ·exact sD h (h.net _ (vI hk))
  ·split
   ·split
    ·exact same
    ·exact same
   ·split
    ·split
     ·exact same
     ·split
      ·split
       ·exact same
       ·exact wB same (fun e=>by subst e;have:=DQ (c.log a.n.toNat);omega)
      ·split
       ·exact same
       ·split
        ·exact same
        ·exact same
    ·exact same
theorem KN {c:aP} (h:c.net.length≤60) (a:fF):(doA c a).1.net.length≤60:=by
 have less:∀k,(c.net.eraseIdx k).length≤60:=fun k=>Nat.le_trans (List.length_eraseIdx_le _ _) h
 unfold doA
 split
 ·split
  ·exact h
  ·split
   ·exact h
   ·exact mR _ _ h
 ·split
  ·split
   ·exact h
   ·split
    ·exact less _
    ·split
     ·exact wE (c:=c.without _) (less _)
     ·exact wE h
  ·split
   ·split
    ·exact h
    ·exact mR _ _ h
   ·split
    ·split
     ·exact h
     ·split
      ·split<;>exact h
      ·split
       ·exact h
       ·split<;>exact h
    ·exact h
structure gA (c:aP) (acts:Nat):Prop where
 inv:∃S,dG c S
 net:c.net.length≤60
 log:∀k,(c.log k).length≤100*acts
theorem gA.start:gA j5 0:=⟨⟨_,dG.start⟩,Nat.zero_le _,fun _=>Nat.zero_le _⟩
theorem gA.act {c:aP} {acts:Nat} (h:gA c acts) (a:fF):gA (doA c a).1 (acts+1):=by
 obtain⟨S,hS⟩:=h.inv
 obtain⟨T,hT,_⟩:=hS.act a
 exact⟨⟨T,hT⟩,KN h.net a,fun k=>Nat.le_trans (EQ hS a k) (by have:=h.log k;omega)⟩
theorem gA.more {c:aP} {acts acts':Nat} (h:gA c acts) (ha:acts≤acts'):gA c acts':=⟨h.inv,h.net,fun k=>Nat.le_trans (h.log k) (by omega)⟩
theorem IC {c:aP} {S:Sys} (h:dG c S) {n:Nat} (hn:n<6) (hu:c.up n=false):c.tear n=none:=by
 obtain⟨_,_,_,_,_,_,_,l⟩:=h.log n hn
 exact (l hu).2
def jM (ok:Nat→Prop) (w:World) (a:Option Addr) (zs:List (List UInt8)):Prop:=
 zs=[]∨∃b off,a=some ⟨b,off,none⟩∧ok b∧∀i,i<zs.length→w.cell? ⟨b,off+i,none⟩=some (.string (str (zs.getD i [])))
theorem jM.later {ok:Nat→Prop} {w w':World} {a:Option Addr} {zs:List (List UInt8)} (h:jM ok w a zs) (hB:bL ok w w'):jM ok w' a zs:=by
 rcases h with h | ⟨b,off,ha,hb,hc⟩
 ·exact Or.inl h
 ·exact Or.inr ⟨b,off,ha,hb,fun i hi=>hB.cell (hc i hi) hb⟩
theorem jM.mono {ok ok':Nat→Prop} {w:World} {a:Option Addr} {zs:List (List UInt8)} (h:jM ok w a zs) (hk:∀k,k<w.heap.size→ok k→ok' k):jM ok' w a zs:=by
 rcases h with h | ⟨b,off,ha,hb,hc⟩
 ·exact Or.inl h
 ·cases zs with
  | nil=>exact Or.inl rfl
  | cons z r=>exact Or.inr ⟨b,off,ha,hk b (World.block_lt_of_cell? w _ (hc 0 (by simp))) hb,hc⟩
def IsT (ok:Nat→Prop) (w:World) (v:Value) (zs:List (List UInt8)):Prop:=∃a cap,v= .slice a zs.length cap∧jM ok w a zs∧zs.length*16≤140737488355328∧zs.length≤cap∧(a=none→zs.length=0∧cap=0)
theorem IsT.later {ok:Nat→Prop} {w w':World} {v:Value} {zs:List (List UInt8)} (h:IsT ok w v zs) (hB:bL ok w w'):IsT ok w' v zs:=by
 obtain⟨a,cap,h1,h2,h3⟩:=h
 exact⟨a,cap,h1,h2.later hB,h3⟩
theorem IsT.mono {ok ok':Nat→Prop} {w:World} {v:Value} {zs:List (List UInt8)} (h:IsT ok w v zs) (hk:∀k,k<w.heap.size→ok k→ok' k):IsT ok' w v zs:=by
 obtain⟨a,cap,h1,h2,h3⟩:=h
 exact⟨a,cap,h1,h2.mono hk,h3⟩
theorem IsT.nil (ok:Nat→Prop) (w:World):IsT ok w (.slice none 0 0) []:=⟨none,0,rfl,Or.inl rfl,by decide,Nat.le_refl _,fun _=>⟨rfl,rfl⟩⟩
structure kF (ok:Nat→Prop) (w:World) (mv:Nat→Value) (up:Bool) (st:aB) (log:List UInt8) (tear:Option Int):Prop where
 st:bJ ok w mv st
 log:mv 201= .string (str log)
 down:mv 202= .bool (!up)
 torn:mv 203= .bool tear.isSome
 tear:mv 204= .int .i64 (tear.getD 0)
theorem bJ.same {ok:Nat→Prop} {w:World} {nv nv':Nat→Value} {s:aB} (h:bJ ok w nv s) (hn:∀j,j<201→nv' j=nv j):bJ ok w nv' s:=
 ⟨⟨fun i hi=>(h.es.ent i hi).same fun j hj=>hn _ (by omega),fun k hk=>by rw[hn _ (by omega)];exact h.es.vals k hk⟩,by rw[hn _ (by omega)];exact h.order⟩
theorem bW.same {ok:Nat→Prop} {w:World} {nv nv':Nat→Value} {c:aG} (h:bW ok w nv c) (hn:∀j,j<24→nv' j=nv j):bW ok w nv' c:=
  ⟨by rw[hn _ (by omega)];exact h.begun,by rw[hn _ (by omega)];exact h.fixed,by rw[hn _ (by omega)];exact h.ops,fun i hi=>by rw[hn _ (by omega)];exact h.told i hi,fun i hi=>by rw[hn _ (by omega)];exact h.known i hi,
    by rw[hn _ (by omega)];exact h.deps,fun i hi=>by rw[hn _ (by omega)];exact h.has i hi,fun i hi=>by rw[hn _ (by omega)];exact h.vals i hi⟩
theorem kF.same {ok:Nat→Prop} {w:World} {nv nv':Nat→Value} {up:Bool} {st:aB} {log:List UInt8} {tear:Option Int} (h:kF ok w nv up st log tear) (hn:∀j,j<205→nv' j=nv j):kF ok w nv' up st log tear:=
 ⟨h.st.same fun j hj=>hn j (by omega),by rw[hn _ (by omega)];exact h.log,by rw[hn _ (by omega)];exact h.down,by rw[hn _ (by omega)];exact h.torn,by rw[hn _ (by omega)];exact h.tear⟩
theorem kF.later {ok:Nat→Prop} {w w':World} {nv:Nat→Value} {up:Bool} {st:aB} {log:List UInt8} {tear:Option Int} (h:kF ok w nv up st log tear) (hB:bL ok w w'):kF ok w' nv up st log tear:=⟨h.st.later hB,h.log,h.down,h.torn,h.tear⟩
theorem kF.mono {ok ok':Nat→Prop} {w:World} {nv:Nat→Value} {up:Bool} {st:aB} {log:List UInt8} {tear:Option Int} (h:kF ok w nv up st log tear) (hk:∀k,k<w.heap.size→ok k→ok' k):kF ok' w nv up st log tear:=⟨h.st.mono hk,h.log,h.down,h.torn,h.tear⟩
theorem kF.one {ok:Nat→Prop} {w:World} {nv:Nat→Value} {up:Bool} {st:aB} {log:List UInt8} {tear:Option Int} (h:kF ok w nv up st log tear):∀i,i<205→(nv i).oneCell'=true:=by
 intro i hi
 by_cases h0:i<201
 ·exact h.st.one i h0
 by_cases h1:i=201
 ·subst h1;rw[h.log];rfl
 by_cases h2:i=202
 ·subst h2;rw[h.down];rfl
 by_cases h3:i=203
 ·subst h3;rw[h.torn];rfl
 ·obtain rfl:i=204:=by omega
  rw[h.tear];rfl
structure fH (ok:Nat→Prop) (w:World) (cv:Nat→Value) (acts:Nat) (c:aP):Prop where
 acts:cv 0= .int .i64 acts
 cnt:cv 1= .int .i64 c.cnt
 mem:∀n,n<6→kF ok w (fun i=>cv (2+n*205+i)) (c.up n) (c.st n) (c.log n) (c.tear n)
 cs:∀n,n<32→bW ok w (fun i=>cv (1232+n*24+i)) (c.cs n)
 net:IsT ok w (cv 2000) c.net
theorem fH.later {ok:Nat→Prop} {w w':World} {cv:Nat→Value} {acts:Nat} {c:aP} (h:fH ok w cv acts c) (hB:bL ok w w'):fH ok w' cv acts c:=
 ⟨h.acts,h.cnt,fun n hn=>(h.mem n hn).later hB,fun n hn=>(h.cs n hn).later hB,h.net.later hB⟩
theorem fH.mono {ok ok':Nat→Prop} {w:World} {cv:Nat→Value} {acts:Nat} {c:aP} (h:fH ok w cv acts c) (hk:∀k,k<w.heap.size→ok k→ok' k):fH ok' w cv acts c:=
 ⟨h.acts,h.cnt,fun n hn=>(h.mem n hn).mono hk,fun n hn=>(h.cs n hn).mono hk,h.net.mono hk⟩
theorem fH.setMem {ok:Nat→Prop} {w:World} {cv cv':Nat→Value} {acts:Nat} {c:aP} (h:fH ok w cv acts c) {n:Nat} (hn:n<6) (ho:∀i,i<2001→(i<2+n*205∨2+n*205+205≤i)→cv' i=cv i)
  {up:Bool} {st:aB} {log:List UInt8} {tear:Option Int} (hm:kF ok w (fun i=>cv' (2+n*205+i)) up st log tear):fH ok w cv' acts { c with up:=upd c.up n up,st:=upd c.st n st,log:=upd c.log n log,tear:=upd c.tear n tear }:=by
 refine⟨by rw[ho 0 (by omega) (by omega)];exact h.acts,by rw[ho 1 (by omega) (by omega)];exact h.cnt,fun k hk=>?_,fun k hk=>(h.cs k hk).same fun j hj=>ho _ (by omega) (by omega),by rw[ho 2000 (by omega) (by omega)];exact h.net⟩
 show kF ok w _ (upd c.up n up k) (upd c.st n st k) (upd c.log n log k) (upd c.tear n tear k)
 by_cases e:k=n
 ·subst e
  rw[aU,aU,aU,aU]
  exact hm
 ·rw[aQ _ _ e,aQ _ _ e,aQ _ _ e,aQ _ _ e]
  exact (h.mem k hk).same fun j hj=>ho _ (by omega) (by omega)
theorem fH.setCase {ok:Nat→Prop} {w:World} {cv cv':Nat→Value} {acts:Nat} {c:aP} (h:fH ok w cv acts c) {n:Nat} (hn:n<32) (ho:∀i,i<2001→(i<1232+n*24∨1232+n*24+24≤i)→cv' i=cv i)
  {x:aG} (hm:bW ok w (fun i=>cv' (1232+n*24+i)) x):fH ok w cv' acts { c with cs:=upd c.cs n x }:=by
 refine⟨by rw[ho 0 (by omega) (by omega)];exact h.acts,by rw[ho 1 (by omega) (by omega)];exact h.cnt,fun k hk=>(h.mem k hk).same fun j hj=>ho _ (by omega) (by omega),fun k hk=>?_,by rw[ho 2000 (by omega) (by omega)];exact h.net⟩
 show bW ok w _ (upd c.cs n x k)
 by_cases e:k=n
 ·subst e
  rw[aU]
  exact hm
 ·rw[aQ _ _ e]
  exact (h.cs k hk).same fun j hj=>ho _ (by omega) (by omega)
def eF (cv:Nat→Value) (m:Nat) (v:Value) (i:Nat):Value:=if i=m then v else cv i
theorem fH.setNet {ok:Nat→Prop} {w:World} {cv:Nat→Value} {acts:Nat} {c:aP} (h:fH ok w cv acts c) {v:Value} {net:List (List UInt8)} (hv:IsT ok w v net):fH ok w (eF cv 2000 v) acts { c with net:=net }:=by
 have ho:∀i,i<2000→eF cv 2000 v i=cv i:=fun i hi=>if_neg (by omega)
 exact⟨by rw[ho 0 (by omega)];exact h.acts,by rw[ho 1 (by omega)];exact h.cnt,fun k hk=>(h.mem k hk).same fun j hj=>ho _ (by omega),fun k hk=>(h.cs k hk).same fun j hj=>ho _ (by omega),hv⟩
theorem fH.setActs {ok:Nat→Prop} {w:World} {cv:Nat→Value} {acts:Nat} {c:aP} (h:fH ok w cv acts c) (m:Nat):fH ok w (eF cv 0 (.int .i64 m)) m c:=by
 have ho:∀i,i≠0→eF cv 0 (.int .i64 m) i=cv i:=fun i hi=>if_neg hi
 exact⟨rfl,by rw[ho 1 (by omega)];exact h.cnt,fun k hk=>(h.mem k hk).same fun j hj=>ho _ (by omega),fun k hk=>(h.cs k hk).same fun j hj=>ho _ (by omega),by rw[ho 2000 (by omega)];exact h.net⟩
theorem fH.setCnt {ok:Nat→Prop} {w:World} {cv:Nat→Value} {acts:Nat} {c:aP} (h:fH ok w cv acts c) (m:Nat):fH ok w (eF cv 1 (.int .i64 m)) acts { c with cnt:=m }:=by
 have ho:∀i,i≠1→eF cv 1 (.int .i64 m) i=cv i:=fun i hi=>if_neg hi
 exact⟨by rw[ho 0 (by omega)];exact h.acts,rfl,fun k hk=>(h.mem k hk).same fun j hj=>ho _ (by omega),fun k hk=>(h.cs k hk).same fun j hj=>ho _ (by omega),by rw[ho 2000 (by omega)];exact h.net⟩
structure aC (ok:Nat→Prop) (w:World) (p:Nat) (cv:Nat→Value) (acts:Nat) (c:aP):Prop where
 row:w.heap[p]? =some (.cells (aE 2001 cv) 78 (0,0))
 clu:fH ok w cv acts c
 out:¬ ok p
theorem aC.blk {ok:Nat→Prop} {w:World} {p:Nat} {cv:Nat→Value} {acts:Nat} {c:aP} (h:aC ok w p cv acts c):bC 2001 w p cv:=⟨_,h.row⟩
theorem aC.lt {ok:Nat→Prop} {w:World} {p:Nat} {cv:Nat→Value} {acts:Nat} {c:aP} (h:aC ok w p cv acts c):p<w.heap.size:=h.blk.lt
theorem aC.later {ok:Nat→Prop} {w w':World} {p:Nat} {cv:Nat→Value} {acts:Nat} {c:aP} (h:aC ok w p cv acts c) (hB:bL ok w w') (hp:w'.heap[p]? =w.heap[p]?):aC ok w' p cv acts c:=⟨hp.trans h.row,h.clu.later hB,h.out⟩
theorem aC.below {ok:Nat→Prop} {w w':World} {p:Nat} {cv:Nat→Value} {acts:Nat} {c:aP} (h:aC ok w p cv acts c) (hb:Below w.heap.size w w'):aC ok w' p cv acts c:=h.later (bL.of_size hb) (hb.block p h.lt)
theorem aC.mono {ok ok':Nat→Prop} {w:World} {p:Nat} {cv:Nat→Value} {acts:Nat} {c:aP} (h:aC ok w p cv acts c) (hk:∀k,k<w.heap.size→ok k→ok' k) (ho:¬ ok' p):aC ok' w p cv acts c:=⟨h.row,h.clu.mono hk,ho⟩
theorem aC.cell {ok:Nat→Prop} {w:World} {p:Nat} {cv:Nat→Value} {acts:Nat} {c:aP} (h:aC ok w p cv acts c) {i:Nat} (hi:i<2001):w.cell? ⟨p,i,none⟩=some (cv i):=h.blk.cell hi
theorem aC.frozen {ok:Nat→Prop} {w:World} {p:Nat} {cv:Nat→Value} {acts:Nat} {c:aP} (h:aC ok w p cv acts c) (i:Nat):w.frozen? ⟨p,i,none⟩=false:=h.blk.frozen i
theorem aC.put {ok:Nat→Prop} {w:World} {p:Nat} {cv:Nat→Value} {acts acts':Nat} {c c':aP} (h:aC ok w p cv acts c) (m:Nat) (v:Value) (hc:fH ok w (eF cv m v) acts' c'):aC ok (w.setCell ⟨p,m,none⟩ v) p (eF cv m v) acts' c':=by
 refine⟨?_,hc.later (fun k _ hk=>Below.heap_setCell _ _ _ _ (fun e=>h.out (by have e:k=p:=e;rw[←e];exact hk))),h.out⟩
 rw[heap_setCell_same w p m _ _ _ h.row,eG]
 rfl
def iM (cv:Nat→Value) (o:Nat) (vs:List Value) (i:Nat):Value:=if o≤i∧i<o+vs.length then vs.getD (i-o) (.bool false) else cv i
theorem eQ (w:World) {p k:Nat} (hk:k≠p):∀(vs:List Value) (o:Nat) (w:World),(w.setCells p o vs).heap[k]? =w.heap[k]?
 | [],_,_=>rfl
 | v::vs,o,w=>by
  rw[World.setCells,eQ w hk vs (o+1)]
  exact Below.heap_setCell _ _ _ _ hk
theorem nC {p:Nat} {t:TypeId}:∀(vs:List Value) (o:Nat) {w:World} {f:Nat→Value},w.heap[p]? =some (.cells (aE 2001 f) t (0,0))→o+vs.length≤2001→(w.setCells p o vs).heap[p]? =some (.cells (aE 2001 (iM f o vs)) t (0,0))
 | [],o,w,f,h,_=>by
  show w.heap[p]? =_
  rw[h,jB (g:=iM f o []) fun i _=>?_]
  unfold iM
  rw[if_neg (by simp)]
 | v::vs,o,w,f,h,hl=>by
  have hl:o+(vs.length+1)≤2001:=hl
  rw[World.setCells]
  have h1:(w.setCell ⟨p,o,none⟩ v).heap[p]? =some (.cells (aE 2001 (fun i=>if i=o then v else f i)) t (0,0)):=by rw[heap_setCell_same w p o _ _ _ h,eG]
  rw[nC vs (o+1) h1 (by omega),jB (g:=iM f o (v::vs)) fun i _=>?_]
  unfold iM
  simp only[List.length_cons]
  by_cases e:i=o
  ·subst e
   rw[if_neg (by omega),if_pos rfl,if_pos (by omega)]
   simp
  ·by_cases e2:o+1≤i∧i<o+1+vs.length
   ·rw[if_pos e2,if_pos (by omega)]
    obtain⟨k,hk⟩:∃k,i-o=k+1:=⟨i-o-1,by omega⟩
    rw[hk,show i-(o+1)=k by omega]
    simp
   ·rw[if_neg e2,if_neg e,if_neg (by omega)]
theorem aC.puts {ok:Nat→Prop} {w:World} {p:Nat} {cv:Nat→Value} {acts acts':Nat} {c c':aP} (h:aC ok w p cv acts c) (o:Nat) (vs:List Value) (hl:o+vs.length≤2001) (hc:fH ok w (iM cv o vs) acts' c'):aC ok (w.setCells p o vs) p (iM cv o vs) acts' c':=
 ⟨nC vs o h.row hl,hc.later (fun k _ hk=>eQ w (fun e=>h.out (by rw[←e];exact hk)) vs o w),h.out⟩
theorem pR {cv:Nat→Value} {o:Nat} {N:Nat} {f:Nat→Value} {i:Nat} (hi:i<N):iM cv o (aE N f).toList (o+i)=f i:=by
 unfold iM
 have hl:(aE N f).toList.length=N:=by simp[aE]
 rw[hl,if_pos (by omega),show o+i-o=i by omega]
 simp[aE,hi]
theorem oB {cv:Nat→Value} {o:Nat} {N:Nat} {f:Nat→Value} {i:Nat} (hi:i<o∨o+N≤i):iM cv o (aE N f).toList i=cv i:=by
 unfold iM
 have hl:(aE N f).toList.length=N:=by simp[aE]
 rw[hl,if_neg (by omega)]
theorem fI {w w':World} {B c o:Nat} {cs:List Value} (h:w.rangeAt c o cs) (hb:Below B w w') (hc:c<B):w'.rangeAt c o cs:=fun j v hv=>by
 rw[hb.cell (p:=⟨c,o+j,none⟩) hc]
 exact h j v hv
theorem aC.range {ok:Nat→Prop} {w:World} {p:Nat} {cv:Nat→Value} {acts:Nat} {c:aP} (h:aC ok w p cv acts c) {o n:Nat} (ho:o+n≤2001):w.rangeAt p o (aE n fun i=>cv (o+i)).toList:=h.blk.range ho
theorem Tryz.infoMember:(Tryz.prog.info? 74).map (·.size)=some 205:=by kernel_rfl
theorem m9 {P:Program} {e:TypeId} (he:P.underlying e=some (.int .i64)) (hi:(P.info? e).map (·.size)=some 1) {n:Nat} (S:Nat→Int) {k:Nat} (hk:k<n) (w:World):
  (part e (aE n fun i=> .int .i64 (S i)) k).run P w= .ok (.int .i64 (S k)) w:=by
 cases hq:P.info? e with
 | none=>simp[hq] at hi
 | some i=>
  have hs:i.size=1:=by simpa [hq] using hi
  have hg:=mO (fun i=>Value.int .i64 (S i)) hk
  simp[part,isAgg,run_underlying he,sizeOf,typeInfo,hq,hs,hg,go_sem]
  try omega
theorem uV {P:Program} {t e:TypeId} {n:Nat} (d:Nat) (ht:P.underlying t=some (.array n e)) (he:P.underlying e=some (.int .i64)) (hi:(P.info? e).map (·.size)=some 1) (S:Nat→Int) (w:World):
  (Op.equalIn (d+2) t (.agg (aE n fun i=> .int .i64 (S i))) (.agg (aE n fun i=> .int .i64 (S i)))).run P w= .ok true w:=by
 have hsz:∀w,(sizeOf e).run P w= .ok 1 w:=by
  intro w
  cases hq:P.info? e with
  | none=>simp[hq] at hi
  | some i=>
   have hs:i.size=1:=by simpa [hq] using hi
   simp[sizeOf,typeInfo,hq,hs]
 rw[Op.equalIn]
 simp only[Sem.run_bind,run_underlying ht,Result.andThen_ok,hsz,Std.Legacy.Range.forIn_eq_forIn_range',Std.Legacy.Range.size,Nat.sub_zero,Nat.add_sub_cancel,Nat.div_one]
 have hl:∀i∈List.range' 0 n 1,i<n:=fun i hi=>by simpa using (List.mem_range'_1.1 hi).2
 generalize List.range' 0 n 1=l at hl ⊢
 induction l with
 | nil=>simp
 | cons i l ih=>
  have hk:i<n:=hl i (by simp)
  have px:=m9 he hi S hk w
  have pe:(Op.equalIn (d+1) e (.int .i64 (S i)) (.int .i64 (S i))).run P w= .ok true w:=by simp[Op.equalIn,run_underlying he]
  simp only[List.forIn_cons,Sem.run_bind,Nat.mul_one,px,pe,Result.andThen_ok]
  simp only[Bool.not_true,Bool.false_eq_true,if_false,Sem.run_pure,Result.andThen_ok]
  simpa only[Nat.mul_one] using ih fun j hj=>hl j (by simp[hj])
theorem Tryz.infoInt1:(Tryz.prog.info? 3).map (·.size)=some 1:=by kernel_rfl
theorem Tryz.infoVals:(Tryz.prog.info? 40).map (·.size)=some 8:=by kernel_rfl
theorem Tryz.valsGuard:Tryz.prog.eqGuardType Tryz.prog.depth 40=false:=by kernel_rfl
def pW (n:Nat) (S T:Nat→Int):Bool:=(List.range n).all fun i=>S i == T i
theorem GN {n:Nat} {S T:Nat→Int}:pW n S T=true↔∀i,i<n→S i=T i:=by
 unfold pW
 simp
theorem fO {P:Program} {t e:TypeId} {n:Nat} (d:Nat) (ht:P.underlying t=some (.array n e)) (he:P.underlying e=some (.int .i64)) (hi:(P.info? e).map (·.size)=some 1) (S T:Nat→Int) (w:World):
  (Op.equalIn (d+2) t (.agg (aE n fun i=> .int .i64 (S i))) (.agg (aE n fun i=> .int .i64 (T i)))).run P w= .ok (pW n S T) w:=by
 have hsz:∀w,(sizeOf e).run P w= .ok 1 w:=by
  intro w
  cases hq:P.info? e with
  | none=>simp[hq] at hi
  | some i=>
   have hs:i.size=1:=by simpa [hq] using hi
   simp[sizeOf,typeInfo,hq,hs]
 unfold pW
 rw[List.range_eq_range',Op.equalIn]
 simp only[Sem.run_bind,run_underlying ht,Result.andThen_ok,hsz,Std.Legacy.Range.forIn_eq_forIn_range',Std.Legacy.Range.size,Nat.sub_zero,Nat.add_sub_cancel,Nat.div_one]
 have hl:∀i∈List.range' 0 n 1,i<n:=fun i hi=>by simpa using (List.mem_range'_1.1 hi).2
 generalize List.range' 0 n 1=l at hl ⊢
 induction l with
 | nil=>simp
 | cons i l ih=>
  have hk:i<n:=hl i (by simp)
  have px:=m9 he hi S hk w
  have py:=m9 he hi T hk w
  have pe:(Op.equalIn (d+1) e (.int .i64 (S i)) (.int .i64 (T i))).run P w= .ok (S i == T i) w:=by simp[Op.equalIn,run_underlying he]
  simp only[List.forIn_cons,Sem.run_bind,Nat.mul_one,px,py,pe,Result.andThen_ok,List.all_cons]
  cases hb:(S i == T i)
  ·simp
  ·simp only[Bool.not_true,Bool.false_eq_true,if_false,Sem.run_pure,Result.andThen_ok,Bool.true_and]
   simpa only[Nat.mul_one] using ih fun j hj=>hl j (by simp[hj])
theorem Tryz.infoSix:(Tryz.prog.info? 47).map (·.size)=some 6:=by kernel_rfl
theorem Tryz.infoFour:(Tryz.prog.info? 48).map (·.size)=some 4:=by kernel_rfl
theorem Tryz.infoFourI:(Tryz.prog.info? 49).map (·.size)=some 4:=by kernel_rfl
theorem Tryz.sixGuard:Tryz.prog.eqGuardType Tryz.prog.depth 47=false:=by kernel_rfl
theorem Tryz.fourGuard:Tryz.prog.eqGuardType Tryz.prog.depth 48=false:=by kernel_rfl
theorem Tryz.fourIGuard:Tryz.prog.eqGuardType Tryz.prog.depth 49=false:=by kernel_rfl
theorem rC (n:Nat) (f:Nat→Value):(aE n f).toList=(List.range n).map f:=by simp[aE]
theorem bC.truths {w:World} {b o n N:Nat} {nv:Nat→Value} {S:Nat→Bool} (h:bC N w b nv) (hn:o+n≤N) (hs:∀i,i<n→nv (o+i)= .bool (S i)):w.rangeAt b o (aK n S).toList:=by
 have:=h.range (o:=o) (n:=n) hn
 rw[EJ,rC,←List.map_congr_left (fun i hi=>hs i (List.mem_range.1 hi))]
 exact this
theorem bC.numbers {w:World} {b o n N:Nat} {nv:Nat→Value} {S:Nat→Int} (h:bC N w b nv) (hn:o+n≤N) (hs:∀i,i<n→nv (o+i)= .int .i64 (S i)):w.rangeAt b o (aE n fun i=> .int .i64 (S i)).toList:=by
 have:=h.range (o:=o) (n:=n) hn
 rw[rC,←List.map_congr_left (fun i hi=>hs i (List.mem_range.1 hi))]
 exact this
def aG.wants (c:aG) (n:Nat):Bool:=if c.fixed then !c.known n || c.lacks (ofL n) else bP c.ops (ofL n) && !c.told n
def aG.msg (c:aG) (id:Int) (n:Nat):aD:=if c.fixed then ⟨3,n,id,c.ops,c.deps,[],[]⟩ else ⟨1,n,id,c.ops,[],[],[]⟩
theorem D1 (c:aG) (id:Int) (n:Nat):c.send id n=if c.wants n then [c.msg id n] else []:=by
 unfold aG.send aG.wants aG.msg
 cases c.fixed<;>rfl
def aG.sends (c:aG) (id:Int) (k:Nat):List aD:=(List.range k).flatMap (c.send id)
theorem D2 (c:aG) (id:Int):c.sends id 0=[]:=rfl
theorem pX (c:aG) (id:Int) (k:Nat):c.sends id (k+1)=c.sends id k++if c.wants k then [c.msg id k] else []:=by
 unfold aG.sends
 rw[List.range_succ,List.flatMap_append]
 simp only[List.flatMap_cons,List.flatMap_nil,List.append_nil,D1]
theorem xC (c:aG) (id:Int):∀k,(c.sends id k).length≤k
 | 0=>by simp[D2]
 | k+1=>by
  rw[pX,List.length_append]
  have:=xC c id k
  split
  ·simp;omega
  ·simp;omega
def dB (c:aG) (id:Int):Bool:=dU c && c.begun && !dY c.deps id
theorem ED {c:aG} {id:Int} (h:dB c id=true) (h0:0≤id) (h1:id<32):cQ c id=c.sends id 6:=by
 unfold dB at h
 simp only[Bool.and_eq_true,Bool.not_eq_true'] at h
 unfold cQ aG.sends
 rw[if_neg]
 rintro (e | e | e | e | e)
 ·rw[h.1.1] at e;cases e
 ·rw[h.1.2] at e;cases e
 ·omega
 ·omega
 ·rw[h.2] at e;cases e
theorem yD {c:aG} {id:Int} (h:dB c id=false∨id<0∨32≤id):cQ c id=[]:=by
 unfold cQ
 rw[if_pos]
 rcases h with h | h | h
 ·unfold dB at h
  cases e:dU c
  ·exact Or.inl rfl
  ·cases e2:c.begun
   ·exact Or.inr (Or.inl rfl)
   ·cases e3:dY c.deps id
    ·rw[e,e2,e3] at h;cases h
    ·exact Or.inr (Or.inr (Or.inr (Or.inr rfl)))
 ·exact Or.inr (Or.inr (Or.inl h))
 ·exact Or.inr (Or.inr (Or.inr (Or.inl h)))
def fN (t:Nat→Bool) (sh:Int):Nat→Nat
 | 0=>0
 | k+1=>fN t sh k+if t k && (ofL k == sh) then 1 else 0
theorem vG (t:Nat→Bool) (sh:Int):∀k,fN t sh k≤k
 | 0=>Nat.le_refl _
 | k+1=>by
  have:=vG t sh k
  simp only[fN]
  split<;>omega
theorem EN (t:Nat→Bool):fN t 0 6=m6 t 0:=by
 simp only[fN,m6,List.range_succ,List.range_zero,List.nil_append,List.filter_append,List.length_append,Nat.zero_mul,Nat.zero_add]
 simp only[show ofL ((0:Nat):Int)=0 from rfl,show ofL ((1:Nat):Int)=0 from rfl,show ofL ((2:Nat):Int)=0 from rfl,show ofL ((3:Nat):Int)=1 from rfl,show ofL ((4:Nat):Int)=1 from rfl,show ofL ((5:Nat):Int)=1 from rfl]
 cases e0:t 0<;>cases e1:t 1<;>cases e2:t 2<;>simp[e0,e1,e2]
theorem EP (t:Nat→Bool):fN t 1 6=m6 t 1:=by
 simp only[fN,m6,List.range_succ,List.range_zero,List.nil_append,List.filter_append,List.length_append,Nat.one_mul]
 simp only[show ofL ((0:Nat):Int)=0 from rfl,show ofL ((1:Nat):Int)=0 from rfl,show ofL ((2:Nat):Int)=0 from rfl,show ofL ((3:Nat):Int)=1 from rfl,show ofL ((4:Nat):Int)=1 from rfl,show ofL ((5:Nat):Int)=1 from rfl]
 cases e0:t 3<;>cases e1:t 4<;>cases e2:t 5<;>simp[e0,e1,e2]
theorem I2 (ops:List OpL) (t:Nat→Bool):eC ops t=(!(decide (fN t 0 6<2) && bP ops 0) && !(decide (fN t 1 6<2) && bP ops 1)):=by
 unfold eC
 rw[EN,EP]
 have h:∀n:Nat,decide (2≤n)= !decide (n<2):=fun n=>by
  by_cases e:n<2
  ·simp[e]
  ·simp[e];omega
 rw[h,h]
 cases bP ops 0<;>cases bP ops 1<;>simp
def aG.hasAll (c:aG):Bool:=(List.range c.ops.length).all c.has
theorem lZ {c:aG}:c.hasAll=true↔∀i,i<c.ops.length→c.has i=true:=by
 unfold aG.hasAll
 simp
theorem DU {c:aG} (hb:c.begun=true) (hg:dU c=true) (h:c.hasAll=true):cT c=((List.range c.ops.length).map c.vals,true):=by
 unfold cT
 rw[if_neg]
 rintro (e | e | e | e)
 ·rw[hb] at e;cases e
 ·rw[hg] at e;cases e
 ·rw[wP (lZ.1 h)] at e;cases e
 ·rw[wP (lZ.1 h)] at e;cases e
theorem q7 {c:aG} (h:dU c=false∨c.begun=false∨c.hasAll=false):cT c=([],false):=by
 unfold cT
 rw[if_pos]
 rcases h with h | h | h
 ·exact Or.inr (Or.inl h)
 ·exact Or.inl h
 ·cases e0:c.lacks 0
  ·cases e1:c.lacks 1
   ·rw[lZ.2 (fun i hi=>wR e0 e1 hi)] at h;cases h
   ·exact Or.inr (Or.inr (Or.inr rfl))
  ·exact Or.inr (Or.inr (Or.inl rfl))
theorem qD {c:aG} (hb:c.begun=true) (hg:dU c=true):0<c.ops.length∧c.ops.length≤4:=by
 rw[jZ hb,Bool.and_eq_true] at hg
 have:=hg.1
 unfold bO at this
 simp at this
 omega
def j3 (n:Int):Bool:=decide (0≤n∧n<32)
theorem rT (n:Int) (w:World):
  Calls Tryz.prog 83 #[.int .i64 n] w fun e w'=>e= .returned (.bool (j3 n))∧w'=w:=by
 by_cases h1:0≤n
 ·by_cases h2:n<32
  ·have E:Hid (j3 n=true):=by unfold j3 Hid;simp;omega
   have d1:decide (0≤n)=true:=by simpa using h1
   have d2:decide (n<32)=true:=by simpa using h2
   go_enter Tryz.func83,Tryz.ntmps83
   go_wp2
   go_ret
   exact⟨aI E.out.symm,rfl⟩
  ·have E:Hid (j3 n=false):=by unfold j3 Hid;simp;omega
   have d1:decide (0≤n)=true:=by simpa using h1
   have d2:decide (n<32)=false:=by simpa using h2
   go_enter Tryz.func83,Tryz.ntmps83
   go_wp2
   go_ret
   exact⟨aI E.out.symm,rfl⟩
 ·have E:Hid (j3 n=false):=by unfold j3 Hid;simp;omega
  have d1:decide (0≤n)=false:=by simpa using h1
  go_enter Tryz.func83,Tryz.ntmps83
  go_wp2
  go_ret
  exact⟨aI E.out.symm,rfl⟩
def cL (w:World) (gr:Array Value) (c:aG):Prop:=∃nv,gr=aE 24 nv∧bW (· <w.heap.size) w nv c
theorem cL.later {w w':World} {gr:Array Value} {c:aG} (h:cL w gr c) (hb:Below w.heap.size w w'):cL w' gr c:=by
 obtain⟨nv,e,h⟩:=h
 exact⟨nv,e,h.below hb⟩
theorem cL.size {w:World} {gr:Array Value} {c:aG} (h:cL w gr c):gr.size=24:=by
 obtain⟨nv,e,_⟩:=h
 rw[e,aF]
theorem cL.info {w:World} {gr:Array Value} {c:aG} (h:cL w gr c):(Tryz.prog.info? 51).map (·.size)=some gr.size:=by rw[h.size];exact Tryz.infoCase
theorem cL.one {w:World} {gr:Array Value} {c:aG} (h:cL w gr c):gr.all (·.oneCell')=true:=by
 obtain⟨nv,e,h⟩:=h
 rw[e]
 exact cC h.one
structure bA (b:Nat) (w:World) (gr:Array Value) (c:aG):Prop where
 row:w.heap[b]? =some (.cells gr 51 (0,0))
 case:cL w gr c
theorem bA.later {b:Nat} {w w':World} {gr:Array Value} {c:aG} (h:bA b w gr c) (hb:Below w.heap.size w w'):bA b w' gr c:=
 ⟨by rw[hb.block b (Array.getElem?_eq_some_iff.1 h.row).1];exact h.row,h.case.later hb⟩
theorem bA.lt {b:Nat} {w:World} {gr:Array Value} {c:aG} (h:bA b w gr c):b<w.heap.size:=(Array.getElem?_eq_some_iff.1 h.row).1
theorem bA.new {w:World} {gr:Array Value} {c:aG} (h:cL w gr c):bA w.heap.size (w.alloc (.cells gr 51)) gr c:=
 ⟨aJ _ _,h.later ((Below.refl _ _).alloc (Nat.le_refl _) _)⟩
theorem bA.blk {b:Nat} {w:World} {gr:Array Value} {c:aG} (h:bA b w gr c):∃nv,gr=aE 24 nv∧bC 24 w b nv∧bW (· <w.heap.size) w nv c:=by
 obtain⟨nv,e,hc⟩:=h.case
 exact⟨nv,e,⟨_,by rw[←e];exact h.row⟩,hc⟩
theorem bA.begun {b:Nat} {w:World} {gr:Array Value} {c:aG} (h:bA b w gr c):w.cell? ⟨b,0,none⟩=some (.bool c.begun):=by
 obtain⟨nv,_,hb,hc⟩:=h.blk
 rw[hb.cell (by omega),hc.begun]
theorem bA.fixed {b:Nat} {w:World} {gr:Array Value} {c:aG} (h:bA b w gr c):w.cell? ⟨b,1,none⟩=some (.bool c.fixed):=by
 obtain⟨nv,_,hb,hc⟩:=h.blk
 rw[hb.cell (by omega),hc.fixed]
theorem bA.ops {b:Nat} {w:World} {gr:Array Value} {c:aG} (h:bA b w gr c):∃a cap,w.cell? ⟨b,2,none⟩=some (.slice a c.ops.length cap)∧bT w a cap c.ops∧c.ops.length*24≤140737488355328:=by
 obtain⟨nv,_,hb,hc⟩:=h.blk
 obtain⟨a,cap,e,hs⟩:=hc.ops.sl
 obtain⟨_,_,_,_,hl,_⟩:=hc.ops
 exact⟨a,cap,by rw[hb.cell (by omega),e],hs,hl⟩
theorem bA.deps {b:Nat} {w:World} {gr:Array Value} {c:aG} (h:bA b w gr c):∃a cap,w.cell? ⟨b,15,none⟩=some (.slice a c.deps.length cap)∧bN w a cap c.deps∧c.deps.length*8≤140737488355328:=by
 obtain⟨nv,_,hb,hc⟩:=h.blk
 obtain⟨a,cap,e,hs⟩:=hc.deps.sl
 obtain⟨_,_,_,_,hl,_⟩:=hc.deps
 exact⟨a,cap,by rw[hb.cell (by omega),e],hs,hl⟩
theorem bA.told {b:Nat} {w:World} {gr:Array Value} {c:aG} (h:bA b w gr c) {i:Nat} (hi:i<6):w.cell? ⟨b,3+i,none⟩=some (.bool (c.told i)):=by
 obtain⟨nv,_,hb,hc⟩:=h.blk
 rw[hb.cell (by omega),hc.told i hi]
theorem bA.known {b:Nat} {w:World} {gr:Array Value} {c:aG} (h:bA b w gr c) {i:Nat} (hi:i<6):w.cell? ⟨b,9+i,none⟩=some (.bool (c.known i)):=by
 obtain⟨nv,_,hb,hc⟩:=h.blk
 rw[hb.cell (by omega),hc.known i hi]
theorem bA.has {b:Nat} {w:World} {gr:Array Value} {c:aG} (h:bA b w gr c) {i:Nat} (hi:i<4):w.cell? ⟨b,16+i,none⟩=some (.bool (c.has i)):=by
 obtain⟨nv,_,hb,hc⟩:=h.blk
 rw[hb.cell (by omega),hc.has i hi]
theorem bA.vals {b:Nat} {w:World} {gr:Array Value} {c:aG} (h:bA b w gr c) {i:Nat} (hi:i<4):w.cell? ⟨b,20+i,none⟩=some (.int .i64 (c.vals i)):=by
 obtain⟨nv,_,hb,hc⟩:=h.blk
 rw[hb.cell (by omega),hc.vals i hi]
theorem bA.rTold {b:Nat} {w:World} {gr:Array Value} {c:aG} (h:bA b w gr c):w.rangeAt b 3 (aK 6 c.told).toList:=by
 obtain⟨nv,_,hb,hc⟩:=h.blk
 exact hb.truths (by omega) hc.told
theorem bA.rKnown {b:Nat} {w:World} {gr:Array Value} {c:aG} (h:bA b w gr c):w.rangeAt b 9 (aK 6 c.known).toList:=by
 obtain⟨nv,_,hb,hc⟩:=h.blk
 exact hb.truths (by omega) hc.known
theorem bA.rHas {b:Nat} {w:World} {gr:Array Value} {c:aG} (h:bA b w gr c):w.rangeAt b 16 (aK 4 c.has).toList:=by
 obtain⟨nv,_,hb,hc⟩:=h.blk
 exact hb.truths (by omega) hc.has
theorem bA.rVals {b:Nat} {w:World} {gr:Array Value} {c:aG} (h:bA b w gr c):w.rangeAt b 20 (aE 4 fun i=> .int .i64 (c.vals i)).toList:=by
 obtain⟨nv,_,hb,hc⟩:=h.blk
 exact hb.numbers (by omega) hc.vals
theorem bA.range {b:Nat} {w:World} {gr:Array Value} {c:aG} (h:bA b w gr c):w.rangeAt b 0 gr.toList:=by
 intro j v hv
 rw[cell_of_row w b (0+j) _ _ _ h.row,Nat.zero_add]
 simpa using hv
theorem cL.len {w:World} {gr:Array Value} {c:aG} (h:cL w gr c):(Tryz.prog.info? 51).map (·.size)=some gr.toList.length:=by rw[Array.length_toList];exact h.info
theorem jE (w:World):cL w (aE 24 zcv) b9:=⟨zcv,rfl,nU _ w⟩
theorem mT:aE 24 zcv=#[.bool false,.bool false,.slice none 0 0,.bool false,.bool false,.bool false,.bool false,.bool false,.bool false,.bool false,.bool false,.bool false,.bool false,.bool false,.bool false,.slice none 0 0,.bool false,.bool false,.bool false,.bool false,.int .i64 0,.int .i64 0,.int .i64 0,.int .i64 0]:=rfl
theorem Tryz.sizeSix (S:Nat→Bool):(Tryz.prog.info? 47).map (·.size)=some (aK 6 S).toList.length:=by rw[iN];exact Tryz.infoSix
theorem Tryz.sizeFour (S:Nat→Bool):(Tryz.prog.info? 48).map (·.size)=some (aK 4 S).toList.length:=by rw[iN];exact Tryz.infoFour
theorem Tryz.sizeFourI (S:Nat→Int):(Tryz.prog.info? 49).map (·.size)=some (aE 4 fun i=>Value.int .i64 (S i)).toList.length:=by rw[rC,List.length_map,List.length_range];exact Tryz.infoFourI
theorem eK (S:Nat→Bool):iT Tryz.prog 47 (aK 6 S).toList.length:=⟨_,Tryz.underlying47,rfl,Tryz.sizeSix S⟩
theorem gP (S:Nat→Bool):iT Tryz.prog 48 (aK 4 S).toList.length:=⟨_,Tryz.underlying48,rfl,Tryz.sizeFour S⟩
theorem fT (S:Nat→Int):iT Tryz.prog 49 (aE 4 fun i=>Value.int .i64 (S i)).toList.length:=⟨_,Tryz.underlying49,rfl,Tryz.sizeFourI S⟩
theorem cL.row {w:World} {gr:Array Value} {c:aG} (h:cL w gr c):iT Tryz.prog 51 gr.size:=⟨_,Tryz.underlying51,rfl,h.info⟩
theorem dZ:iT Tryz.prog 104 7:=⟨_,Tryz.underlying104,rfl,Tryz.infoFrame7⟩
end Go.Proofs.YtkoefoccbjhoiadGreat
