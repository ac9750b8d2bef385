/-
squeezed by tools/squeeze.py from: CluA CluJ CluK CluP CluQ CluF CluR CluB QMem NEq CEq PostM CBox QBase QClone TSpoil CZero
-/
import Derived.Test.YtkoefoccbjhoiadGreatTmem10
import Derived.Test.YtkoefoccbjhoiadGreatTmem5
import Derived.Test.YtkoefoccbjhoiadGreatTmem4
import Derived.Test.YtkoefoccbjhoiadGreatTmem2
import Derived.Test.YtkoefoccbjhoiadGreatTmem6
import Derived.Test.YtkoefoccbjhoiadGreatTmem3
set_option linter.unusedVariables false
set_option linter.unusedSimpArgs false
set_option maxRecDepth 100000
set_option maxHeartbeats 16000000
namespace Go.Proofs.YtkoefoccbjhoiadGreat
open Go.RowKit
structure f7 where
 kind:Int
 n:Int
 m:Int
 ops:List OpL
structure kE where
 code:Int
 n:Int
 vals:List Int
def mN:Nat→List UInt8→List (List UInt8)
 | n+1,a::b::r=>if 0<a.toNat*256+b.toNat∧a.toNat*256+b.toNat≤400∧a.toNat*256+b.toNat≤r.length then r.take (a.toNat*256+b.toNat)::mN n (r.drop (a.toNat*256+b.toNat)) else []
 | _,_=>[]
theorem tJ:∀(n:Nat) (l:List UInt8),l.length≤n→∃t,(∀s∈mN n l,iE s)∧kA t∧l=cJ (mN n l)++t
 | n,[],_=>⟨[],by cases n<;>simp[mN],tZ (by simp),by cases n<;>simp[mN,m6]⟩
 | n,[a],_=>⟨[a],by cases n<;>simp[mN],tZ (by simp),by cases n<;>simp[mN,m6]⟩
 | 0,a::b::r,h=>by simp at h
 | n+1,a::b::r,h=>by
  have h:r.length+1+1≤n+1:=h
  unfold mN
  split
  ·rename_i hc
   have hl:(r.take (a.toNat*256+b.toNat)).length=a.toNat*256+b.toNat:=by rw[List.length_take];omega
   obtain⟨t,h1,h2,h3⟩:=tJ n (r.drop (a.toNat*256+b.toNat)) (by rw[List.length_drop];omega)
   refine⟨t,fun s hs=>?_,h2,?_⟩
   ·rcases List.mem_cons.1 hs with e | e
    ·rw[e];exact⟨by omega,by omega⟩
    ·exact h1 s e
   ·rw[k9,List.append_assoc,←h3]
    unfold rc
    rw[K5 hl]
    simp
  ·rename_i hc
   refine⟨a::b::r,by simp,fun s t hs e=>?_,by rw[m6];rfl⟩
   obtain⟨a',b',e1,e2⟩:=pI s hs.2
   unfold rc at e
   rw[e1] at e
   simp only[List.cons_append,List.nil_append,List.cons.injEq] at e
   obtain⟨rfl,rfl,e⟩:=e
   have:=congrArg List.length e
   rw[List.length_append] at this
   exact hc ⟨by have:=hs.1;omega,by have:=hs.2;omega,by omega⟩
def rQ (l:List UInt8):List (List UInt8):=mN l.length l
theorem pA (l:List UInt8):∃t,(∀s∈rQ l,iE s)∧kA t∧l=cJ (rQ l)++t:=tJ l.length l (Nat.le_refl _)
def kI:aK:=⟨fun _=>true,fun _=>dP,fun _=>[],fun _=>none,fun _=>cA,0,[]⟩
def aK.bring (c:aK) (t:List UInt8):aK × kE:=
 if (eU t).kind=1∨(eU t).kind=3 then ((come c (eU t)).1,if (come c (eU t)).2=0 then ⟨0,(eU t).id,[]⟩ else ⟨(come c (eU t)).2,0,[]⟩)
 else ((c.answer (eU t)).1,if (c.answer (eU t)).2=0 then ⟨0,(eU t).id,(cP ((c.answer (eU t)).1.cs (eU t).id.toNat)).1⟩ else ⟨(c.answer (eU t)).2,0,[]⟩)
def aK.without (c:aK) (k:Nat):aK:={ c with net:=c.net.eraseIdx k }
def doA (c:aK) (a:f7):aK × kE:=
 if a.kind=1 then
  if 32≤c.cnt then (c,⟨5,0,[]⟩)
  else if (bE (c.cnt:Int) a.ops).2.2≠0 then (c,⟨(bE (c.cnt:Int) a.ops).2.2,0,[]⟩)
  else ({ c with cs:=upd c.cs c.cnt (bE (c.cnt:Int) a.ops).1,cnt:=c.cnt+1,net:=cF c.net (bE (c.cnt:Int) a.ops).2.1 },⟨0,(c.cnt:Int),[]⟩)
 else if a.kind=2∨a.kind=3∨a.kind=4 then
  if a.n<0∨(c.net.length:Int)≤a.n then (c,⟨4,0,[]⟩)
  else if a.kind=4 then (c.without a.n.toNat,⟨0,(eU (c.net.getD a.n.toNat [])).id,[]⟩)
  else if a.kind=2 then (c.without a.n.toNat).bring (c.net.getD a.n.toNat [])
  else c.bring (c.net.getD a.n.toNat [])
 else if a.kind=5 then
  if a.n<0∨(c.cnt:Int)≤a.n then (c,⟨4,0,[]⟩)
  else ({ c with net:=cF c.net (cQ (c.cs a.n.toNat) (a.n.toNat:Int)) },⟨0,a.n,(cP (c.cs a.n.toNat)).1⟩)
 else if a.kind=6∨a.kind=7∨a.kind=8 then
  if a.n<0∨6≤a.n∨(a.kind=7∧(a.m<0∨400<a.m)) then (c,⟨2,0,[]⟩)
  else if a.kind=8 then if c.up a.n.toNat=true then (c,⟨6,0,[]⟩) else (c.rise a.n.toNat (rQ (c.log a.n.toNat)),⟨0,0,[]⟩)
  else if c.up a.n.toNat=false then (c,⟨6,0,[]⟩)
  else if a.kind=6 then (c.crash a.n.toNat,⟨0,0,[]⟩) else (c.setTear a.n.toNat a.m,⟨0,0,[]⟩)
 else (c,⟨3,0,[]⟩)
theorem dI.start:dI kI ⟨fun _=>dP,fun _=>cA,fun _=>False⟩:=by
 refine⟨f8.start,jW.start,fun _ h=>h.elim,fun _ _=>IM,fun t ht=>?_,rfl,fun n _=>?_,by show 0≤32;omega,fun i _=>?_⟩
 ·have ht:t∈([]:List (List UInt8)):=ht
  simp at ht
 ·exact⟨[],[],rfl,by simp,rK,rfl,fun _=>⟨rfl,rfl⟩,fun e=>(by cases e)⟩
 ·exact⟨fun e=>(by cases e),fun e=>absurd e (Nat.not_lt_zero i)⟩
theorem dI.bring {c:aK} {S:Sys} (h:dI c S) {t:List UInt8} (ht:∃f,S.M f∧t=bS f):∃T,dI (c.bring t).1 T∧fT S T:=by
 obtain⟨f,hM,rfl⟩:=ht
 have e:eU (bS f)=f:=(mM (h.good f hM)).2
 unfold aK.bring
 rw[e]
 split
 ·rename_i hk
  exact h.come hM hk
 ·exact h.answer hM
theorem dI.act {c:aK} {S:Sys} (h:dI c S) (a:f7):∃T,dI (doA c a).1 T∧fT S T∧((doA c a).1.cnt≠c.cnt→(doA c a).1.cnt=c.cnt+1∧∀b,b<c.cnt→(cP (S.C b)).2=true→gA T c.cnt b):=by
 have same:∀d:aK,dI d S→d.cnt=c.cnt→∃T,dI d T∧fT S T∧(d.cnt≠c.cnt→d.cnt=c.cnt+1∧∀b,b<c.cnt→(cP (S.C b)).2=true→gA T c.cnt b):=
  fun d hd e=>⟨S,hd,fT.refl S,fun k=>absurd e k⟩
 have some_:∀d:aK,(∃T,dI d T∧fT S T)→d.cnt=c.cnt→∃T,dI d T∧fT S T∧(d.cnt≠c.cnt→d.cnt=c.cnt+1∧∀b,b<c.cnt→(cP (S.C b)).2=true→gA T c.cnt b):=
  fun d ⟨T,h1,h2⟩ e=>⟨T,h1,h2,fun k=>absurd e k⟩
 have come_cnt:∀(d:aK) (f:aD),(Go.Proofs.YtkoefoccbjhoiadGreat.come d f).1.cnt=d.cnt:=by
  intro d f
  unfold Go.Proofs.YtkoefoccbjhoiadGreat.come
  split
  ·rfl
  ·split
   ·rfl
   ·split
    ·rfl
    ·split<;>rfl
 have bring_cnt:∀(d:aK) (t:List UInt8),(d.bring t).1.cnt=d.cnt:=by
  intro d t
  unfold aK.bring
  split
  ·exact come_cnt d _
  ·rfl
 have getMem:∀{k:Nat},k<c.net.length→c.net.getD k []∈c.net:=fun {k} hk=>by
  rw[List.getD_eq_getElem?_getD,List.getElem?_eq_getElem hk]
  exact List.getElem_mem hk
 unfold doA
 split
 ·split
  ·exact same c h rfl
  ·rename_i hc
   split
   ·exact same c h rfl
   ·rename_i h0
    have h0:(bE (c.cnt:Int) a.ops).2.2=0:=by
     by_cases e:(bE (c.cnt:Int) a.ops).2.2=0
     ·exact e
     ·exact absurd e h0
    obtain⟨T,h1,h2,h3⟩:=h.begin (by omega) h0
    exact⟨T,h1,h2,fun _=>⟨rfl,h3⟩⟩
 ·split
  ·split
   ·exact same c h rfl
   ·rename_i hn
    have hk:a.n.toNat<c.net.length:=by omega
    have less:dI (c.without a.n.toNat) S:=h.less fun t ht=>List.mem_of_mem_eraseIdx ht
    split
    ·exact same _ less rfl
    ·split
     ·exact some_ _ (less.bring (h.net _ (getMem hk))) (bring_cnt _ _)
     ·exact some_ _ (h.bring (h.net _ (getMem hk))) (bring_cnt _ _)
  ·split
   ·split
    ·exact same c h rfl
    ·rename_i hn
     have:=h.cnt.1
     exact some_ _ (h.again (by omega)) rfl
   ·split
    ·split
     ·exact same c h rfl
     ·rename_i hn
      have hk:a.n.toNat<6:=by omega
      split
      ·split
       ·exact same c h rfl
       ·obtain⟨t,r1,r2,r3⟩:=pA (c.log a.n.toNat)
        exact same _ (h.rise hk r1 r2 r3) rfl
      ·split
       ·exact same c h rfl
       ·rename_i hu
        split
        ·exact same _ (h.crash _) rfl
        ·exact same _ (h.setTear (by simpa using hu) _) rfl
    ·exact same c h rfl
theorem G2 {f:aD} (h:aL f=0):(rc (bS f)).length≤100:=by
 have:=(sI h).1
 rw[lU]
 omega
theorem II (l:List UInt8) {f:aD} (h:aL f=0) (n:Int):(iJ l (bS f) n).length≤l.length+100:=by
 have:=G2 h
 unfold iJ
 split
 ·rw[List.length_append,List.length_take]
  omega
 ·omega
theorem KU (l:List UInt8) {f:aD} (h:aL f=0):(jT l (bS f)).length≤l.length+100:=by
 have:=G2 h
 unfold jT
 split
 ·rw[List.length_append]
  omega
 ·omega
theorem wS {L:Nat→List UInt8} {n k B:Nat} {x:List UInt8} (hL:(L k).length≤B) (hx:n=k→x.length≤B):(upd L n x k).length≤B:=by
 by_cases e:k=n
 ·subst e;rw[aT];exact hx rfl
 ·rw[aN _ _ e];exact hL
theorem C4 {c:aK} {f:aD} (hf:aL f=0) {k:Nat}:((come c f).1.log k).length≤(c.log k).length+100:=by
 unfold come
 split
 ·show (c.log k).length≤_;omega
 ·split
  ·show (c.log k).length≤_;omega
  ·split
   ·exact wS (by omega) (fun e=>by subst e;exact II _ hf _)
   ·split
    ·show (c.log k).length≤_;omega
    ·exact wS (by omega) (fun e=>by subst e;exact KU _ hf)
theorem IW {c:aK} {f:aD} (h:c.net.length≤60):(come c f).1.net.length≤60:=by
 unfold come
 split
 ·exact h
 ·split
  ·exact h
  ·split
   ·exact h
   ·split
    ·exact h
    ·exact nA _ _ h
theorem sT {c:aK} {S:Sys} (h:dI c S) {t:List UInt8} (ht:∃f,S.M f∧t=bS f) {k:Nat}:((c.bring t).1.log k).length≤(c.log k).length+100:=by
 obtain⟨f,hM,rfl⟩:=ht
 have e:eU (bS f)=f:=(mM (h.good f hM)).2
 unfold aK.bring
 rw[e]
 split
 ·exact C4 (h.good f hM)
 ·show (c.log k).length≤_
  omega
theorem wU {c:aK} {t:List UInt8} (h:c.net.length≤60):(c.bring t).1.net.length≤60:=by
 unfold aK.bring
 split
 ·exact IW h
 ·exact nA _ _ h
theorem EB (l:List UInt8):(cJ (rQ l)).length≤l.length:=by
 obtain⟨t,_,_,e⟩:=pA l
 have:=congrArg List.length e
 rw[List.length_append] at this
 omega
theorem vZ {c:aK} {k:Nat} (hk:k<c.net.length):c.net.getD k []∈c.net:=by
 rw[List.getD_eq_getElem?_getD,List.getElem?_eq_getElem hk]
 exact List.getElem_mem hk
theorem FJ {c:aK} {S:Sys} (h:dI c S) (a:f7) (k:Nat):((doA c a).1.log k).length≤(c.log k).length+100:=by
 have same:(c.log k).length≤(c.log k).length+100:=by omega
 unfold doA
 split
 ·split
  ·exact same
  ·split
   ·exact same
   ·exact same
 ·split
  ·split
   ·exact same
   ·rename_i hn
    have hk:a.n.toNat<c.net.length:=by omega
    have less:dI (c.without a.n.toNat) S:=h.less fun t ht=>List.mem_of_mem_eraseIdx ht
    split
    ·exact same
    ·split
     ·exact sT less (h.net _ (vZ hk))
     ·exact sT h (h.net _ (vZ hk))
  ·split
   ·split
    ·exact same
    ·exact same
   ·split
    ·split
     ·exact same
     ·split
      ·split
       ·exact same
       ·exact wS same (fun e=>by subst e;have:=EB (c.log a.n.toNat);omega)
      ·split
       ·exact same
       ·split
        ·exact same
        ·exact same
    ·exact same
theorem LI {c:aK} (h:c.net.length≤60) (a:f7):(doA c a).1.net.length≤60:=by
 have less:∀k,(c.net.eraseIdx k).length≤60:=fun k=>Nat.le_trans (List.length_eraseIdx_le _ _) h
 unfold doA
 split
 ·split
  ·exact h
  ·split
   ·exact h
   ·exact nA _ _ h
 ·split
  ·split
   ·exact h
   ·split
    ·exact less _
    ·split
     ·exact wU (c:=c.without _) (less _)
     ·exact wU h
  ·split
   ·split
    ·exact h
    ·exact nA _ _ h
   ·split
    ·split
     ·exact h
     ·split
      ·split<;>exact h
      ·split
       ·exact h
       ·split<;>exact h
    ·exact h
structure fX (c:aK) (acts:Nat):Prop where
 inv:∃S,dI c S
 net:c.net.length≤60
 log:∀k,(c.log k).length≤100*acts
theorem fX.start:fX kI 0:=⟨⟨_,dI.start⟩,Nat.zero_le _,fun _=>Nat.zero_le _⟩
theorem fX.act {c:aK} {acts:Nat} (h:fX c acts) (a:f7):fX (doA c a).1 (acts+1):=by
 obtain⟨S,hS⟩:=h.inv
 obtain⟨T,hT,_⟩:=hS.act a
 exact⟨⟨T,hT⟩,LI h.net a,fun k=>Nat.le_trans (FJ hS a k) (by have:=h.log k;omega)⟩
theorem fX.more {c:aK} {acts acts':Nat} (h:fX c acts) (ha:acts≤acts'):fX c acts':=⟨h.inv,h.net,fun k=>Nat.le_trans (h.log k) (by omega)⟩
theorem I1 {c:aK} {S:Sys} (h:dI c S) {n:Nat} (hn:n<6) (hu:c.up n=false):c.tear n=none:=by
 obtain⟨_,_,_,_,_,_,_,l⟩:=h.log n hn
 exact (l hu).2
def jX (ok:Nat→Prop) (w:World) (a:Option Addr) (zs:List (List UInt8)):Prop:=
 zs=[]∨∃b off,a=some ⟨b,off,none⟩∧ok b∧∀i,i<zs.length→w.cell? ⟨b,off+i,none⟩=some (.string (str (zs.getD i [])))
theorem jX.later {ok:Nat→Prop} {w w':World} {a:Option Addr} {zs:List (List UInt8)} (h:jX ok w a zs) (hB:bI ok w w'):jX ok w' a zs:=by
 rcases h with h | ⟨b,off,ha,hb,hc⟩
 ·exact Or.inl h
 ·exact Or.inr ⟨b,off,ha,hb,fun i hi=>hB.cell (hc i hi) hb⟩
theorem jX.mono {ok ok':Nat→Prop} {w:World} {a:Option Addr} {zs:List (List UInt8)} (h:jX ok w a zs) (hk:∀k,k<w.heap.size→ok k→ok' k):jX ok' w a zs:=by
 rcases h with h | ⟨b,off,ha,hb,hc⟩
 ·exact Or.inl h
 ·cases zs with
  | nil=>exact Or.inl rfl
  | cons z r=>exact Or.inr ⟨b,off,ha,hk b (World.block_lt_of_cell? w _ (hc 0 (by simp))) hb,hc⟩
def IsT (ok:Nat→Prop) (w:World) (v:Value) (zs:List (List UInt8)):Prop:=∃a cap,v= .slice a zs.length cap∧jX ok w a zs∧zs.length*16≤140737488355328∧zs.length≤cap∧(a=none→zs.length=0∧cap=0)
theorem IsT.later {ok:Nat→Prop} {w w':World} {v:Value} {zs:List (List UInt8)} (h:IsT ok w v zs) (hB:bI ok w w'):IsT ok w' v zs:=by
 obtain⟨a,cap,h1,h2,h3⟩:=h
 exact⟨a,cap,h1,h2.later hB,h3⟩
theorem IsT.mono {ok ok':Nat→Prop} {w:World} {v:Value} {zs:List (List UInt8)} (h:IsT ok w v zs) (hk:∀k,k<w.heap.size→ok k→ok' k):IsT ok' w v zs:=by
 obtain⟨a,cap,h1,h2,h3⟩:=h
 exact⟨a,cap,h1,h2.mono hk,h3⟩
theorem IsT.nil (ok:Nat→Prop) (w:World):IsT ok w (.slice none 0 0) []:=⟨none,0,rfl,Or.inl rfl,by decide,Nat.le_refl _,fun _=>⟨rfl,rfl⟩⟩
structure kS (ok:Nat→Prop) (w:World) (mv:Nat→Value) (up:Bool) (st:aA) (log:List UInt8) (tear:Option Int):Prop where
 st:bG ok w mv st
 log:mv 201= .string (str log)
 down:mv 202= .bool (!up)
 torn:mv 203= .bool tear.isSome
 tear:mv 204= .int .i64 (tear.getD 0)
theorem bG.same {ok:Nat→Prop} {w:World} {nv nv':Nat→Value} {s:aA} (h:bG ok w nv s) (hn:∀j,j<201→nv' j=nv j):bG ok w nv' s:=
 ⟨⟨fun i hi=>(h.es.ent i hi).same fun j hj=>hn _ (by omega),fun k hk=>by rw[hn _ (by omega)];exact h.es.vals k hk⟩,by rw[hn _ (by omega)];exact h.order⟩
theorem bT.same {ok:Nat→Prop} {w:World} {nv nv':Nat→Value} {c:aE} (h:bT ok w nv c) (hn:∀j,j<24→nv' j=nv j):bT ok w nv' c:=
  ⟨by rw[hn _ (by omega)];exact h.begun,by rw[hn _ (by omega)];exact h.fixed,by rw[hn _ (by omega)];exact h.ops,fun i hi=>by rw[hn _ (by omega)];exact h.told i hi,fun i hi=>by rw[hn _ (by omega)];exact h.known i hi,
    by rw[hn _ (by omega)];exact h.deps,fun i hi=>by rw[hn _ (by omega)];exact h.has i hi,fun i hi=>by rw[hn _ (by omega)];exact h.vals i hi⟩
theorem kS.same {ok:Nat→Prop} {w:World} {nv nv':Nat→Value} {up:Bool} {st:aA} {log:List UInt8} {tear:Option Int} (h:kS ok w nv up st log tear) (hn:∀j,j<205→nv' j=nv j):kS ok w nv' up st log tear:=
 ⟨h.st.same fun j hj=>hn j (by omega),by rw[hn _ (by omega)];exact h.log,by rw[hn _ (by omega)];exact h.down,by rw[hn _ (by omega)];exact h.torn,by rw[hn _ (by omega)];exact h.tear⟩
theorem kS.later {ok:Nat→Prop} {w w':World} {nv:Nat→Value} {up:Bool} {st:aA} {log:List UInt8} {tear:Option Int} (h:kS ok w nv up st log tear) (hB:bI ok w w'):kS ok w' nv up st log tear:=⟨h.st.later hB,h.log,h.down,h.torn,h.tear⟩
theorem kS.mono {ok ok':Nat→Prop} {w:World} {nv:Nat→Value} {up:Bool} {st:aA} {log:List UInt8} {tear:Option Int} (h:kS ok w nv up st log tear) (hk:∀k,k<w.heap.size→ok k→ok' k):kS ok' w nv up st log tear:=⟨h.st.mono hk,h.log,h.down,h.torn,h.tear⟩
theorem kS.one {ok:Nat→Prop} {w:World} {nv:Nat→Value} {up:Bool} {st:aA} {log:List UInt8} {tear:Option Int} (h:kS ok w nv up st log tear):∀i,i<205→(nv i).oneCell'=true:=by
 intro i hi
 by_cases h0:i<201
 ·exact h.st.one i h0
 by_cases h1:i=201
 ·subst h1;rw[h.log];rfl
 by_cases h2:i=202
 ·subst h2;rw[h.down];rfl
 by_cases h3:i=203
 ·subst h3;rw[h.torn];rfl
 ·obtain rfl:i=204:=by omega
  rw[h.tear];rfl
structure fJ (ok:Nat→Prop) (w:World) (cv:Nat→Value) (acts:Nat) (c:aK):Prop where
 acts:cv 0= .int .i64 acts
 cnt:cv 1= .int .i64 c.cnt
 mem:∀n,n<6→kS ok w (fun i=>cv (2+n*205+i)) (c.up n) (c.st n) (c.log n) (c.tear n)
 cs:∀n,n<32→bT ok w (fun i=>cv (1232+n*24+i)) (c.cs n)
 net:IsT ok w (cv 2000) c.net
theorem fJ.later {ok:Nat→Prop} {w w':World} {cv:Nat→Value} {acts:Nat} {c:aK} (h:fJ ok w cv acts c) (hB:bI ok w w'):fJ ok w' cv acts c:=
 ⟨h.acts,h.cnt,fun n hn=>(h.mem n hn).later hB,fun n hn=>(h.cs n hn).later hB,h.net.later hB⟩
theorem fJ.mono {ok ok':Nat→Prop} {w:World} {cv:Nat→Value} {acts:Nat} {c:aK} (h:fJ ok w cv acts c) (hk:∀k,k<w.heap.size→ok k→ok' k):fJ ok' w cv acts c:=
 ⟨h.acts,h.cnt,fun n hn=>(h.mem n hn).mono hk,fun n hn=>(h.cs n hn).mono hk,h.net.mono hk⟩
theorem fJ.setMem {ok:Nat→Prop} {w:World} {cv cv':Nat→Value} {acts:Nat} {c:aK} (h:fJ ok w cv acts c) {n:Nat} (hn:n<6) (ho:∀i,i<2001→(i<2+n*205∨2+n*205+205≤i)→cv' i=cv i)
  {up:Bool} {st:aA} {log:List UInt8} {tear:Option Int} (hm:kS ok w (fun i=>cv' (2+n*205+i)) up st log tear):fJ ok w cv' acts { c with up:=upd c.up n up,st:=upd c.st n st,log:=upd c.log n log,tear:=upd c.tear n tear }:=by
 refine⟨by rw[ho 0 (by omega) (by omega)];exact h.acts,by rw[ho 1 (by omega) (by omega)];exact h.cnt,fun k hk=>?_,fun k hk=>(h.cs k hk).same fun j hj=>ho _ (by omega) (by omega),by rw[ho 2000 (by omega) (by omega)];exact h.net⟩
 show kS ok w _ (upd c.up n up k) (upd c.st n st k) (upd c.log n log k) (upd c.tear n tear k)
 by_cases e:k=n
 ·subst e
  rw[aT,aT,aT,aT]
  exact hm
 ·rw[aN _ _ e,aN _ _ e,aN _ _ e,aN _ _ e]
  exact (h.mem k hk).same fun j hj=>ho _ (by omega) (by omega)
theorem fJ.setCase {ok:Nat→Prop} {w:World} {cv cv':Nat→Value} {acts:Nat} {c:aK} (h:fJ ok w cv acts c) {n:Nat} (hn:n<32) (ho:∀i,i<2001→(i<1232+n*24∨1232+n*24+24≤i)→cv' i=cv i)
  {x:aE} (hm:bT ok w (fun i=>cv' (1232+n*24+i)) x):fJ ok w cv' acts { c with cs:=upd c.cs n x }:=by
 refine⟨by rw[ho 0 (by omega) (by omega)];exact h.acts,by rw[ho 1 (by omega) (by omega)];exact h.cnt,fun k hk=>(h.mem k hk).same fun j hj=>ho _ (by omega) (by omega),fun k hk=>?_,by rw[ho 2000 (by omega) (by omega)];exact h.net⟩
 show bT ok w _ (upd c.cs n x k)
 by_cases e:k=n
 ·subst e
  rw[aT]
  exact hm
 ·rw[aN _ _ e]
  exact (h.cs k hk).same fun j hj=>ho _ (by omega) (by omega)
def eH (cv:Nat→Value) (m:Nat) (v:Value) (i:Nat):Value:=if i=m then v else cv i
theorem fJ.setNet {ok:Nat→Prop} {w:World} {cv:Nat→Value} {acts:Nat} {c:aK} (h:fJ ok w cv acts c) {v:Value} {net:List (List UInt8)} (hv:IsT ok w v net):fJ ok w (eH cv 2000 v) acts { c with net:=net }:=by
 have ho:∀i,i<2000→eH cv 2000 v i=cv i:=fun i hi=>if_neg (by omega)
 exact⟨by rw[ho 0 (by omega)];exact h.acts,by rw[ho 1 (by omega)];exact h.cnt,fun k hk=>(h.mem k hk).same fun j hj=>ho _ (by omega),fun k hk=>(h.cs k hk).same fun j hj=>ho _ (by omega),hv⟩
theorem fJ.setActs {ok:Nat→Prop} {w:World} {cv:Nat→Value} {acts:Nat} {c:aK} (h:fJ ok w cv acts c) (m:Nat):fJ ok w (eH cv 0 (.int .i64 m)) m c:=by
 have ho:∀i,i≠0→eH cv 0 (.int .i64 m) i=cv i:=fun i hi=>if_neg hi
 exact⟨rfl,by rw[ho 1 (by omega)];exact h.cnt,fun k hk=>(h.mem k hk).same fun j hj=>ho _ (by omega),fun k hk=>(h.cs k hk).same fun j hj=>ho _ (by omega),by rw[ho 2000 (by omega)];exact h.net⟩
theorem fJ.setCnt {ok:Nat→Prop} {w:World} {cv:Nat→Value} {acts:Nat} {c:aK} (h:fJ ok w cv acts c) (m:Nat):fJ ok w (eH cv 1 (.int .i64 m)) acts { c with cnt:=m }:=by
 have ho:∀i,i≠1→eH cv 1 (.int .i64 m) i=cv i:=fun i hi=>if_neg hi
 exact⟨by rw[ho 0 (by omega)];exact h.acts,rfl,fun k hk=>(h.mem k hk).same fun j hj=>ho _ (by omega),fun k hk=>(h.cs k hk).same fun j hj=>ho _ (by omega),by rw[ho 2000 (by omega)];exact h.net⟩
structure aC (ok:Nat→Prop) (w:World) (p:Nat) (cv:Nat→Value) (acts:Nat) (c:aK):Prop where
 row:w.heap[p]? =some (.cells (aB 2001 cv) 78 (0,0))
 clu:fJ ok w cv acts c
 out:¬ ok p
theorem aC.blk {ok:Nat→Prop} {w:World} {p:Nat} {cv:Nat→Value} {acts:Nat} {c:aK} (h:aC ok w p cv acts c):bA 2001 w p cv:=⟨_,h.row⟩
theorem aC.lt {ok:Nat→Prop} {w:World} {p:Nat} {cv:Nat→Value} {acts:Nat} {c:aK} (h:aC ok w p cv acts c):p<w.heap.size:=h.blk.lt
theorem aC.later {ok:Nat→Prop} {w w':World} {p:Nat} {cv:Nat→Value} {acts:Nat} {c:aK} (h:aC ok w p cv acts c) (hB:bI ok w w') (hp:w'.heap[p]? =w.heap[p]?):aC ok w' p cv acts c:=⟨hp.trans h.row,h.clu.later hB,h.out⟩
theorem aC.below {ok:Nat→Prop} {w w':World} {p:Nat} {cv:Nat→Value} {acts:Nat} {c:aK} (h:aC ok w p cv acts c) (hb:Below w.heap.size w w'):aC ok w' p cv acts c:=h.later (bI.of_size hb) (hb.block p h.lt)
theorem aC.mono {ok ok':Nat→Prop} {w:World} {p:Nat} {cv:Nat→Value} {acts:Nat} {c:aK} (h:aC ok w p cv acts c) (hk:∀k,k<w.heap.size→ok k→ok' k) (ho:¬ ok' p):aC ok' w p cv acts c:=⟨h.row,h.clu.mono hk,ho⟩
theorem aC.cell {ok:Nat→Prop} {w:World} {p:Nat} {cv:Nat→Value} {acts:Nat} {c:aK} (h:aC ok w p cv acts c) {i:Nat} (hi:i<2001):w.cell? ⟨p,i,none⟩=some (cv i):=h.blk.cell hi
theorem aC.frozen {ok:Nat→Prop} {w:World} {p:Nat} {cv:Nat→Value} {acts:Nat} {c:aK} (h:aC ok w p cv acts c) (i:Nat):w.frozen? ⟨p,i,none⟩=false:=h.blk.frozen i
theorem aC.put {ok:Nat→Prop} {w:World} {p:Nat} {cv:Nat→Value} {acts acts':Nat} {c c':aK} (h:aC ok w p cv acts c) (m:Nat) (v:Value) (hc:fJ ok w (eH cv m v) acts' c'):aC ok (w.setCell ⟨p,m,none⟩ v) p (eH cv m v) acts' c':=by
 refine⟨?_,hc.later (fun k _ hk=>Below.heap_setCell _ _ _ _ (fun e=>h.out (by have e:k=p:=e;rw[←e];exact hk))),h.out⟩
 rw[heap_setCell_same w p m _ _ _ h.row,eJ]
 rfl
def iU (cv:Nat→Value) (o:Nat) (vs:List Value) (i:Nat):Value:=if o≤i∧i<o+vs.length then vs.getD (i-o) (.bool false) else cv i
theorem eV (w:World) {p k:Nat} (hk:k≠p):∀(vs:List Value) (o:Nat) (w:World),(w.setCells p o vs).heap[k]? =w.heap[k]?
 | [],_,_=>rfl
 | v::vs,o,w=>by
  rw[World.setCells,eV w hk vs (o+1)]
  exact Below.heap_setCell _ _ _ _ hk
theorem nQ {p:Nat} {t:TypeId}:∀(vs:List Value) (o:Nat) {w:World} {f:Nat→Value},w.heap[p]? =some (.cells (aB 2001 f) t (0,0))→o+vs.length≤2001→(w.setCells p o vs).heap[p]? =some (.cells (aB 2001 (iU f o vs)) t (0,0))
 | [],o,w,f,h,_=>by
  show w.heap[p]? =_
  rw[h,jK (g:=iU f o []) fun i _=>?_]
  unfold iU
  rw[if_neg (by simp)]
 | v::vs,o,w,f,h,hl=>by
  have hl:o+(vs.length+1)≤2001:=hl
  rw[World.setCells]
  have h1:(w.setCell ⟨p,o,none⟩ v).heap[p]? =some (.cells (aB 2001 (fun i=>if i=o then v else f i)) t (0,0)):=by rw[heap_setCell_same w p o _ _ _ h,eJ]
  rw[nQ vs (o+1) h1 (by omega),jK (g:=iU f o (v::vs)) fun i _=>?_]
  unfold iU
  simp only[List.length_cons]
  by_cases e:i=o
  ·subst e
   rw[if_neg (by omega),if_pos rfl,if_pos (by omega)]
   simp
  ·by_cases e2:o+1≤i∧i<o+1+vs.length
   ·rw[if_pos e2,if_pos (by omega)]
    obtain⟨k,hk⟩:∃k,i-o=k+1:=⟨i-o-1,by omega⟩
    rw[hk,show i-(o+1)=k by omega]
    simp
   ·rw[if_neg e2,if_neg e,if_neg (by omega)]
theorem aC.puts {ok:Nat→Prop} {w:World} {p:Nat} {cv:Nat→Value} {acts acts':Nat} {c c':aK} (h:aC ok w p cv acts c) (o:Nat) (vs:List Value) (hl:o+vs.length≤2001) (hc:fJ ok w (iU cv o vs) acts' c'):aC ok (w.setCells p o vs) p (iU cv o vs) acts' c':=
 ⟨nQ vs o h.row hl,hc.later (fun k _ hk=>eV w (fun e=>h.out (by rw[←e];exact hk)) vs o w),h.out⟩
theorem qB {cv:Nat→Value} {o:Nat} {N:Nat} {f:Nat→Value} {i:Nat} (hi:i<N):iU cv o (aB N f).toList (o+i)=f i:=by
 unfold iU
 have hl:(aB N f).toList.length=N:=by simp[aB]
 rw[hl,if_pos (by omega),show o+i-o=i by omega]
 simp[aB,hi]
theorem oO {cv:Nat→Value} {o:Nat} {N:Nat} {f:Nat→Value} {i:Nat} (hi:i<o∨o+N≤i):iU cv o (aB N f).toList i=cv i:=by
 unfold iU
 have hl:(aB N f).toList.length=N:=by simp[aB]
 rw[hl,if_neg (by omega)]
theorem gK {w w':World} {B c o:Nat} {cs:List Value} (h:w.rangeAt c o cs) (hb:Below B w w') (hc:c<B):w'.rangeAt c o cs:=fun j v hv=>by
 rw[hb.cell (p:=⟨c,o+j,none⟩) hc]
 exact h j v hv
theorem aC.range {ok:Nat→Prop} {w:World} {p:Nat} {cv:Nat→Value} {acts:Nat} {c:aK} (h:aC ok w p cv acts c) {o n:Nat} (ho:o+n≤2001):w.rangeAt p o (aB n fun i=>cv (o+i)).toList:=h.blk.range ho
theorem Tryz.infoMember:(Tryz.prog.info? 74).map (·.size)=some 205:=by kernel_rfl
theorem nN {P:Program} {e:TypeId} (he:P.underlying e=some (.int .i64)) (hi:(P.info? e).map (·.size)=some 1) {n:Nat} (S:Nat→Int) {k:Nat} (hk:k<n) (w:World):
  (part e (aB n fun i=> .int .i64 (S i)) k).run P w= .ok (.int .i64 (S k)) w:=by
 cases hq:P.info? e with
 | none=>simp[hq] at hi
 | some i=>
  have hs:i.size=1:=by simpa [hq] using hi
  have hg:=m7 (fun i=>Value.int .i64 (S i)) hk
  simp[part,isAgg,run_underlying he,sizeOf,typeInfo,hq,hs,hg,go_sem]
  try omega
theorem vL {P:Program} {t e:TypeId} {n:Nat} (d:Nat) (ht:P.underlying t=some (.array n e)) (he:P.underlying e=some (.int .i64)) (hi:(P.info? e).map (·.size)=some 1) (S:Nat→Int) (w:World):
  (Op.equalIn (d+2) t (.agg (aB n fun i=> .int .i64 (S i))) (.agg (aB n fun i=> .int .i64 (S i)))).run P w= .ok true w:=by
 have hsz:∀w,(sizeOf e).run P w= .ok 1 w:=by
  intro w
  cases hq:P.info? e with
  | none=>simp[hq] at hi
  | some i=>
   have hs:i.size=1:=by simpa [hq] using hi
   simp[sizeOf,typeInfo,hq,hs]
 rw[Op.equalIn]
 simp only[Sem.run_bind,run_underlying ht,Result.andThen_ok,hsz,Std.Legacy.Range.forIn_eq_forIn_range',Std.Legacy.Range.size,Nat.sub_zero,Nat.add_sub_cancel,Nat.div_one]
 have hl:∀i∈List.range' 0 n 1,i<n:=fun i hi=>by simpa using (List.mem_range'_1.1 hi).2
 generalize List.range' 0 n 1=l at hl ⊢
 induction l with
 | nil=>simp
 | cons i l ih=>
  have hk:i<n:=hl i (by simp)
  have px:=nN he hi S hk w
  have pe:(Op.equalIn (d+1) e (.int .i64 (S i)) (.int .i64 (S i))).run P w= .ok true w:=by simp[Op.equalIn,run_underlying he]
  simp only[List.forIn_cons,Sem.run_bind,Nat.mul_one,px,pe,Result.andThen_ok]
  simp only[Bool.not_true,Bool.false_eq_true,if_false,Sem.run_pure,Result.andThen_ok]
  simpa only[Nat.mul_one] using ih fun j hj=>hl j (by simp[hj])
theorem Tryz.infoInt1:(Tryz.prog.info? 3).map (·.size)=some 1:=by kernel_rfl
theorem Tryz.infoVals:(Tryz.prog.info? 40).map (·.size)=some 8:=by kernel_rfl
theorem Tryz.valsGuard:Tryz.prog.eqGuardType Tryz.prog.depth 40=false:=by kernel_rfl
def qH (n:Nat) (S T:Nat→Int):Bool:=(List.range n).all fun i=>S i == T i
theorem G8 {n:Nat} {S T:Nat→Int}:qH n S T=true↔∀i,i<n→S i=T i:=by
 unfold qH
 simp
theorem fR {P:Program} {t e:TypeId} {n:Nat} (d:Nat) (ht:P.underlying t=some (.array n e)) (he:P.underlying e=some (.int .i64)) (hi:(P.info? e).map (·.size)=some 1) (S T:Nat→Int) (w:World):
  (Op.equalIn (d+2) t (.agg (aB n fun i=> .int .i64 (S i))) (.agg (aB n fun i=> .int .i64 (T i)))).run P w= .ok (qH n S T) w:=by
 have hsz:∀w,(sizeOf e).run P w= .ok 1 w:=by
  intro w
  cases hq:P.info? e with
  | none=>simp[hq] at hi
  | some i=>
   have hs:i.size=1:=by simpa [hq] using hi
   simp[sizeOf,typeInfo,hq,hs]
 unfold qH
 rw[List.range_eq_range',Op.equalIn]
 simp only[Sem.run_bind,run_underlying ht,Result.andThen_ok,hsz,Std.Legacy.Range.forIn_eq_forIn_range',Std.Legacy.Range.size,Nat.sub_zero,Nat.add_sub_cancel,Nat.div_one]
 have hl:∀i∈List.range' 0 n 1,i<n:=fun i hi=>by simpa using (List.mem_range'_1.1 hi).2
 generalize List.range' 0 n 1=l at hl ⊢
 induction l with
 | nil=>simp
 | cons i l ih=>
  have hk:i<n:=hl i (by simp)
  have px:=nN he hi S hk w
  have py:=nN he hi T hk w
  have pe:(Op.equalIn (d+1) e (.int .i64 (S i)) (.int .i64 (T i))).run P w= .ok (S i == T i) w:=by simp[Op.equalIn,run_underlying he]
  simp only[List.forIn_cons,Sem.run_bind,Nat.mul_one,px,py,pe,Result.andThen_ok,List.all_cons]
  cases hb:(S i == T i)
  ·simp
  ·simp only[Bool.not_true,Bool.false_eq_true,if_false,Sem.run_pure,Result.andThen_ok,Bool.true_and]
   simpa only[Nat.mul_one] using ih fun j hj=>hl j (by simp[hj])
theorem Tryz.infoSix:(Tryz.prog.info? 47).map (·.size)=some 6:=by kernel_rfl
theorem Tryz.infoFour:(Tryz.prog.info? 48).map (·.size)=some 4:=by kernel_rfl
theorem Tryz.infoFourI:(Tryz.prog.info? 49).map (·.size)=some 4:=by kernel_rfl
theorem Tryz.sixGuard:Tryz.prog.eqGuardType Tryz.prog.depth 47=false:=by kernel_rfl
theorem Tryz.fourGuard:Tryz.prog.eqGuardType Tryz.prog.depth 48=false:=by kernel_rfl
theorem Tryz.fourIGuard:Tryz.prog.eqGuardType Tryz.prog.depth 49=false:=by kernel_rfl
theorem r7 (n:Nat) (f:Nat→Value):(aB n f).toList=(List.range n).map f:=by simp[aB]
theorem bA.truths {w:World} {b o n N:Nat} {nv:Nat→Value} {S:Nat→Bool} (h:bA N w b nv) (hn:o+n≤N) (hs:∀i,i<n→nv (o+i)= .bool (S i)):w.rangeAt b o (aG n S).toList:=by
 have:=h.range (o:=o) (n:=n) hn
 rw[FD,r7,←List.map_congr_left (fun i hi=>hs i (List.mem_range.1 hi))]
 exact this
theorem bA.numbers {w:World} {b o n N:Nat} {nv:Nat→Value} {S:Nat→Int} (h:bA N w b nv) (hn:o+n≤N) (hs:∀i,i<n→nv (o+i)= .int .i64 (S i)):w.rangeAt b o (aB n fun i=> .int .i64 (S i)).toList:=by
 have:=h.range (o:=o) (n:=n) hn
 rw[r7,←List.map_congr_left (fun i hi=>hs i (List.mem_range.1 hi))]
 exact this
def aE.wants (c:aE) (n:Nat):Bool:=if c.fixed then !c.known n || c.lacks (ofL n) else bO c.ops (ofL n) && !c.told n
def aE.msg (c:aE) (id:Int) (n:Nat):aD:=if c.fixed then ⟨3,n,id,c.ops,c.deps,[],[]⟩ else ⟨1,n,id,c.ops,[],[],[]⟩
theorem EK (c:aE) (id:Int) (n:Nat):c.send id n=if c.wants n then [c.msg id n] else []:=by
 unfold aE.send aE.wants aE.msg
 cases c.fixed<;>rfl
def aE.sends (c:aE) (id:Int) (k:Nat):List aD:=(List.range k).flatMap (c.send id)
theorem EL (c:aE) (id:Int):c.sends id 0=[]:=rfl
theorem qI (c:aE) (id:Int) (k:Nat):c.sends id (k+1)=c.sends id k++if c.wants k then [c.msg id k] else []:=by
 unfold aE.sends
 rw[List.range_succ,List.flatMap_append]
 simp only[List.flatMap_cons,List.flatMap_nil,List.append_nil,EK]
theorem xS (c:aE) (id:Int):∀k,(c.sends id k).length≤k
 | 0=>by simp[EL]
 | k+1=>by
  rw[qI,List.length_append]
  have:=xS c id k
  split
  ·simp;omega
  ·simp;omega
def dE (c:aE) (id:Int):Bool:=dW c && c.begun && !d9 c.deps id
theorem E7 {c:aE} {id:Int} (h:dE c id=true) (h0:0≤id) (h1:id<32):cQ c id=c.sends id 6:=by
 unfold dE at h
 simp only[Bool.and_eq_true,Bool.not_eq_true'] at h
 unfold cQ aE.sends
 rw[if_neg]
 rintro (e | e | e | e | e)
 ·rw[h.1.1] at e;cases e
 ·rw[h.1.2] at e;cases e
 ·omega
 ·omega
 ·rw[h.2] at e;cases e
theorem yU {c:aE} {id:Int} (h:dE c id=false∨id<0∨32≤id):cQ c id=[]:=by
 unfold cQ
 rw[if_pos]
 rcases h with h | h | h
 ·unfold dE at h
  cases e:dW c
  ·exact Or.inl rfl
  ·cases e2:c.begun
   ·exact Or.inr (Or.inl rfl)
   ·cases e3:d9 c.deps id
    ·rw[e,e2,e3] at h;cases h
    ·exact Or.inr (Or.inr (Or.inr (Or.inr rfl)))
 ·exact Or.inr (Or.inr (Or.inl h))
 ·exact Or.inr (Or.inr (Or.inr (Or.inl h)))
def fQ (t:Nat→Bool) (sh:Int):Nat→Nat
 | 0=>0
 | k+1=>fQ t sh k+if t k && (ofL k == sh) then 1 else 0
theorem vX (t:Nat→Bool) (sh:Int):∀k,fQ t sh k≤k
 | 0=>Nat.le_refl _
 | k+1=>by
  have:=vX t sh k
  simp only[fQ]
  split<;>omega
theorem FH (t:Nat→Bool):fQ t 0 6=nK t 0:=by
 simp only[fQ,nK,List.range_succ,List.range_zero,List.nil_append,List.filter_append,List.length_append,Nat.zero_mul,Nat.zero_add]
 simp only[show ofL ((0:Nat):Int)=0 from rfl,show ofL ((1:Nat):Int)=0 from rfl,show ofL ((2:Nat):Int)=0 from rfl,show ofL ((3:Nat):Int)=1 from rfl,show ofL ((4:Nat):Int)=1 from rfl,show ofL ((5:Nat):Int)=1 from rfl]
 cases e0:t 0<;>cases e1:t 1<;>cases e2:t 2<;>simp[e0,e1,e2]
theorem FI (t:Nat→Bool):fQ t 1 6=nK t 1:=by
 simp only[fQ,nK,List.range_succ,List.range_zero,List.nil_append,List.filter_append,List.length_append,Nat.one_mul]
 simp only[show ofL ((0:Nat):Int)=0 from rfl,show ofL ((1:Nat):Int)=0 from rfl,show ofL ((2:Nat):Int)=0 from rfl,show ofL ((3:Nat):Int)=1 from rfl,show ofL ((4:Nat):Int)=1 from rfl,show ofL ((5:Nat):Int)=1 from rfl]
 cases e0:t 3<;>cases e1:t 4<;>cases e2:t 5<;>simp[e0,e1,e2]
theorem JQ (ops:List OpL) (t:Nat→Bool):eG ops t=(!(decide (fQ t 0 6<2) && bO ops 0) && !(decide (fQ t 1 6<2) && bO ops 1)):=by
 unfold eG
 rw[FH,FI]
 have h:∀n:Nat,decide (2≤n)= !decide (n<2):=fun n=>by
  by_cases e:n<2
  ·simp[e]
  ·simp[e];omega
 rw[h,h]
 cases bO ops 0<;>cases bO ops 1<;>simp
def aE.hasAll (c:aE):Bool:=(List.range c.ops.length).all c.has
theorem mK {c:aE}:c.hasAll=true↔∀i,i<c.ops.length→c.has i=true:=by
 unfold aE.hasAll
 simp
theorem EE {c:aE} (hb:c.begun=true) (hg:dW c=true) (h:c.hasAll=true):cP c=((List.range c.ops.length).map c.vals,true):=by
 unfold cP
 rw[if_neg]
 rintro (e | e | e | e)
 ·rw[hb] at e;cases e
 ·rw[hg] at e;cases e
 ·rw[xF (mK.1 h)] at e;cases e
 ·rw[xF (mK.1 h)] at e;cases e
theorem rS {c:aE} (h:dW c=false∨c.begun=false∨c.hasAll=false):cP c=([],false):=by
 unfold cP
 rw[if_pos]
 rcases h with h | h | h
 ·exact Or.inr (Or.inl h)
 ·exact Or.inl h
 ·cases e0:c.lacks 0
  ·cases e1:c.lacks 1
   ·rw[mK.2 (fun i hi=>xH e0 e1 hi)] at h;cases h
   ·exact Or.inr (Or.inr (Or.inr rfl))
  ·exact Or.inr (Or.inr (Or.inl rfl))
theorem qP {c:aE} (hb:c.begun=true) (hg:dW c=true):0<c.ops.length∧c.ops.length≤4:=by
 rw[kC hb,Bool.and_eq_true] at hg
 have:=hg.1
 unfold bN at this
 simp at this
 omega
def kG (n:Int):Bool:=decide (0≤n∧n<32)
theorem sM (n:Int) (w:World):
  Calls Tryz.prog 83 #[.int .i64 n] w fun e w'=>e= .returned (.bool (kG n))∧w'=w:=by
 by_cases h1:0≤n
 ·by_cases h2:n<32
  ·have E:Hid (kG n=true):=by unfold kG Hid;simp;omega
   have d1:decide (0≤n)=true:=by simpa using h1
   have d2:decide (n<32)=true:=by simpa using h2
   go_enter Tryz.func83,Tryz.ntmps83
   go_wp2
   go_ret
   exact⟨aF E.out.symm,rfl⟩
  ·have E:Hid (kG n=false):=by unfold kG Hid;simp;omega
   have d1:decide (0≤n)=true:=by simpa using h1
   have d2:decide (n<32)=false:=by simpa using h2
   go_enter Tryz.func83,Tryz.ntmps83
   go_wp2
   go_ret
   exact⟨aF E.out.symm,rfl⟩
 ·have E:Hid (kG n=false):=by unfold kG Hid;simp;omega
  have d1:decide (0≤n)=false:=by simpa using h1
  go_enter Tryz.func83,Tryz.ntmps83
  go_wp2
  go_ret
  exact⟨aF E.out.symm,rfl⟩
def cM (w:World) (gr:Array Value) (c:aE):Prop:=∃nv,gr=aB 24 nv∧bT (· <w.heap.size) w nv c
theorem cM.later {w w':World} {gr:Array Value} {c:aE} (h:cM w gr c) (hb:Below w.heap.size w w'):cM w' gr c:=by
 obtain⟨nv,e,h⟩:=h
 exact⟨nv,e,h.below hb⟩
theorem cM.size {w:World} {gr:Array Value} {c:aE} (h:cM w gr c):gr.size=24:=by
 obtain⟨nv,e,_⟩:=h
 rw[e,aH]
theorem cM.info {w:World} {gr:Array Value} {c:aE} (h:cM w gr c):(Tryz.prog.info? 51).map (·.size)=some gr.size:=by rw[h.size];exact Tryz.infoCase
theorem cM.one {w:World} {gr:Array Value} {c:aE} (h:cM w gr c):gr.all (·.oneCell')=true:=by
 obtain⟨nv,e,h⟩:=h
 rw[e]
 exact b8 h.one
structure aZ (b:Nat) (w:World) (gr:Array Value) (c:aE):Prop where
 row:w.heap[b]? =some (.cells gr 51 (0,0))
 case:cM w gr c
theorem aZ.later {b:Nat} {w w':World} {gr:Array Value} {c:aE} (h:aZ b w gr c) (hb:Below w.heap.size w w'):aZ b w' gr c:=
 ⟨by rw[hb.block b (Array.getElem?_eq_some_iff.1 h.row).1];exact h.row,h.case.later hb⟩
theorem aZ.lt {b:Nat} {w:World} {gr:Array Value} {c:aE} (h:aZ b w gr c):b<w.heap.size:=(Array.getElem?_eq_some_iff.1 h.row).1
theorem aZ.new {w:World} {gr:Array Value} {c:aE} (h:cM w gr c):aZ w.heap.size (w.alloc (.cells gr 51)) gr c:=
 ⟨aR _ _,h.later ((Below.refl _ _).alloc (Nat.le_refl _) _)⟩
theorem aZ.blk {b:Nat} {w:World} {gr:Array Value} {c:aE} (h:aZ b w gr c):∃nv,gr=aB 24 nv∧bA 24 w b nv∧bT (· <w.heap.size) w nv c:=by
 obtain⟨nv,e,hc⟩:=h.case
 exact⟨nv,e,⟨_,by rw[←e];exact h.row⟩,hc⟩
theorem aZ.begun {b:Nat} {w:World} {gr:Array Value} {c:aE} (h:aZ b w gr c):w.cell? ⟨b,0,none⟩=some (.bool c.begun):=by
 obtain⟨nv,_,hb,hc⟩:=h.blk
 rw[hb.cell (by omega),hc.begun]
theorem aZ.fixed {b:Nat} {w:World} {gr:Array Value} {c:aE} (h:aZ b w gr c):w.cell? ⟨b,1,none⟩=some (.bool c.fixed):=by
 obtain⟨nv,_,hb,hc⟩:=h.blk
 rw[hb.cell (by omega),hc.fixed]
theorem aZ.ops {b:Nat} {w:World} {gr:Array Value} {c:aE} (h:aZ b w gr c):∃a cap,w.cell? ⟨b,2,none⟩=some (.slice a c.ops.length cap)∧bR w a cap c.ops∧c.ops.length*24≤140737488355328:=by
 obtain⟨nv,_,hb,hc⟩:=h.blk
 obtain⟨a,cap,e,hs⟩:=hc.ops.sl
 obtain⟨_,_,_,_,hl,_⟩:=hc.ops
 exact⟨a,cap,by rw[hb.cell (by omega),e],hs,hl⟩
theorem aZ.deps {b:Nat} {w:World} {gr:Array Value} {c:aE} (h:aZ b w gr c):∃a cap,w.cell? ⟨b,15,none⟩=some (.slice a c.deps.length cap)∧bM w a cap c.deps∧c.deps.length*8≤140737488355328:=by
 obtain⟨nv,_,hb,hc⟩:=h.blk
 obtain⟨a,cap,e,hs⟩:=hc.deps.sl
 obtain⟨_,_,_,_,hl,_⟩:=hc.deps
 exact⟨a,cap,by rw[hb.cell (by omega),e],hs,hl⟩
theorem aZ.told {b:Nat} {w:World} {gr:Array Value} {c:aE} (h:aZ b w gr c) {i:Nat} (hi:i<6):w.cell? ⟨b,3+i,none⟩=some (.bool (c.told i)):=by
 obtain⟨nv,_,hb,hc⟩:=h.blk
 rw[hb.cell (by omega),hc.told i hi]
theorem aZ.known {b:Nat} {w:World} {gr:Array Value} {c:aE} (h:aZ b w gr c) {i:Nat} (hi:i<6):w.cell? ⟨b,9+i,none⟩=some (.bool (c.known i)):=by
 obtain⟨nv,_,hb,hc⟩:=h.blk
 rw[hb.cell (by omega),hc.known i hi]
theorem aZ.has {b:Nat} {w:World} {gr:Array Value} {c:aE} (h:aZ b w gr c) {i:Nat} (hi:i<4):w.cell? ⟨b,16+i,none⟩=some (.bool (c.has i)):=by
 obtain⟨nv,_,hb,hc⟩:=h.blk
 rw[hb.cell (by omega),hc.has i hi]
theorem aZ.vals {b:Nat} {w:World} {gr:Array Value} {c:aE} (h:aZ b w gr c) {i:Nat} (hi:i<4):w.cell? ⟨b,20+i,none⟩=some (.int .i64 (c.vals i)):=by
 obtain⟨nv,_,hb,hc⟩:=h.blk
 rw[hb.cell (by omega),hc.vals i hi]
theorem aZ.rTold {b:Nat} {w:World} {gr:Array Value} {c:aE} (h:aZ b w gr c):w.rangeAt b 3 (aG 6 c.told).toList:=by
 obtain⟨nv,_,hb,hc⟩:=h.blk
 exact hb.truths (by omega) hc.told
theorem aZ.rKnown {b:Nat} {w:World} {gr:Array Value} {c:aE} (h:aZ b w gr c):w.rangeAt b 9 (aG 6 c.known).toList:=by
 obtain⟨nv,_,hb,hc⟩:=h.blk
 exact hb.truths (by omega) hc.known
theorem aZ.rHas {b:Nat} {w:World} {gr:Array Value} {c:aE} (h:aZ b w gr c):w.rangeAt b 16 (aG 4 c.has).toList:=by
 obtain⟨nv,_,hb,hc⟩:=h.blk
 exact hb.truths (by omega) hc.has
theorem aZ.rVals {b:Nat} {w:World} {gr:Array Value} {c:aE} (h:aZ b w gr c):w.rangeAt b 20 (aB 4 fun i=> .int .i64 (c.vals i)).toList:=by
 obtain⟨nv,_,hb,hc⟩:=h.blk
 exact hb.numbers (by omega) hc.vals
theorem aZ.range {b:Nat} {w:World} {gr:Array Value} {c:aE} (h:aZ b w gr c):w.rangeAt b 0 gr.toList:=by
 intro j v hv
 rw[cell_of_row w b (0+j) _ _ _ h.row,Nat.zero_add]
 simpa using hv
theorem cM.len {w:World} {gr:Array Value} {c:aE} (h:cM w gr c):(Tryz.prog.info? 51).map (·.size)=some gr.toList.length:=by rw[Array.length_toList];exact h.info
theorem jN (w:World):cM w (aB 24 zcv) cA:=⟨zcv,rfl,oF _ w⟩
theorem nC:aB 24 zcv=#[.bool false,.bool false,.slice none 0 0,.bool false,.bool false,.bool false,.bool false,.bool false,.bool false,.bool false,.bool false,.bool false,.bool false,.bool false,.bool false,.slice none 0 0,.bool false,.bool false,.bool false,.bool false,.int .i64 0,.int .i64 0,.int .i64 0,.int .i64 0]:=rfl
theorem Tryz.sizeSix (S:Nat→Bool):(Tryz.prog.info? 47).map (·.size)=some (aG 6 S).toList.length:=by rw[iV];exact Tryz.infoSix
theorem Tryz.sizeFour (S:Nat→Bool):(Tryz.prog.info? 48).map (·.size)=some (aG 4 S).toList.length:=by rw[iV];exact Tryz.infoFour
theorem Tryz.sizeFourI (S:Nat→Int):(Tryz.prog.info? 49).map (·.size)=some (aB 4 fun i=>Value.int .i64 (S i)).toList.length:=by rw[r7,List.length_map,List.length_range];exact Tryz.infoFourI
theorem eP (S:Nat→Bool):iQ Tryz.prog 47 (aG 6 S).toList.length:=⟨_,Tryz.underlying47,rfl,Tryz.sizeSix S⟩
theorem gU (S:Nat→Bool):iQ Tryz.prog 48 (aG 4 S).toList.length:=⟨_,Tryz.underlying48,rfl,Tryz.sizeFour S⟩
theorem fW (S:Nat→Int):iQ Tryz.prog 49 (aB 4 fun i=>Value.int .i64 (S i)).toList.length:=⟨_,Tryz.underlying49,rfl,Tryz.sizeFourI S⟩
theorem cM.row {w:World} {gr:Array Value} {c:aE} (h:cM w gr c):iQ Tryz.prog 51 gr.size:=⟨_,Tryz.underlying51,rfl,h.info⟩
theorem eB:iQ Tryz.prog 104 7:=⟨_,Tryz.underlying104,rfl,Tryz.infoFrame7⟩
def zmv (i:Nat):Value:=if i<201 then zv i else if i=201 then .string ⟨#[]⟩ else if i=204 then .int .i64 0 else .bool false
def l0 (i:Nat):Value:=if i<2 then .int .i64 0 else if i<1232 then zmv ((i-2) % 205) else if i<2000 then zcv ((i-1232) % 24) else .slice none 0 0
theorem Tryz.zeroMem:(Tryz.prog.info? 74).map (·.zero)=some (some (.agg (aB 205 zmv))):=by kernel_rfl
theorem Tryz.placesClu:(match Tryz.prog.underlying 78 with | some (.struct fields)=>fields.toList.mapM (fun f=>(Tryz.prog.info? f.type).map fun i=>(f.offset,i.size)) | _=>none)=some [(0,1),(1,1),(2,1230),(1232,768),(2000,1)]:=by kernel_rfl
theorem Tryz.placesMem:(match Tryz.prog.underlying 74 with | some (.struct fields)=>fields.toList.mapM (fun f=>(Tryz.prog.info? f.type).map fun i=>(f.offset,i.size)) | _=>none)=some [(0,201),(201,1),(202,1),(203,1),(204,1)]:=by kernel_rfl
theorem KX (ok:Nat→Prop) (w:World):kS ok w zmv true dP [] none:=
 ⟨(lG ok w).same fun j hj=>if_pos hj,rfl,rfl,rfl,rfl⟩
theorem KW (ok:Nat→Prop) (w:World):fJ ok w l0 0 kI:=by
 refine⟨rfl,rfl,fun n hn=>?_,fun n hn=>?_,IsT.nil ok w⟩
 ·refine (KX ok w).same fun j hj=>?_
  show l0 (2+n*205+j)=zmv j
  unfold l0
  rw[if_neg (by omega),if_pos (by omega),show (2+n*205+j-2) % 205=j by omega]
 ·refine (oF ok w).same fun j hj=>?_
  show l0 (1232+n*24+j)=zcv j
  unfold l0
  rw[if_neg (by omega),if_neg (by omega),if_pos (by omega),show (1232+n*24+j-1232) % 24=j by omega]
theorem vQ {P:Program} {t:TypeId} {z:Value} (h:(P.info? t).map (·.zero)=some (some z)):∃it,P.info? t=some it∧it.zero=some z:=by
 cases hq:P.info? t with
 | none=>rw[hq] at h;cases h
 | some it=>
  rw[hq] at h
  simp only[Option.map_some,Option.some.injEq] at h
  exact⟨it,rfl,h⟩
theorem Tryz.zcClu:Tryz.zeroCells78=aB 2001 l0:=by kernel_rfl
theorem q8 {place:Nat→Option (Nat × Nat)} {N:Nat} {f:Nat→Value} {k off:Nat} {v:Value} {rest:List (Nat × Value)} (h:place k=some (off,1)) (hv:v.cells=#[v]) (hl:off+1≤N):
  Instr.fill place (aB N f) ((k,v)::rest)=Instr.fill place (aB N (eH f off v)) rest:=by
 rw[Instr.fill,h]
 simp only[hv]
 rw[if_neg (by simp[aH];omega)]
 congr 1
 simp
 rw[eJ]
 rfl
theorem uR {N:Nat} (off:Nat):∀(vs:List Value) (k:Nat) (f:Nat→Value),(vs.zipIdx k).foldl (fun cs (x:Value × Nat)=>cs.setIfInBounds (off+x.2) x.1) (aB N f)=aB N (fun i=>if off+k≤i∧i<off+k+vs.length then vs.getD (i-(off+k)) (.bool false) else f i)
 | [],k,f=>by
  simp only[List.zipIdx_nil,List.foldl_nil]
  refine jK fun i _=>?_
  rw[if_neg (by simp)]
 | v::vs,k,f=>by
  rw[List.zipIdx_cons,List.foldl_cons,eJ,uR off vs (k+1)]
  refine jK fun i _=>?_
  simp only[List.length_cons]
  by_cases e:i=off+k
  ·subst e
   rw[if_neg (by omega),if_pos rfl,if_pos (by omega)]
   simp
  ·by_cases e2:off+(k+1)≤i∧i<off+(k+1)+vs.length
   ·rw[if_pos e2,if_pos (by omega)]
    obtain⟨j,hj⟩:∃j,i-(off+k)=j+1:=⟨i-(off+k)-1,by omega⟩
    rw[hj,show i-(off+(k+1))=j by omega]
    simp
   ·rw[if_neg e2,if_neg e,if_neg (by omega)]
theorem I9 {place:Nat→Option (Nat × Nat)} {N M:Nat} {f g:Nat→Value} {k off:Nat} {rest:List (Nat × Value)} (h:place k=some (off,M)) (hl:off+M≤N):
  Instr.fill place (aB N f) ((k,.agg (aB M g))::rest)=Instr.fill place (aB N (iU f off (aB M g).toList)) rest:=by
 have e1:(Value.agg (aB M g)).cells=aB M g:=rfl
 rw[Instr.fill,h]
 simp only[e1]
 rw[if_neg (by simp[aH];omega)]
 congr 1
 rw[←Array.foldl_toList]
 have:=uR (N:=N) off (aB M g).toList 0 f
 simp only[Nat.add_zero] at this
 unfold iU
 simpa using this
def dmv (s:Value):Nat→Value:=eH (eH zmv 201 s) 202 (.bool true)
def rmv (s:Value) (nv:Nat→Value):Nat→Value:=iU (eH zmv 201 s) 0 (aB 201 nv).toList
theorem Tryz.builtDown (s:ByteArray):Tryz.prog.built 74 [(1,.string s),(2,.bool true)]=some (aB 205 (dmv (.string s))):=by
 obtain⟨it,hi,hz⟩:=vQ Tryz.zeroMem
 have hp:=Tryz.placesMem
 rw[Tryz.underlying74] at hp
 rw[nZ _ hi Tryz.underlying74 hz hp]
 have e2:∀r:Array Value,(Value.agg r).cells=r:=fun _=>rfl
 rw[e2,q8 (off:=201) rfl rfl (by decide),q8 (off:=202) rfl rfl (by decide)]
 rfl
theorem Tryz.builtRise (s:ByteArray) (nv:Nat→Value):Tryz.prog.built 74 [(1,.string s),(0,.agg (aB 201 nv))]=some (aB 205 (rmv (.string s) nv)):=by
 obtain⟨it,hi,hz⟩:=vQ Tryz.zeroMem
 have hp:=Tryz.placesMem
 rw[Tryz.underlying74] at hp
 rw[nZ _ hi Tryz.underlying74 hz hp]
 have e2:∀r:Array Value,(Value.agg r).cells=r:=fun _=>rfl
 rw[e2,q8 (off:=201) rfl rfl (by decide),I9 (off:=0) rfl (by decide)]
 rfl
theorem zC (ok:Nat→Prop) (w:World) (log:List UInt8):kS ok w (dmv (.string (str log))) false dP log none:=
  ⟨(lG ok w).same fun j hj=>by
    show dmv _ j=zv j
    unfold dmv eH zmv
    rw[if_neg (by omega),if_neg (by omega),if_pos hj],rfl,rfl,rfl,rfl⟩
theorem J6 {ok:Nat→Prop} {w:World} {nv:Nat→Value} {s:aA} (h:bG ok w nv s) (log:List UInt8):kS ok w (rmv (.string (str log)) nv) true s log none:=by
 have hi:∀j,j<201→rmv (.string (str log)) nv j=nv j:=fun j hj=>by
  have:=qB (cv:=eH zmv 201 (.string (str log))) (o:=0) (N:=201) (f:=nv) hj
  rw[Nat.zero_add] at this
  exact this
 have ho:∀j,201≤j→rmv (.string (str log)) nv j=eH zmv 201 (.string (str log)) j:=fun j hj=>oO (Or.inr (by omega))
 exact⟨h.same hi,by rw[ho 201 (by omega)];rfl,by rw[ho 202 (by omega)];rfl,by rw[ho 203 (by omega)];rfl,by rw[ho 204 (by omega)];rfl⟩
def L6 (B:Nat) (w:World) (v:Value) (r:kE):Prop:=∃x,v= .agg #[.int .i64 r.code,.int .i64 r.n,x]∧IsI (fun b=>B≤b∧cR w b) w x r.vals
def tM (w:World) (v:Value) (a:f7):Prop:=∃ad cap,v= .agg #[.int .i64 a.kind,.int .i64 a.n,.int .i64 a.m,.slice ad a.ops.length cap]∧bR w ad cap a.ops
theorem Tryz.infoReply3:(Tryz.prog.info? 33).map (·.size)=some 3:=by kernel_rfl
theorem fE (e:Int) (w:World):
  Calls Tryz.prog 27 #[.int .i64 e] w fun r w'=>r= .returned (.agg #[.int .i64 e,.int .i64 0,.slice none 0 0])∧Below w.heap.size w w':=by
 go_enter Tryz.func27,Tryz.ntmps27
 go_wp2
 exact bodyPost_ret (v:= .agg #[.int .i64 e,.int .i64 0,.slice none 0 0]) (results_cell_row Tryz.results27 _ _ w.heap.size 33 _ (0,0) _ rfl (aR _ _) Tryz.underlying33 rfl Tryz.infoReply3) rfl ⟨rfl,(Below.refl _ _).alloc (Nat.le_refl _) _⟩
def dD (n:Int):Bool:=decide (0≤n∧n<6)
theorem gT (n:Int) (w:World):
  Calls Tryz.prog 32 #[.int .i64 n] w fun e w'=>e= .returned (.bool (dD n))∧w'=w:=by
 by_cases h1:0≤n
 ·by_cases h2:n<6
  ·have E:Hid (dD n=true):=by unfold dD Hid;simp;omega
   have d1:decide (0≤n)=true:=by simpa using h1
   have d2:decide (n<6)=true:=by simpa using h2
   go_enter Tryz.func32,Tryz.ntmps32
   go_wp2
   go_ret
   exact⟨aF E.out.symm,rfl⟩
  ·have E:Hid (dD n=false):=by unfold dD Hid;simp;omega
   have d1:decide (0≤n)=true:=by simpa using h1
   have d2:decide (n<6)=false:=by simpa using h2
   go_enter Tryz.func32,Tryz.ntmps32
   go_wp2
   go_ret
   exact⟨aF E.out.symm,rfl⟩
 ·have E:Hid (dD n=false):=by unfold dD Hid;simp;omega
  have d1:decide (0≤n)=false:=by simpa using h1
  go_enter Tryz.func32,Tryz.ntmps32
  go_wp2
  go_ret
  exact⟨aF E.out.symm,rfl⟩
def j6 (n:Int):Bool:=decide (0≤n∧n≤400)
theorem k8 (n:Int) (w:World):
  Calls Tryz.prog 63 #[.int .i64 n] w fun e w'=>e= .returned (.bool (j6 n))∧w'=w:=by
 by_cases h1:0≤n
 ·by_cases h2:n≤400
  ·have E:Hid (j6 n=true):=by unfold j6 Hid;simp;omega
   have d1:decide (0≤n)=true:=by simpa using h1
   have d2:decide (n≤400)=true:=by simpa using h2
   go_enter Tryz.func63,Tryz.ntmps63
   go_wp2
   go_ret
   exact⟨aF E.out.symm,rfl⟩
  ·have E:Hid (j6 n=false):=by unfold j6 Hid;simp;omega
   have d1:decide (0≤n)=true:=by simpa using h1
   have d2:decide (n≤400)=false:=by simpa using h2
   go_enter Tryz.func63,Tryz.ntmps63
   go_wp2
   go_ret
   exact⟨aF E.out.symm,rfl⟩
 ·have E:Hid (j6 n=false):=by unfold j6 Hid;simp;omega
  have d1:decide (0≤n)=false:=by simpa using h1
  go_enter Tryz.func63,Tryz.ntmps63
  go_wp2
  go_ret
  exact⟨aF E.out.symm,rfl⟩
def fH (c:aK) (n:Int):Bool:=decide (0≤n∧n<c.cnt)
theorem nU {ok:Nat→Prop} {p:Nat} {cv:Nat→Value} {acts:Nat} {c:aK} (n:Int) (w:World) (h:aC ok w p cv acts c):
  Calls Tryz.prog 34 #[.pointer (some ⟨p,0,none⟩),.int .i64 n] w fun e w'=>e= .returned (.bool (fH c n))∧w'=w:=by
 have e1:w.cell? ⟨p,1,none⟩=some (.int .i64 c.cnt):=by rw[h.cell (by omega),h.clu.cnt]
 clear h
 by_cases h1:0≤n
 ·by_cases h2:n<c.cnt
  ·have E:Hid (fH c n=true):=by unfold fH Hid;simp;omega
   have d1:decide (0≤n)=true:=by simpa using h1
   have d2:decide (n<c.cnt)=true:=by simpa using h2
   go_enter Tryz.func34,Tryz.ntmps34
   go_wp2
   go_ret
   exact⟨aF E.out.symm,rfl⟩
  ·have E:Hid (fH c n=false):=by unfold fH Hid;simp;omega
   have d1:decide (0≤n)=true:=by simpa using h1
   have d2:decide (n<c.cnt)=false:=by simpa using h2
   go_enter Tryz.func34,Tryz.ntmps34
   go_wp2
   go_ret
   exact⟨aF E.out.symm,rfl⟩
 ·have E:Hid (fH c n=false):=by unfold fH Hid;simp;omega
  have d1:decide (0≤n)=false:=by simpa using h1
  go_enter Tryz.func34,Tryz.ntmps34
  go_wp2
  go_ret
  exact⟨aF E.out.symm,rfl⟩
theorem EA (w:World):
  Calls Tryz.prog 7 #[] w fun e w'=>e= .returned (.pointer (some ⟨w.heap.size,0,none⟩))∧w'.heap[w.heap.size]? =some (.cells (aB 2001 l0) 78 (0,0))∧Below w.heap.size w w':=by
 obtain⟨zr,hzr⟩:=zNm (aB 2001 l0)
 have HZ:Hid (Tryz.zeroCells78=zr):=by unfold Hid;rw[hzr];exact Tryz.zcClu
 rw[←hzr]
 have hx:Below w.heap.size w (w.alloc (.cells zr 78)):=(Below.refl _ _).alloc (Nat.le_refl _) _
 clear hzr
 go_enter Tryz.func7,Tryz.ntmps7
 go_wp2_with fail
 rw[HZ.out]
 go_ret
 exact⟨rfl,aR _ _,hx⟩
def bF (zs:List (List UInt8)):List Value:=zs.map fun z=>Value.string (str z)
theorem wP (zs:List (List UInt8)) (z:List UInt8):bF (zs++[z])=bF zs++[.string (str z)]:=by simp[bF]
theorem nP (zs:List (List UInt8)):∀u∈bF zs,u.oneCell'=true:=by
 intro u hu
 obtain⟨n,_,rfl⟩:=List.mem_map.1 hu
 rfl
def CZ (w:World) (a:Option Addr) (cap:Nat) (zs:List (List UInt8)):Prop:=jX (· <w.heap.size) w a zs∧zs.length≤maxLen∧zs.length≤cap∧(a=none→zs.length=0∧cap=0)
theorem IsT.sl {ok:Nat→Prop} {w:World} {v:Value} {zs:List (List UInt8)} (h:IsT ok w v zs):∃a cap,v= .slice a zs.length cap∧CZ w a cap zs:=by
 obtain⟨a,cap,h1,h2,h3,h4,h5⟩:=h
 exact⟨a,cap,h1,h2.mono fun _ h _=>h,by unfold maxLen;omega,h4,h5⟩
def L4 (w w':World) (v:Value) (zs:List (List UInt8)):Prop:=w'.ownsRow w.heap.size 9 1 v zs.length (bF zs)∧(zs.length=0→∃a,v= .slice a 0 0)∧Below w.heap.size w w'
theorem jX.news {w w1:World} {ad:Addr} {zs:List (List UInt8)} (h:jX (· <w.heap.size) w (some ad) zs) (hb:Below w.heap.size w w1):∀j u,(bF zs)[j]? =some u→w1.cell? (ad.add j)=some u:=by
 intro j u hu
 rcases h with rfl | ⟨b,off,hb',hlt,hc⟩
 ·simp[bF] at hu
 ·obtain rfl:ad=⟨b,off,none⟩:=by simpa using hb'
  have hj:j<zs.length:=by
   obtain⟨hj,_⟩:=List.getElem?_eq_some_iff.1 hu
   simpa [bF] using hj
  rw[iX,hb.cell (p:=⟨b,off+j,none⟩) hlt,hc j hj]
  simp[bF,hj] at hu
  simp[List.getD,hj,hu]
theorem IsT.of_owns {w:World} {base:Nat} {e:TypeId} {v:Value} {zs:List (List UInt8)} (h:w.ownsRow base e 1 v zs.length (bF zs)) (hl:zs.length*16≤140737488355328):IsT (base≤·) w v zs:=by
 rcases h.2 with ⟨rfl,hn⟩ | ⟨g,cap,cur,rfl,hg,hh,hc,hm,hcur,hx⟩
 ·exact⟨none,0,by rw[hn],Or.inl (List.eq_nil_of_length_eq_zero hn),hl,by omega,fun _=>⟨hn,rfl⟩⟩
 ·refine⟨some ⟨g,0,none⟩,cap,rfl,Or.inr ⟨g,0,rfl,hg,fun i hi=>?_⟩,hl,hc,fun e=>by cases e⟩
  rw[cell_of_row w g (0+i) cur e _ hh]
  have h1:(cur.toList.take (zs.length*1))[i]? =(bF zs)[i]? :=by rw[hx]
  rw[List.getElem?_take_of_lt (by omega)] at h1
  simp only[Array.getElem?_toList] at h1
  rw[Nat.zero_add,h1]
  simp[bF,List.getD,hi]
theorem IsT.softly {ok:Nat→Prop} {w:World} {v:Value} {zs:List (List UInt8)} (h:IsT ok w v zs) (hs:fB w v):IsT (fun b=>ok b∧cR w b) w v zs:=by
 obtain⟨a,cap,rfl,h2,h3⟩:=h
 refine⟨a,cap,rfl,?_,h3⟩
 rcases h2 with h2 | ⟨b,off,rfl,hb,hc⟩
 ·exact Or.inl h2
 ·exact Or.inr ⟨b,off,rfl,⟨hb,hs b rfl⟩,hc⟩
theorem uK (a:Option Addr) (cap:Nat) (zs:List (List UInt8)) (w:World) (h:CZ w a cap zs) (hl:zs.length*16≤140737488355328):
  Calls Tryz.prog 37 #[.slice a zs.length cap] w fun e w'=>∃v,e= .returned v∧L4 w w' v zs:=by
 obtain⟨i0,hi,hz0,hz1,hz2⟩:=info_parts Tryz.infoText
 have he:=fun w=>Go.Lib.run_eql_slice_nil (P:=Tryz.prog) w 53 9 a zs.length cap 0 0 Tryz.underlying53
 cases a with
 | none=>
  obtain⟨h1,rfl⟩:=h.2.2.2 rfl
  obtain rfl:=List.eq_nil_of_length_eq_zero h1
  simp only[Option.isNone_none,List.length_nil] at he
  go_enter Tryz.func37,Tryz.ntmps37
  go_wp2
  go_ret
  exact⟨_,rfl,World.ownsRow_nil _ _ _ _,fun _=>⟨_,rfl⟩,Below.refl _ _⟩
 | some ad=>
  simp only[Option.isNone_some] at he
  obtain⟨hz,hm,hc,_⟩:=h
  have HB:Hid (Below w.heap.size w (w.alloc (.cells #[] 9))):=(Below.refl _ _).alloc (Nat.le_refl _) _
  have HZ:Hid (jX (· <w.heap.size) w (some ad) zs):=hz
  clear hz
  by_cases h0:zs.length=0
  ·obtain rfl:=List.eq_nil_of_length_eq_zero h0
   simp only[List.length_nil] at he
   go_enter Tryz.func37,Tryz.ntmps37
   go_wp2_with (first
    | (at_builtin;refine wpList_append_fits_any _ rfl _ _ 53 rfl w.heap.size 9 i0 1 Tryz.underlying53 hi hz1 w.heap.size 0 0 [] rfl (World.ownsRow_made (e:=9) (size:=1) w #[] 0 (Nat.le_refl _) (by decide) rfl) (some ad) 0 cap [] rfl rfl (fun h=>by cases h) (fun _ _ j u hj=>by simp at hj) (by simp) (Nat.le_refl _) ?_;intro w2 hown hg)
    | go_in)
   go_wp2
   go_ret
   exact⟨_,rfl,hown,fun _=>⟨_,rfl⟩,HB.out.grown hg (by rw[size_push];omega) (by intro k hk;cases hk;exact Nat.le_refl _)⟩
  ·go_enter Tryz.func37,Tryz.ntmps37
   go_wp2_with (first
    | (at_builtin;refine wpList_append_own _ rfl _ _ 53 rfl w.heap.size 9 i0 (.string ⟨#[]⟩) 1 16 Tryz.underlying53 hi hz0 hz1 hz2 rfl (by decide) _ _ _ rfl (World.ownsRow_made (e:=9) (size:=1) w #[] 0 (Nat.le_refl _) (by decide) rfl) ad zs.length cap (bF zs) rfl ?c1 ?c2 ?c3 ?c4 ?c5 ?c6 ?_)
    | go_in)
   case c1=>simp[bF]
   case c2=>exact HZ.out.news HB.out
   case c3=>exact nP zs
   case c4=>unfold maxLen;omega
   case c5=>omega
   case c6=>rw[size_push];omega
   ·intro v' w2 hown hg _
    go_wp2
    go_ret
    refine⟨_,rfl,?_,fun h=>absurd h h0,HB.out.grown hg (by rw[size_push];omega) (by intro k hk;cases hk;exact Nat.le_refl _)⟩
    simpa using hown
def jE (w:World) (b m:Nat):Prop:=∃cs t,w.heap[b]? =some (.cells cs t (0,0))∧m≤cs.size
def Rm (w w':World):Prop:=∀b m,jE w b m→jE w' b m
theorem Rm.refl (w:World):Rm w w:=fun _ _ h=>h
theorem Rm.trans {w w1 w2:World} (h:Rm w w1) (k:Rm w1 w2):Rm w w2:=fun b m hr=>k b m (h b m hr)
theorem jE.lt {w:World} {b m:Nat} (h:jE w b m):b<w.heap.size:=by
 obtain⟨cs,t,e,_⟩:=h
 exact (Array.getElem?_eq_some_iff.1 e).1
theorem Rm.below {w w':World} (hb:Below w.heap.size w w'):Rm w w':=fun b m h=>by
 have hl:=h.lt
 obtain⟨cs,t,e,hm⟩:=h
 exact⟨cs,t,by rw[hb.block b hl];exact e,hm⟩
theorem Rm.setCell (w:World) (g o:Nat) (v:Value):Rm w (w.setCell ⟨g,o,none⟩ v):=fun b m h=>by
 obtain⟨cs,t,e,hm⟩:=h
 by_cases hb:b=g
 ·subst hb
  exact⟨_,t,heap_setCell_same w b o _ _ _ e,by simpa using hm⟩
 ·exact⟨cs,t,by rw[Below.heap_setCell _ _ _ _ hb];exact e,hm⟩
theorem jE.cell {w:World} {b m:Nat} (h:jE w b m) {o:Nat} (ho:o<m):∃v,w.cell? ⟨b,o,none⟩=some v:=by
 obtain⟨cs,t,e,hm⟩:=h
 exact⟨cs[o]'(by omega),by rw[cell_of_row _ _ _ _ _ _ e];simp⟩
theorem jE.frozen {w:World} {b m:Nat} (h:jE w b m) (o:Nat):w.frozen? ⟨b,o,none⟩=false:=by
 obtain⟨cs,t,e,hm⟩:=h
 exact frozen_of_row _ _ _ _ _ e
theorem jE.of_cell {w:World} {b o:Nat} {v:Value} (hs:cR w b) (h:w.cell? ⟨b,o,none⟩=some v):jE w b (o+1):=by
 obtain⟨cs,t,e⟩:=hs
 rw[cell_of_row _ _ _ _ _ _ e] at h
 exact⟨cs,t,e,(Array.getElem?_eq_some_iff.1 h).1⟩
def Spo (lo hi:Nat) (w:World) (a:Option Addr) (n:Nat):Prop:=n=0∨∃b off,a=some ⟨b,off,none⟩∧lo≤b∧b<hi∧jE w b (off+n)
theorem Spo.later {lo hi:Nat} {w w':World} {a:Option Addr} {n:Nat} (h:Spo lo hi w a n) (hr:Rm w w'):Spo lo hi w' a n:=by
 rcases h with h | ⟨b,off,h1,h2,h3,h4⟩
 ·exact Or.inl h
 ·exact Or.inr ⟨b,off,h1,h2,h3,hr _ _ h4⟩
theorem IsI.spo {lo:Nat} {w:World} {a:Option Addr} {cap:Nat} {zs:List Int} (h:IsI (fun b=>lo≤b∧cR w b) w (.slice a zs.length cap) zs):Spo lo w.heap.size w a zs.length:=by
 obtain⟨a',c',e,hz,_⟩:=h
 cases e
 by_cases h0:zs.length=0
 ·exact Or.inl h0
 rcases hz with rfl | ⟨b,off,h1,h2,h3⟩
 ·exact absurd rfl h0
 ·have:=jE.of_cell h2.2 (h3 (zs.length-1) (by omega))
  rw[show off+(zs.length-1)+1=off+zs.length by omega] at this
  exact Or.inr ⟨b,off,h1,h2.1,h2.2.lt,this⟩
theorem IsO.spo {lo:Nat} {w:World} {a:Option Addr} {cap:Nat} {zs:List OpL} (h:IsO (fun b=>lo≤b∧cR w b) w (.slice a zs.length cap) zs):Spo lo w.heap.size w a (zs.length*3):=by
 obtain⟨a',c',e,hz,_⟩:=h
 cases e
 by_cases h0:zs.length=0
 ·exact Or.inl (by omega)
 rcases hz with rfl | ⟨b,off,h1,h2,h3⟩
 ·exact absurd rfl h0
 ·have:=jE.of_cell h2.2 (h3 (zs.length-1) (by omega)).2.2
  rw[show off+(zs.length-1)*3+2+1=off+zs.length*3 by omega] at this
  exact Or.inr ⟨b,off,h1,h2.1,h2.2.lt,this⟩
theorem IsT.spo {lo:Nat} {w:World} {a:Option Addr} {cap:Nat} {zs:List (List UInt8)} (h:IsT (fun b=>lo≤b∧cR w b) w (.slice a zs.length cap) zs):Spo lo w.heap.size w a zs.length:=by
 obtain⟨a',c',e,hz,_⟩:=h
 cases e
 by_cases h0:zs.length=0
 ·exact Or.inl h0
 rcases hz with rfl | ⟨b,off,h1,h2,h3⟩
 ·exact absurd rfl h0
 ·have:=jE.of_cell h2.2 (h3 (zs.length-1) (by omega))
  rw[show off+(zs.length-1)+1=off+zs.length by omega] at this
  exact Or.inr ⟨b,off,h1,h2.1,h2.2.lt,this⟩
structure gF (lo hi:Nat) (w w':World):Prop where
 os:w'.os=w.os
 tape:w'.tape=w.tape
 output:w'.output=w.output
 size:w'.heap.size=w.heap.size
 rm:Rm w w'
 block:∀b,¬ (lo≤b∧b<hi)→w'.heap[b]? =w.heap[b]?
theorem gF.refl (lo hi:Nat) (w:World):gF lo hi w w:=⟨rfl,rfl,rfl,rfl,Rm.refl _,fun _ _=>rfl⟩
theorem gF.setCell {lo hi:Nat} {w w1:World} (h:gF lo hi w w1) {g:Nat} (h1:lo≤g) (h2:g<hi) (o:Nat) (v:Value):gF lo hi w (w1.setCell ⟨g,o,none⟩ v):=
 ⟨h.os,h.tape,h.output,by rw[←h.size];simp[World.setCell],h.rm.trans (Rm.setCell _ _ _ _),fun b hb=>by rw[Below.heap_setCell _ _ _ _ (fun e=>hb (by have e:b=g:=e;omega))];exact h.block b hb⟩
theorem gF.grown {lo hi:Nat} {w w1 w2:World} {row:Option Nat} (h:w.grownBy w1 row) (k:gF lo hi w1 w2) (hl:w.heap.size≤lo):w.grownBy w2 row:=
 ⟨k.os.trans h.os,k.tape.trans h.tape,k.output.trans h.output,by rw[k.size];exact h.size,fun b hb hr=>by rw[k.block b (by omega)];exact h.block b hb hr⟩
theorem gF.one {g:Nat} {w w1:World} (k:gF g (g+1) w w1):w.grownBy w1 (some g):=
 ⟨k.os,k.tape,k.output,by rw[k.size];exact Nat.le_refl _,fun b hb hr=>k.block b (fun h=>hr (by congr 1;omega))⟩
theorem lD {lo hi:Nat} (a:Option Addr) (n cap:Nat) (w:World) (hn:n≤maxLen) (h:Spo lo hi w a n):
  Calls Tryz.prog 12 #[.slice a n cap] w fun e w'=>e= .returned (.tuple #[])∧gF lo hi w w':=by
 unfold maxLen at hn
 rcases h with rfl | ⟨b,off,rfl,h1,h2,h3⟩
 ·go_enter Tryz.func12,Tryz.ntmps12
  go_wp2
  refine wp_loop_rounds 1 ?_;rw[rounds_succ]
  go_wp2
  go_end0
  exact⟨rfl,gF.refl _ _ _⟩
 ·have HR:Hid (jE w b (off+n)):=h3
  clear h3
  go_enter Tryz.func12,Tryz.ntmps12
  go_wp2
  go_loopw [5] (fun z wr=>∃j:Nat,j≤n∧z= .int .i64 j∧Hid (gF lo hi w wr)) (fun z _=>n-(intOf z).toNat)
  case atStart=>exact⟨0,Nat.zero_le _,rfl,gF.refl _ _ _⟩
  case round=>
   obtain⟨j,hj,rfl,HS⟩:=hrel
   by_cases hjl:j<n
   ·have hj1:(j:Int)<(n:Int):=by omega
    obtain⟨v,ev⟩:=(HS.out.rm _ _ HR.out).cell (o:=off+j) (by omega)
    have ef:=(HS.out.rm _ _ HR.out).frozen (off+j)
    have HN:Hid (gF lo hi w (wr.setCell ⟨b,off+j,none⟩ (.int .i64 (-7)))):=HS.out.setCell h1 h2 _ _
    go_wp2
    go_roundw
    case rel=>exact⟨j+1,by omega,by go_num,HN⟩
    case measure=>simp[intOf];omega
   ·have hno:¬ (j:Int)<(n:Int):=by omega
    go_wp2
    go_end0
    exact⟨rfl,HS.out⟩
def eE (c:aE):Bool:=!c.fixed && (decide (c.ops.length+c.deps.length=0) && (dG 6 c.told (fun _=>false) && (dG 6 c.known (fun _=>false) && (dG 4 c.has (fun _=>false) && qH 4 c.vals (fun _=>0)))))
theorem JG (gr:Array Value) (c:aE) (w:World) (h:cM w gr c) (tf:c.fixed=true):
  Calls Tryz.prog 142 #[.agg gr] w fun e w'=>e= .returned (.bool (eE c))∧Below w.heap.size w w':=by
 have HE:Hid (eE c=false):=by unfold Hid eE;simp[tf]
 have Htf:Hid (c.fixed=true):=tf
 clear tf
 obtain⟨zr,hzr⟩:=zNm (aB 24 zcv)
 obtain⟨W,hW⟩:=zNm ((w.alloc (.cells gr 51)).alloc (.cells zr 51))
 have hb:=zB2 hW
 have hB1:aZ w.heap.size W gr c:=by rw[hW];exact (aZ.new h).later ((Below.refl _ _).alloc (Nat.le_refl _) _)
 have hB2:aZ (w.heap.size+1) W zr cA:=by
  rw[hW,←size_push w (.cells gr 51),hzr]
  exact aZ.new (jN _)
 have HW:Hid (W=(w.alloc (.cells gr 51)).alloc (.cells zr 51)):=hW
 have HB1:=hI9 hB1
 have HB2:=hI9 hB2
 have HZR:Hid (zr=aB 24 zcv):=hzr
 clear hW hB1 hB2 hzr h
 go_enter Tryz.func142,Tryz.ntmps142
 go_upto_region 2 with fail
 rw[←nC,←HZR.out,←HW.out]
 clear HW HZR
 have q1:=HB1.out.fixed
 obtain⟨a2,c2,q2,hs2,hl2⟩:=HB1.out.ops
 obtain⟨a5,c5,q5,hs5,hl5⟩:=HB1.out.deps
 obtain⟨A1,hA1⟩:∃A,A=aG 6 c.told:=⟨_,rfl⟩
 obtain⟨A2,hA2⟩:∃A,A=aG 6 c.known:=⟨_,rfl⟩
 obtain⟨A3,hA3⟩:∃A,A=aG 4 c.has:=⟨_,rfl⟩
 obtain⟨A4,hA4⟩:∃A,A=aB 4 fun i=>Value.int .i64 (c.vals i):=⟨_,rfl⟩
 obtain⟨Z6,hZ6⟩:∃A,A=aG 6 fun _=>false:=⟨_,rfl⟩
 obtain⟨Z4,hZ4⟩:∃A,A=aG 4 fun _=>false:=⟨_,rfl⟩
 obtain⟨ZI,hZI⟩:∃A,A=aB 4 fun _=>Value.int .i64 0:=⟨_,rfl⟩
 have rA1:=HB1.out.rTold
 have rA2:=HB1.out.rKnown
 have rA3:=HB1.out.rHas
 have rA4:=HB1.out.rVals
 have rZ1:W.rangeAt (w.heap.size+1) 3 (aG 6 fun _=>false).toList:=HB2.out.rTold
 have rZ2:W.rangeAt (w.heap.size+1) 9 (aG 6 fun _=>false).toList:=HB2.out.rKnown
 have rZ3:W.rangeAt (w.heap.size+1) 16 (aG 4 fun _=>false).toList:=HB2.out.rHas
 have rZ4:W.rangeAt (w.heap.size+1) 20 (aB 4 fun _=>Value.int .i64 0).toList:=HB2.out.rVals
 have zA1:=eP (c.told)
 have zA2:=eP (c.known)
 have zA3:=gU (c.has)
 have zA4:=fW (c.vals)
 have zZ6:=eP (fun _=>false)
 have zZ4:=gU (fun _=>false)
 have zZI:=fW (fun _=>0)
 have e1:=fun w=>bL 9998 Tryz.underlying47 Tryz.underlying4 Tryz.infoBool c.told (fun _=>false) w
 have e2:=fun w=>bL 9998 Tryz.underlying47 Tryz.underlying4 Tryz.infoBool c.known (fun _=>false) w
 have e3:=fun w=>bL 9998 Tryz.underlying48 Tryz.underlying4 Tryz.infoBool c.has (fun _=>false) w
 have e4:=fun w=>fR 9998 Tryz.underlying49 Tryz.underlying3 Tryz.infoInt1 c.vals (fun _=>0) w
 have g6:=Tryz.sixGuard
 have g4:=Tryz.fourGuard
 have gI:=Tryz.fourIGuard
 rw[←hA1] at rA1 zA1 e1
 rw[←hA2] at rA2 zA2 e2
 rw[←hA3] at rA3 zA3 e3
 rw[←hA4] at rA4 zA4 e4
 rw[←hZ6] at rZ1 rZ2 zZ6 e1 e2
 rw[←hZ4] at rZ3 zZ4 e3
 rw[←hZI] at rZ4 zZI e4
 clear hA1 hA2 hA3 hA4 hZ6 hZ4 hZI HB1 HB2 hs2 hs5
 rw[Htf.out] at q1
 clear rA1 rZ1 zA1 e1 rA2 rZ2 zA2 e2 zZ6 g6 rA3 rZ3 zA3 zZ4 e3 g4 rA4 rZ4 zA4 zZI e4 gI
 go_wp2_with fail
 go_ret
 exact⟨aF HE.out.symm,hb⟩
theorem JH (gr:Array Value) (c:aE) (w:World) (h:cM w gr c) (tf:c.fixed=false) (hl:¬ c.ops.length+c.deps.length=0):
  Calls Tryz.prog 142 #[.agg gr] w fun e w'=>e= .returned (.bool (eE c))∧Below w.heap.size w w':=by
 have HE:Hid (eE c=false):=by unfold Hid eE;rw[tf,decide_eq_false hl];rfl
 have Htf:Hid (c.fixed=false):=tf
 have Hhl:Hid (¬ c.ops.length+c.deps.length=0):=hl
 clear tf hl
 obtain⟨zr,hzr⟩:=zNm (aB 24 zcv)
 obtain⟨W,hW⟩:=zNm ((w.alloc (.cells gr 51)).alloc (.cells zr 51))
 have hb:=zB2 hW
 have hB1:aZ w.heap.size W gr c:=by rw[hW];exact (aZ.new h).later ((Below.refl _ _).alloc (Nat.le_refl _) _)
 have hB2:aZ (w.heap.size+1) W zr cA:=by
  rw[hW,←size_push w (.cells gr 51),hzr]
  exact aZ.new (jN _)
 have HW:Hid (W=(w.alloc (.cells gr 51)).alloc (.cells zr 51)):=hW
 have HB1:=hI9 hB1
 have HB2:=hI9 hB2
 have HZR:Hid (zr=aB 24 zcv):=hzr
 clear hW hB1 hB2 hzr h
 go_enter Tryz.func142,Tryz.ntmps142
 go_upto_region 2 with fail
 rw[←nC,←HZR.out,←HW.out]
 clear HW HZR
 have q1:=HB1.out.fixed
 obtain⟨a2,c2,q2,hs2,hl2⟩:=HB1.out.ops
 obtain⟨a5,c5,q5,hs5,hl5⟩:=HB1.out.deps
 obtain⟨A1,hA1⟩:∃A,A=aG 6 c.told:=⟨_,rfl⟩
 obtain⟨A2,hA2⟩:∃A,A=aG 6 c.known:=⟨_,rfl⟩
 obtain⟨A3,hA3⟩:∃A,A=aG 4 c.has:=⟨_,rfl⟩
 obtain⟨A4,hA4⟩:∃A,A=aB 4 fun i=>Value.int .i64 (c.vals i):=⟨_,rfl⟩
 obtain⟨Z6,hZ6⟩:∃A,A=aG 6 fun _=>false:=⟨_,rfl⟩
 obtain⟨Z4,hZ4⟩:∃A,A=aG 4 fun _=>false:=⟨_,rfl⟩
 obtain⟨ZI,hZI⟩:∃A,A=aB 4 fun _=>Value.int .i64 0:=⟨_,rfl⟩
 have rA1:=HB1.out.rTold
 have rA2:=HB1.out.rKnown
 have rA3:=HB1.out.rHas
 have rA4:=HB1.out.rVals
 have rZ1:W.rangeAt (w.heap.size+1) 3 (aG 6 fun _=>false).toList:=HB2.out.rTold
 have rZ2:W.rangeAt (w.heap.size+1) 9 (aG 6 fun _=>false).toList:=HB2.out.rKnown
 have rZ3:W.rangeAt (w.heap.size+1) 16 (aG 4 fun _=>false).toList:=HB2.out.rHas
 have rZ4:W.rangeAt (w.heap.size+1) 20 (aB 4 fun _=>Value.int .i64 0).toList:=HB2.out.rVals
 have zA1:=eP (c.told)
 have zA2:=eP (c.known)
 have zA3:=gU (c.has)
 have zA4:=fW (c.vals)
 have zZ6:=eP (fun _=>false)
 have zZ4:=gU (fun _=>false)
 have zZI:=fW (fun _=>0)
 have e1:=fun w=>bL 9998 Tryz.underlying47 Tryz.underlying4 Tryz.infoBool c.told (fun _=>false) w
 have e2:=fun w=>bL 9998 Tryz.underlying47 Tryz.underlying4 Tryz.infoBool c.known (fun _=>false) w
 have e3:=fun w=>bL 9998 Tryz.underlying48 Tryz.underlying4 Tryz.infoBool c.has (fun _=>false) w
 have e4:=fun w=>fR 9998 Tryz.underlying49 Tryz.underlying3 Tryz.infoInt1 c.vals (fun _=>0) w
 have g6:=Tryz.sixGuard
 have g4:=Tryz.fourGuard
 have gI:=Tryz.fourIGuard
 rw[←hA1] at rA1 zA1 e1
 rw[←hA2] at rA2 zA2 e2
 rw[←hA3] at rA3 zA3 e3
 rw[←hA4] at rA4 zA4 e4
 rw[←hZ6] at rZ1 rZ2 zZ6 e1 e2
 rw[←hZ4] at rZ3 zZ4 e3
 rw[←hZI] at rZ4 zZI e4
 clear hA1 hA2 hA3 hA4 hZ6 hZ4 hZI HB1 HB2 hs2 hs5
 rw[Htf.out] at q1
 have hsum:IntKind.i64.wrap ((c.ops.length:Int)+(c.deps.length:Int))=(c.ops.length:Int)+(c.deps.length:Int):=fG _ (by omega) (by omega)
 have d1:((c.ops.length:Int)+(c.deps.length:Int) == 0)=false:=by have:=Hhl.out;simp;omega
 clear rA1 rZ1 zA1 e1 rA2 rZ2 zA2 e2 zZ6 g6 rA3 rZ3 zA3 zZ4 e3 g4 rA4 rZ4 zA4 zZI e4 gI
 go_wp2_with fail
 go_ret
 exact⟨aF HE.out.symm,hb⟩
theorem JI (gr:Array Value) (c:aE) (w:World) (h:cM w gr c) (tf:c.fixed=false) (hl:c.ops.length+c.deps.length=0) (t1:dG 6 c.told (fun _=>false)=false):
  Calls Tryz.prog 142 #[.agg gr] w fun e w'=>e= .returned (.bool (eE c))∧Below w.heap.size w w':=by
 have HE:Hid (eE c=false):=by unfold Hid eE;rw[tf,decide_eq_true hl,t1];simp
 have Htf:Hid (c.fixed=false):=tf
 have Hhl:Hid (c.ops.length+c.deps.length=0):=hl
 have Ht1:Hid (dG 6 c.told (fun _=>false)=false):=t1
 clear tf hl t1
 obtain⟨zr,hzr⟩:=zNm (aB 24 zcv)
 obtain⟨W,hW⟩:=zNm ((w.alloc (.cells gr 51)).alloc (.cells zr 51))
 have hb:=zB2 hW
 have hB1:aZ w.heap.size W gr c:=by rw[hW];exact (aZ.new h).later ((Below.refl _ _).alloc (Nat.le_refl _) _)
 have hB2:aZ (w.heap.size+1) W zr cA:=by
  rw[hW,←size_push w (.cells gr 51),hzr]
  exact aZ.new (jN _)
 have HW:Hid (W=(w.alloc (.cells gr 51)).alloc (.cells zr 51)):=hW
 have HB1:=hI9 hB1
 have HB2:=hI9 hB2
 have HZR:Hid (zr=aB 24 zcv):=hzr
 clear hW hB1 hB2 hzr h
 go_enter Tryz.func142,Tryz.ntmps142
 go_upto_region 2 with fail
 rw[←nC,←HZR.out,←HW.out]
 clear HW HZR
 have q1:=HB1.out.fixed
 obtain⟨a2,c2,q2,hs2,hl2⟩:=HB1.out.ops
 obtain⟨a5,c5,q5,hs5,hl5⟩:=HB1.out.deps
 obtain⟨A1,hA1⟩:∃A,A=aG 6 c.told:=⟨_,rfl⟩
 obtain⟨A2,hA2⟩:∃A,A=aG 6 c.known:=⟨_,rfl⟩
 obtain⟨A3,hA3⟩:∃A,A=aG 4 c.has:=⟨_,rfl⟩
 obtain⟨A4,hA4⟩:∃A,A=aB 4 fun i=>Value.int .i64 (c.vals i):=⟨_,rfl⟩
 obtain⟨Z6,hZ6⟩:∃A,A=aG 6 fun _=>false:=⟨_,rfl⟩
 obtain⟨Z4,hZ4⟩:∃A,A=aG 4 fun _=>false:=⟨_,rfl⟩
 obtain⟨ZI,hZI⟩:∃A,A=aB 4 fun _=>Value.int .i64 0:=⟨_,rfl⟩
 have rA1:=HB1.out.rTold
 have rA2:=HB1.out.rKnown
 have rA3:=HB1.out.rHas
 have rA4:=HB1.out.rVals
 have rZ1:W.rangeAt (w.heap.size+1) 3 (aG 6 fun _=>false).toList:=HB2.out.rTold
 have rZ2:W.rangeAt (w.heap.size+1) 9 (aG 6 fun _=>false).toList:=HB2.out.rKnown
 have rZ3:W.rangeAt (w.heap.size+1) 16 (aG 4 fun _=>false).toList:=HB2.out.rHas
 have rZ4:W.rangeAt (w.heap.size+1) 20 (aB 4 fun _=>Value.int .i64 0).toList:=HB2.out.rVals
 have zA1:=eP (c.told)
 have zA2:=eP (c.known)
 have zA3:=gU (c.has)
 have zA4:=fW (c.vals)
 have zZ6:=eP (fun _=>false)
 have zZ4:=gU (fun _=>false)
 have zZI:=fW (fun _=>0)
 have e1:=fun w=>bL 9998 Tryz.underlying47 Tryz.underlying4 Tryz.infoBool c.told (fun _=>false) w
 have e2:=fun w=>bL 9998 Tryz.underlying47 Tryz.underlying4 Tryz.infoBool c.known (fun _=>false) w
 have e3:=fun w=>bL 9998 Tryz.underlying48 Tryz.underlying4 Tryz.infoBool c.has (fun _=>false) w
 have e4:=fun w=>fR 9998 Tryz.underlying49 Tryz.underlying3 Tryz.infoInt1 c.vals (fun _=>0) w
 have g6:=Tryz.sixGuard
 have g4:=Tryz.fourGuard
 have gI:=Tryz.fourIGuard
 rw[←hA1] at rA1 zA1 e1
 rw[←hA2] at rA2 zA2 e2
 rw[←hA3] at rA3 zA3 e3
 rw[←hA4] at rA4 zA4 e4
 rw[←hZ6] at rZ1 rZ2 zZ6 e1 e2
 rw[←hZ4] at rZ3 zZ4 e3
 rw[←hZI] at rZ4 zZI e4
 clear hA1 hA2 hA3 hA4 hZ6 hZ4 hZI HB1 HB2 hs2 hs5
 rw[Htf.out] at q1
 have hsum:IntKind.i64.wrap ((c.ops.length:Int)+(c.deps.length:Int))=(c.ops.length:Int)+(c.deps.length:Int):=fG _ (by omega) (by omega)
 have d1:((c.ops.length:Int)+(c.deps.length:Int) == 0)=true:=by have:=Hhl.out;simp;omega
 rw[Ht1.out] at e1
 clear rA2 rZ2 zA2 e2 rA3 rZ3 zA3 zZ4 e3 g4 rA4 rZ4 zA4 zZI e4 gI
 go_wp2_with (first
  | ((with_reducible apply c9 rA1);(· rfl);(· exact zA1);(· rfl);simp only[Act.put,sA,sZ,sS])
  | ((with_reducible apply c9 rZ1);(· rfl);(· exact zZ6);(· rfl);simp only[Act.put,sA,sZ,sS])
  | fail)
 go_ret
 exact⟨aF HE.out.symm,hb⟩
theorem JJ (gr:Array Value) (c:aE) (w:World) (h:cM w gr c) (tf:c.fixed=false) (hl:c.ops.length+c.deps.length=0) (t1:dG 6 c.told (fun _=>false)=true) (t2:dG 6 c.known (fun _=>false)=false):
  Calls Tryz.prog 142 #[.agg gr] w fun e w'=>e= .returned (.bool (eE c))∧Below w.heap.size w w':=by
 have HE:Hid (eE c=false):=by unfold Hid eE;rw[tf,decide_eq_true hl,t1,t2];simp
 have Htf:Hid (c.fixed=false):=tf
 have Hhl:Hid (c.ops.length+c.deps.length=0):=hl
 have Ht1:Hid (dG 6 c.told (fun _=>false)=true):=t1
 have Ht2:Hid (dG 6 c.known (fun _=>false)=false):=t2
 clear tf hl t1 t2
 obtain⟨zr,hzr⟩:=zNm (aB 24 zcv)
 obtain⟨W,hW⟩:=zNm ((w.alloc (.cells gr 51)).alloc (.cells zr 51))
 have hb:=zB2 hW
 have hB1:aZ w.heap.size W gr c:=by rw[hW];exact (aZ.new h).later ((Below.refl _ _).alloc (Nat.le_refl _) _)
 have hB2:aZ (w.heap.size+1) W zr cA:=by
  rw[hW,←size_push w (.cells gr 51),hzr]
  exact aZ.new (jN _)
 have HW:Hid (W=(w.alloc (.cells gr 51)).alloc (.cells zr 51)):=hW
 have HB1:=hI9 hB1
 have HB2:=hI9 hB2
 have HZR:Hid (zr=aB 24 zcv):=hzr
 clear hW hB1 hB2 hzr h
 go_enter Tryz.func142,Tryz.ntmps142
 go_upto_region 2 with fail
 rw[←nC,←HZR.out,←HW.out]
 clear HW HZR
 have q1:=HB1.out.fixed
 obtain⟨a2,c2,q2,hs2,hl2⟩:=HB1.out.ops
 obtain⟨a5,c5,q5,hs5,hl5⟩:=HB1.out.deps
 obtain⟨A1,hA1⟩:∃A,A=aG 6 c.told:=⟨_,rfl⟩
 obtain⟨A2,hA2⟩:∃A,A=aG 6 c.known:=⟨_,rfl⟩
 obtain⟨A3,hA3⟩:∃A,A=aG 4 c.has:=⟨_,rfl⟩
 obtain⟨A4,hA4⟩:∃A,A=aB 4 fun i=>Value.int .i64 (c.vals i):=⟨_,rfl⟩
 obtain⟨Z6,hZ6⟩:∃A,A=aG 6 fun _=>false:=⟨_,rfl⟩
 obtain⟨Z4,hZ4⟩:∃A,A=aG 4 fun _=>false:=⟨_,rfl⟩
 obtain⟨ZI,hZI⟩:∃A,A=aB 4 fun _=>Value.int .i64 0:=⟨_,rfl⟩
 have rA1:=HB1.out.rTold
 have rA2:=HB1.out.rKnown
 have rA3:=HB1.out.rHas
 have rA4:=HB1.out.rVals
 have rZ1:W.rangeAt (w.heap.size+1) 3 (aG 6 fun _=>false).toList:=HB2.out.rTold
 have rZ2:W.rangeAt (w.heap.size+1) 9 (aG 6 fun _=>false).toList:=HB2.out.rKnown
 have rZ3:W.rangeAt (w.heap.size+1) 16 (aG 4 fun _=>false).toList:=HB2.out.rHas
 have rZ4:W.rangeAt (w.heap.size+1) 20 (aB 4 fun _=>Value.int .i64 0).toList:=HB2.out.rVals
 have zA1:=eP (c.told)
 have zA2:=eP (c.known)
 have zA3:=gU (c.has)
 have zA4:=fW (c.vals)
 have zZ6:=eP (fun _=>false)
 have zZ4:=gU (fun _=>false)
 have zZI:=fW (fun _=>0)
 have e1:=fun w=>bL 9998 Tryz.underlying47 Tryz.underlying4 Tryz.infoBool c.told (fun _=>false) w
 have e2:=fun w=>bL 9998 Tryz.underlying47 Tryz.underlying4 Tryz.infoBool c.known (fun _=>false) w
 have e3:=fun w=>bL 9998 Tryz.underlying48 Tryz.underlying4 Tryz.infoBool c.has (fun _=>false) w
 have e4:=fun w=>fR 9998 Tryz.underlying49 Tryz.underlying3 Tryz.infoInt1 c.vals (fun _=>0) w
 have g6:=Tryz.sixGuard
 have g4:=Tryz.fourGuard
 have gI:=Tryz.fourIGuard
 rw[←hA1] at rA1 zA1 e1
 rw[←hA2] at rA2 zA2 e2
 rw[←hA3] at rA3 zA3 e3
 rw[←hA4] at rA4 zA4 e4
 rw[←hZ6] at rZ1 rZ2 zZ6 e1 e2
 rw[←hZ4] at rZ3 zZ4 e3
 rw[←hZI] at rZ4 zZI e4
 clear hA1 hA2 hA3 hA4 hZ6 hZ4 hZI HB1 HB2 hs2 hs5
 rw[Htf.out] at q1
 have hsum:IntKind.i64.wrap ((c.ops.length:Int)+(c.deps.length:Int))=(c.ops.length:Int)+(c.deps.length:Int):=fG _ (by omega) (by omega)
 have d1:((c.ops.length:Int)+(c.deps.length:Int) == 0)=true:=by have:=Hhl.out;simp;omega
 rw[Ht1.out] at e1
 rw[Ht2.out] at e2
 clear rA3 rZ3 zA3 zZ4 e3 g4 rA4 rZ4 zA4 zZI e4 gI
 go_wp2_with (first
  | ((with_reducible apply c9 rA1);(· rfl);(· exact zA1);(· rfl);simp only[Act.put,sA,sZ,sS])
  | ((with_reducible apply c9 rZ1);(· rfl);(· exact zZ6);(· rfl);simp only[Act.put,sA,sZ,sS])
  | ((with_reducible apply c9 rA2);(· rfl);(· exact zA2);(· rfl);simp only[Act.put,sA,sZ,sS])
  | ((with_reducible apply c9 rZ2);(· rfl);(· exact zZ6);(· rfl);simp only[Act.put,sA,sZ,sS])
  | fail)
 go_ret
 exact⟨aF HE.out.symm,hb⟩
theorem JK (gr:Array Value) (c:aE) (w:World) (h:cM w gr c) (tf:c.fixed=false) (hl:c.ops.length+c.deps.length=0) (t1:dG 6 c.told (fun _=>false)=true) (t2:dG 6 c.known (fun _=>false)=true) (t3:dG 4 c.has (fun _=>false)=false):
  Calls Tryz.prog 142 #[.agg gr] w fun e w'=>e= .returned (.bool (eE c))∧Below w.heap.size w w':=by
 have HE:Hid (eE c=false):=by unfold Hid eE;rw[tf,decide_eq_true hl,t1,t2,t3];simp
 have Htf:Hid (c.fixed=false):=tf
 have Hhl:Hid (c.ops.length+c.deps.length=0):=hl
 have Ht1:Hid (dG 6 c.told (fun _=>false)=true):=t1
 have Ht2:Hid (dG 6 c.known (fun _=>false)=true):=t2
 have Ht3:Hid (dG 4 c.has (fun _=>false)=false):=t3
 clear tf hl t1 t2 t3
 obtain⟨zr,hzr⟩:=zNm (aB 24 zcv)
 obtain⟨W,hW⟩:=zNm ((w.alloc (.cells gr 51)).alloc (.cells zr 51))
 have hb:=zB2 hW
 have hB1:aZ w.heap.size W gr c:=by rw[hW];exact (aZ.new h).later ((Below.refl _ _).alloc (Nat.le_refl _) _)
 have hB2:aZ (w.heap.size+1) W zr cA:=by
  rw[hW,←size_push w (.cells gr 51),hzr]
  exact aZ.new (jN _)
 have HW:Hid (W=(w.alloc (.cells gr 51)).alloc (.cells zr 51)):=hW
 have HB1:=hI9 hB1
 have HB2:=hI9 hB2
 have HZR:Hid (zr=aB 24 zcv):=hzr
 clear hW hB1 hB2 hzr h
 go_enter Tryz.func142,Tryz.ntmps142
 go_upto_region 2 with fail
 rw[←nC,←HZR.out,←HW.out]
 clear HW HZR
 have q1:=HB1.out.fixed
 obtain⟨a2,c2,q2,hs2,hl2⟩:=HB1.out.ops
 obtain⟨a5,c5,q5,hs5,hl5⟩:=HB1.out.deps
 obtain⟨A1,hA1⟩:∃A,A=aG 6 c.told:=⟨_,rfl⟩
 obtain⟨A2,hA2⟩:∃A,A=aG 6 c.known:=⟨_,rfl⟩
 obtain⟨A3,hA3⟩:∃A,A=aG 4 c.has:=⟨_,rfl⟩
 obtain⟨A4,hA4⟩:∃A,A=aB 4 fun i=>Value.int .i64 (c.vals i):=⟨_,rfl⟩
 obtain⟨Z6,hZ6⟩:∃A,A=aG 6 fun _=>false:=⟨_,rfl⟩
 obtain⟨Z4,hZ4⟩:∃A,A=aG 4 fun _=>false:=⟨_,rfl⟩
 obtain⟨ZI,hZI⟩:∃A,A=aB 4 fun _=>Value.int .i64 0:=⟨_,rfl⟩
 have rA1:=HB1.out.rTold
 have rA2:=HB1.out.rKnown
 have rA3:=HB1.out.rHas
 have rA4:=HB1.out.rVals
 have rZ1:W.rangeAt (w.heap.size+1) 3 (aG 6 fun _=>false).toList:=HB2.out.rTold
 have rZ2:W.rangeAt (w.heap.size+1) 9 (aG 6 fun _=>false).toList:=HB2.out.rKnown
 have rZ3:W.rangeAt (w.heap.size+1) 16 (aG 4 fun _=>false).toList:=HB2.out.rHas
 have rZ4:W.rangeAt (w.heap.size+1) 20 (aB 4 fun _=>Value.int .i64 0).toList:=HB2.out.rVals
 have zA1:=eP (c.told)
 have zA2:=eP (c.known)
 have zA3:=gU (c.has)
 have zA4:=fW (c.vals)
 have zZ6:=eP (fun _=>false)
 have zZ4:=gU (fun _=>false)
 have zZI:=fW (fun _=>0)
 have e1:=fun w=>bL 9998 Tryz.underlying47 Tryz.underlying4 Tryz.infoBool c.told (fun _=>false) w
 have e2:=fun w=>bL 9998 Tryz.underlying47 Tryz.underlying4 Tryz.infoBool c.known (fun _=>false) w
 have e3:=fun w=>bL 9998 Tryz.underlying48 Tryz.underlying4 Tryz.infoBool c.has (fun _=>false) w
 have e4:=fun w=>fR 9998 Tryz.underlying49 Tryz.underlying3 Tryz.infoInt1 c.vals (fun _=>0) w
 have g6:=Tryz.sixGuard
 have g4:=Tryz.fourGuard
 have gI:=Tryz.fourIGuard
 rw[←hA1] at rA1 zA1 e1
 rw[←hA2] at rA2 zA2 e2
 rw[←hA3] at rA3 zA3 e3
 rw[←hA4] at rA4 zA4 e4
 rw[←hZ6] at rZ1 rZ2 zZ6 e1 e2
 rw[←hZ4] at rZ3 zZ4 e3
 rw[←hZI] at rZ4 zZI e4
 clear hA1 hA2 hA3 hA4 hZ6 hZ4 hZI HB1 HB2 hs2 hs5
 rw[Htf.out] at q1
 have hsum:IntKind.i64.wrap ((c.ops.length:Int)+(c.deps.length:Int))=(c.ops.length:Int)+(c.deps.length:Int):=fG _ (by omega) (by omega)
 have d1:((c.ops.length:Int)+(c.deps.length:Int) == 0)=true:=by have:=Hhl.out;simp;omega
 rw[Ht1.out] at e1
 rw[Ht2.out] at e2
 rw[Ht3.out] at e3
 clear rA4 rZ4 zA4 zZI e4 gI
 go_wp2_with (first
  | ((with_reducible apply c9 rA1);(· rfl);(· exact zA1);(· rfl);simp only[Act.put,sA,sZ,sS])
  | ((with_reducible apply c9 rZ1);(· rfl);(· exact zZ6);(· rfl);simp only[Act.put,sA,sZ,sS])
  | ((with_reducible apply c9 rA2);(· rfl);(· exact zA2);(· rfl);simp only[Act.put,sA,sZ,sS])
  | ((with_reducible apply c9 rZ2);(· rfl);(· exact zZ6);(· rfl);simp only[Act.put,sA,sZ,sS])
  | ((with_reducible apply c9 rA3);(· rfl);(· exact zA3);(· rfl);simp only[Act.put,sA,sZ,sS])
  | ((with_reducible apply c9 rZ3);(· rfl);(· exact zZ4);(· rfl);simp only[Act.put,sA,sZ,sS])
  | fail)
 go_ret
 exact⟨aF HE.out.symm,hb⟩
theorem JL (gr:Array Value) (c:aE) (w:World) (h:cM w gr c) (tf:c.fixed=false) (hl:c.ops.length+c.deps.length=0) (t1:dG 6 c.told (fun _=>false)=true) (t2:dG 6 c.known (fun _=>false)=true) (t3:dG 4 c.has (fun _=>false)=true):
  Calls Tryz.prog 142 #[.agg gr] w fun e w'=>e= .returned (.bool (eE c))∧Below w.heap.size w w':=by
 have HE:Hid (eE c=qH 4 c.vals fun _=>0):=by unfold Hid eE;rw[tf,decide_eq_true hl,t1,t2,t3];simp
 have Htf:Hid (c.fixed=false):=tf
 have Hhl:Hid (c.ops.length+c.deps.length=0):=hl
 have Ht1:Hid (dG 6 c.told (fun _=>false)=true):=t1
 have Ht2:Hid (dG 6 c.known (fun _=>false)=true):=t2
 have Ht3:Hid (dG 4 c.has (fun _=>false)=true):=t3
 clear tf hl t1 t2 t3
 obtain⟨zr,hzr⟩:=zNm (aB 24 zcv)
 obtain⟨W,hW⟩:=zNm ((w.alloc (.cells gr 51)).alloc (.cells zr 51))
 have hb:=zB2 hW
 have hB1:aZ w.heap.size W gr c:=by rw[hW];exact (aZ.new h).later ((Below.refl _ _).alloc (Nat.le_refl _) _)
 have hB2:aZ (w.heap.size+1) W zr cA:=by
  rw[hW,←size_push w (.cells gr 51),hzr]
  exact aZ.new (jN _)
 have HW:Hid (W=(w.alloc (.cells gr 51)).alloc (.cells zr 51)):=hW
 have HB1:=hI9 hB1
 have HB2:=hI9 hB2
 have HZR:Hid (zr=aB 24 zcv):=hzr
 clear hW hB1 hB2 hzr h
 go_enter Tryz.func142,Tryz.ntmps142
 go_upto_region 2 with fail
 rw[←nC,←HZR.out,←HW.out]
 clear HW HZR
 have q1:=HB1.out.fixed
 obtain⟨a2,c2,q2,hs2,hl2⟩:=HB1.out.ops
 obtain⟨a5,c5,q5,hs5,hl5⟩:=HB1.out.deps
 obtain⟨A1,hA1⟩:∃A,A=aG 6 c.told:=⟨_,rfl⟩
 obtain⟨A2,hA2⟩:∃A,A=aG 6 c.known:=⟨_,rfl⟩
 obtain⟨A3,hA3⟩:∃A,A=aG 4 c.has:=⟨_,rfl⟩
 obtain⟨A4,hA4⟩:∃A,A=aB 4 fun i=>Value.int .i64 (c.vals i):=⟨_,rfl⟩
 obtain⟨Z6,hZ6⟩:∃A,A=aG 6 fun _=>false:=⟨_,rfl⟩
 obtain⟨Z4,hZ4⟩:∃A,A=aG 4 fun _=>false:=⟨_,rfl⟩
 obtain⟨ZI,hZI⟩:∃A,A=aB 4 fun _=>Value.int .i64 0:=⟨_,rfl⟩
 have rA1:=HB1.out.rTold
 have rA2:=HB1.out.rKnown
 have rA3:=HB1.out.rHas
 have rA4:=HB1.out.rVals
 have rZ1:W.rangeAt (w.heap.size+1) 3 (aG 6 fun _=>false).toList:=HB2.out.rTold
 have rZ2:W.rangeAt (w.heap.size+1) 9 (aG 6 fun _=>false).toList:=HB2.out.rKnown
 have rZ3:W.rangeAt (w.heap.size+1) 16 (aG 4 fun _=>false).toList:=HB2.out.rHas
 have rZ4:W.rangeAt (w.heap.size+1) 20 (aB 4 fun _=>Value.int .i64 0).toList:=HB2.out.rVals
 have zA1:=eP (c.told)
 have zA2:=eP (c.known)
 have zA3:=gU (c.has)
 have zA4:=fW (c.vals)
 have zZ6:=eP (fun _=>false)
 have zZ4:=gU (fun _=>false)
 have zZI:=fW (fun _=>0)
 have e1:=fun w=>bL 9998 Tryz.underlying47 Tryz.underlying4 Tryz.infoBool c.told (fun _=>false) w
 have e2:=fun w=>bL 9998 Tryz.underlying47 Tryz.underlying4 Tryz.infoBool c.known (fun _=>false) w
 have e3:=fun w=>bL 9998 Tryz.underlying48 Tryz.underlying4 Tryz.infoBool c.has (fun _=>false) w
 have e4:=fun w=>fR 9998 Tryz.underlying49 Tryz.underlying3 Tryz.infoInt1 c.vals (fun _=>0) w
 have g6:=Tryz.sixGuard
 have g4:=Tryz.fourGuard
 have gI:=Tryz.fourIGuard
 rw[←hA1] at rA1 zA1 e1
 rw[←hA2] at rA2 zA2 e2
 rw[←hA3] at rA3 zA3 e3
 rw[←hA4] at rA4 zA4 e4
 rw[←hZ6] at rZ1 rZ2 zZ6 e1 e2
 rw[←hZ4] at rZ3 zZ4 e3
 rw[←hZI] at rZ4 zZI e4
 clear hA1 hA2 hA3 hA4 hZ6 hZ4 hZI HB1 HB2 hs2 hs5
 rw[Htf.out] at q1
 have hsum:IntKind.i64.wrap ((c.ops.length:Int)+(c.deps.length:Int))=(c.ops.length:Int)+(c.deps.length:Int):=fG _ (by omega) (by omega)
 have d1:((c.ops.length:Int)+(c.deps.length:Int) == 0)=true:=by have:=Hhl.out;simp;omega
 rw[Ht1.out] at e1
 rw[Ht2.out] at e2
 rw[Ht3.out] at e3
 go_wp2_with (first
  | ((with_reducible apply c9 rA1);(· rfl);(· exact zA1);(· rfl);simp only[Act.put,sA,sZ,sS])
  | ((with_reducible apply c9 rZ1);(· rfl);(· exact zZ6);(· rfl);simp only[Act.put,sA,sZ,sS])
  | ((with_reducible apply c9 rA2);(· rfl);(· exact zA2);(· rfl);simp only[Act.put,sA,sZ,sS])
  | ((with_reducible apply c9 rZ2);(· rfl);(· exact zZ6);(· rfl);simp only[Act.put,sA,sZ,sS])
  | ((with_reducible apply c9 rA3);(· rfl);(· exact zA3);(· rfl);simp only[Act.put,sA,sZ,sS])
  | ((with_reducible apply c9 rZ3);(· rfl);(· exact zZ4);(· rfl);simp only[Act.put,sA,sZ,sS])
  | ((with_reducible apply c9 rA4);(· rfl);(· exact zA4);(· rfl);simp only[Act.put,sA,sZ,sS])
  | ((with_reducible apply c9 rZ4);(· rfl);(· exact zZI);(· rfl);simp only[Act.put,sA,sZ,sS])
  | fail)
 go_ret
 exact⟨aF HE.out.symm,hb⟩
theorem JV (gr:Array Value) (c:aE) (w:World) (h:cM w gr c):
  Calls Tryz.prog 142 #[.agg gr] w fun e w'=>e= .returned (.bool (eE c))∧Below w.heap.size w w':=by
 cases tf:c.fixed
 ·by_cases hl:c.ops.length+c.deps.length=0
  ·cases t1:dG 6 c.told fun _=>false
   ·exact JI gr c w h tf hl t1
   ·cases t2:dG 6 c.known fun _=>false
    ·exact JJ gr c w h tf hl t1 t2
    ·cases t3:dG 4 c.has fun _=>false
     ·exact JK gr c w h tf hl t1 t2 t3
     ·exact JL gr c w h tf hl t1 t2 t3
  ·exact JH gr c w h tf hl
 ·exact JG gr c w h tf
end Go.Proofs.YtkoefoccbjhoiadGreat
