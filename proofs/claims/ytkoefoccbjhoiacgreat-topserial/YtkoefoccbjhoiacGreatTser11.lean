/-
squeezed by tools/squeeze.py from: CluA CluJ CluK CluP CluQ CluF CluR CluB QMem NEq CEq PostM CBox QBase QClone CZero CGood
-/
import Derived.Test.YtkoefoccbjhoiacGreatTser10
import Derived.Test.YtkoefoccbjhoiacGreatTser5
import Derived.Test.YtkoefoccbjhoiacGreatTser4
import Derived.Test.YtkoefoccbjhoiacGreatTser2
import Derived.Test.YtkoefoccbjhoiacGreatTser6
import Derived.Test.YtkoefoccbjhoiacGreatTser3
set_option linter.unusedVariables false
set_option linter.unusedSimpArgs false
set_option maxRecDepth 100000
set_option maxHeartbeats 16000000
namespace Go.Proofs.YtkoefoccbjhoiacGreat
open Go.RowKit
structure iW where
 kind:Int
 n:Int
 m:Int
 ops:List OpL
structure kY where
 code:Int
 n:Int
 vals:List Int
def mT:Nat→List UInt8→List (List UInt8)
 | n+1,a::b::r=>if 0<a.toNat*256+b.toNat∧a.toNat*256+b.toNat≤400∧a.toNat*256+b.toNat≤r.length then r.take (a.toNat*256+b.toNat)::mT n (r.drop (a.toNat*256+b.toNat)) else []
 | _,_=>[]
theorem uL:∀(n:Nat) (l:List UInt8),l.length≤n→∃t,(∀s∈mT n l,iJ s)∧kB t∧l=cK (mT n l)++t
 | n,[],_=>⟨[],by cases n<;>simp[mT],vB (by simp),by cases n<;>simp[mT,nD]⟩
 | n,[a],_=>⟨[a],by cases n<;>simp[mT],vB (by simp),by cases n<;>simp[mT,nD]⟩
 | 0,a::b::r,h=>by simp at h
 | n+1,a::b::r,h=>by
  have h:r.length+1+1≤n+1:=h
  unfold mT
  split
  ·rename_i hc
   have hl:(r.take (a.toNat*256+b.toNat)).length=a.toNat*256+b.toNat:=by rw[List.length_take];omega
   obtain⟨t,h1,h2,h3⟩:=uL n (r.drop (a.toNat*256+b.toNat)) (by rw[List.length_drop];omega)
   refine⟨t,fun s hs=>?_,h2,?_⟩
   ·rcases List.mem_cons.1 hs with e | e
    ·rw[e];exact⟨by omega,by omega⟩
    ·exact h1 s e
   ·rw[lA,List.append_assoc,←h3]
    unfold rc
    rw[MP hl]
    simp
  ·rename_i hc
   refine⟨a::b::r,by simp,fun s t hs e=>?_,by rw[nD];rfl⟩
   obtain⟨a',b',e1,e2⟩:=pX s hs.2
   unfold rc at e
   rw[e1] at e
   simp only[List.cons_append,List.nil_append,List.cons.injEq] at e
   obtain⟨rfl,rfl,e⟩:=e
   have:=congrArg List.length e
   rw[List.length_append] at this
   exact hc ⟨by have:=hs.1;omega,by have:=hs.2;omega,by omega⟩
def sV (l:List UInt8):List (List UInt8):=mT l.length l
theorem pP (l:List UInt8):∃t,(∀s∈sV l,iJ s)∧kB t∧l=cK (sV l)++t:=uL l.length l (Nat.le_refl _)
def kK:aK:=⟨fun _=>true,fun _=>dR,fun _=>[],fun _=>none,fun _=>cB,0,[]⟩
def aK.bring (c:aK) (t:List UInt8):aK × kY:=
 if (eV t).kind=1∨(eV t).kind=3 then ((come c (eV t)).1,if (come c (eV t)).2=0 then ⟨0,(eV t).id,[]⟩ else ⟨(come c (eV t)).2,0,[]⟩)
 else ((c.answer (eV t)).1,if (c.answer (eV t)).2=0 then ⟨0,(eV t).id,(bN ((c.answer (eV t)).1.cs (eV t).id.toNat)).1⟩ else ⟨(c.answer (eV t)).2,0,[]⟩)
def aK.without (c:aK) (k:Nat):aK:={ c with net:=c.net.eraseIdx k }
def doA (c:aK) (a:iW):aK × kY:=
 if a.kind=1 then
  if 32≤c.cnt then (c,⟨5,0,[]⟩)
  else if (bF (c.cnt:Int) a.ops).2.2≠0 then (c,⟨(bF (c.cnt:Int) a.ops).2.2,0,[]⟩)
  else ({ c with cs:=upd c.cs c.cnt (bF (c.cnt:Int) a.ops).1,cnt:=c.cnt+1,net:=cH c.net (bF (c.cnt:Int) a.ops).2.1 },⟨0,(c.cnt:Int),[]⟩)
 else if a.kind=2∨a.kind=3∨a.kind=4 then
  if a.n<0∨(c.net.length:Int)≤a.n then (c,⟨4,0,[]⟩)
  else if a.kind=4 then (c.without a.n.toNat,⟨0,(eV (c.net.getD a.n.toNat [])).id,[]⟩)
  else if a.kind=2 then (c.without a.n.toNat).bring (c.net.getD a.n.toNat [])
  else c.bring (c.net.getD a.n.toNat [])
 else if a.kind=5 then
  if a.n<0∨(c.cnt:Int)≤a.n then (c,⟨4,0,[]⟩)
  else ({ c with net:=cH c.net (cR (c.cs a.n.toNat) (a.n.toNat:Int)) },⟨0,a.n,(bN (c.cs a.n.toNat)).1⟩)
 else if a.kind=6∨a.kind=7∨a.kind=8 then
  if a.n<0∨6≤a.n∨(a.kind=7∧(a.m<0∨400<a.m)) then (c,⟨2,0,[]⟩)
  else if a.kind=8 then if c.up a.n.toNat=true then (c,⟨6,0,[]⟩) else (c.rise a.n.toNat (sV (c.log a.n.toNat)),⟨0,0,[]⟩)
  else if c.up a.n.toNat=false then (c,⟨6,0,[]⟩)
  else if a.kind=6 then (c.crash a.n.toNat,⟨0,0,[]⟩) else (c.setTear a.n.toNat a.m,⟨0,0,[]⟩)
 else (c,⟨3,0,[]⟩)
theorem dC.start:dC kK ⟨fun _=>dR,fun _=>cB,fun _=>False⟩:=by
 refine⟨eX.start,j0.start,fun _ h=>h.elim,fun _ _=>J4,fun t ht=>?_,rfl,fun n _=>?_,by show 0≤32;omega,fun i _=>?_⟩
 ·have ht:t∈([]:List (List UInt8)):=ht
  simp at ht
 ·exact⟨[],[],rfl,by simp,sO,rfl,fun _=>⟨rfl,rfl⟩,fun e=>(by cases e)⟩
 ·exact⟨fun e=>(by cases e),fun e=>absurd e (Nat.not_lt_zero i)⟩
theorem dC.bring {c:aK} {S:Sys} (h:dC c S) {t:List UInt8} (ht:∃f,S.M f∧t=bU f):∃T,dC (c.bring t).1 T∧fY S T:=by
 obtain⟨f,hM,rfl⟩:=ht
 have e:eV (bU f)=f:=(mS (h.good f hM)).2
 unfold aK.bring
 rw[e]
 split
 ·rename_i hk
  exact h.come hM hk
 ·exact h.answer hM
theorem dC.act {c:aK} {S:Sys} (h:dC c S) (a:iW):∃T,dC (doA c a).1 T∧fY S T∧((doA c a).1.cnt≠c.cnt→(doA c a).1.cnt=c.cnt+1∧∀b,b<c.cnt→(bN (S.C b)).2=true→gB T c.cnt b):=by
 have same:∀d:aK,dC d S→d.cnt=c.cnt→∃T,dC d T∧fY S T∧(d.cnt≠c.cnt→d.cnt=c.cnt+1∧∀b,b<c.cnt→(bN (S.C b)).2=true→gB T c.cnt b):=
  fun d hd e=>⟨S,hd,fY.refl S,fun k=>absurd e k⟩
 have some_:∀d:aK,(∃T,dC d T∧fY S T)→d.cnt=c.cnt→∃T,dC d T∧fY S T∧(d.cnt≠c.cnt→d.cnt=c.cnt+1∧∀b,b<c.cnt→(bN (S.C b)).2=true→gB T c.cnt b):=
  fun d ⟨T,h1,h2⟩ e=>⟨T,h1,h2,fun k=>absurd e k⟩
 have come_cnt:∀(d:aK) (f:aC),(Go.Proofs.YtkoefoccbjhoiacGreat.come d f).1.cnt=d.cnt:=by
  intro d f
  unfold Go.Proofs.YtkoefoccbjhoiacGreat.come
  split
  ·rfl
  ·split
   ·rfl
   ·split
    ·rfl
    ·split<;>rfl
 have bring_cnt:∀(d:aK) (t:List UInt8),(d.bring t).1.cnt=d.cnt:=by
  intro d t
  unfold aK.bring
  split
  ·exact come_cnt d _
  ·rfl
 have getMem:∀{k:Nat},k<c.net.length→c.net.getD k []∈c.net:=fun {k} hk=>by
  rw[List.getD_eq_getElem?_getD,List.getElem?_eq_getElem hk]
  exact List.getElem_mem hk
 unfold doA
 split
 ·split
  ·exact same c h rfl
  ·rename_i hc
   split
   ·exact same c h rfl
   ·rename_i h0
    have h0:(bF (c.cnt:Int) a.ops).2.2=0:=by
     by_cases e:(bF (c.cnt:Int) a.ops).2.2=0
     ·exact e
     ·exact absurd e h0
    obtain⟨T,h1,h2,h3⟩:=h.begin (by omega) h0
    exact⟨T,h1,h2,fun _=>⟨rfl,h3⟩⟩
 ·split
  ·split
   ·exact same c h rfl
   ·rename_i hn
    have hk:a.n.toNat<c.net.length:=by omega
    have less:dC (c.without a.n.toNat) S:=h.less fun t ht=>List.mem_of_mem_eraseIdx ht
    split
    ·exact same _ less rfl
    ·split
     ·exact some_ _ (less.bring (h.net _ (getMem hk))) (bring_cnt _ _)
     ·exact some_ _ (h.bring (h.net _ (getMem hk))) (bring_cnt _ _)
  ·split
   ·split
    ·exact same c h rfl
    ·rename_i hn
     have:=h.cnt.1
     exact some_ _ (h.again (by omega)) rfl
   ·split
    ·split
     ·exact same c h rfl
     ·rename_i hn
      have hk:a.n.toNat<6:=by omega
      split
      ·split
       ·exact same c h rfl
       ·obtain⟨t,r1,r2,r3⟩:=pP (c.log a.n.toNat)
        exact same _ (h.rise hk r1 r2 r3) rfl
      ·split
       ·exact same c h rfl
       ·rename_i hu
        split
        ·exact same _ (h.crash _) rfl
        ·exact same _ (h.setTear (by simpa using hu) _) rfl
    ·exact same c h rfl
theorem JE {f:aC} (h:aM f=0):(rc (bU f)).length≤100:=by
 have:=(tJ h).1
 rw[lU]
 omega
theorem JZ (l:List UInt8) {f:aC} (h:aM f=0) (n:Int):(iP l (bU f) n).length≤l.length+100:=by
 have:=JE h
 unfold iP
 split
 ·rw[List.length_append,List.length_take]
  omega
 ·omega
theorem MK (l:List UInt8) {f:aC} (h:aM f=0):(jY l (bU f)).length≤l.length+100:=by
 have:=JE h
 unfold jY
 split
 ·rw[List.length_append]
  omega
 ·omega
theorem yD {L:Nat→List UInt8} {n k B:Nat} {x:List UInt8} (hL:(L k).length≤B) (hx:n=k→x.length≤B):(upd L n x k).length≤B:=by
 by_cases e:k=n
 ·subst e;rw[aQ];exact hx rfl
 ·rw[aI _ _ e];exact hL
theorem EK {c:aK} {f:aC} (hf:aM f=0) {k:Nat}:((come c f).1.log k).length≤(c.log k).length+100:=by
 unfold come
 split
 ·show (c.log k).length≤_;omega
 ·split
  ·show (c.log k).length≤_;omega
  ·split
   ·exact yD (by omega) (fun e=>by subst e;exact JZ _ hf _)
   ·split
    ·show (c.log k).length≤_;omega
    ·exact yD (by omega) (fun e=>by subst e;exact MK _ hf)
theorem KG {c:aK} {f:aC} (h:c.net.length≤60):(come c f).1.net.length≤60:=by
 unfold come
 split
 ·exact h
 ·split
  ·exact h
  ·split
   ·exact h
   ·split
    ·exact h
    ·exact nH _ _ h
theorem tU {c:aK} {S:Sys} (h:dC c S) {t:List UInt8} (ht:∃f,S.M f∧t=bU f) {k:Nat}:((c.bring t).1.log k).length≤(c.log k).length+100:=by
 obtain⟨f,hM,rfl⟩:=ht
 have e:eV (bU f)=f:=(mS (h.good f hM)).2
 unfold aK.bring
 rw[e]
 split
 ·exact EK (h.good f hM)
 ·show (c.log k).length≤_
  omega
theorem yG {c:aK} {t:List UInt8} (h:c.net.length≤60):(c.bring t).1.net.length≤60:=by
 unfold aK.bring
 split
 ·exact KG h
 ·exact nH _ _ h
theorem FZ (l:List UInt8):(cK (sV l)).length≤l.length:=by
 obtain⟨t,_,_,e⟩:=pP l
 have:=congrArg List.length e
 rw[List.length_append] at this
 omega
theorem xI {c:aK} {k:Nat} (hk:k<c.net.length):c.net.getD k []∈c.net:=by
 rw[List.getD_eq_getElem?_getD,List.getElem?_eq_getElem hk]
 exact List.getElem_mem hk
theorem G8 {c:aK} {S:Sys} (h:dC c S) (a:iW) (k:Nat):((doA c a).1.log k).length≤(c.log k).length+100:=by
 have same:(c.log k).length≤(c.log k).length+100:=by omega
 unfold doA
 split
 ·split
  ·exact same
  ·split
   ·exact same
   ·exact same
 ·split
  ·split
   ·exact same
   ·rename_i hn
    have hk:a.n.toNat<c.net.length:=by omega
    have less:dC (c.without a.n.toNat) S:=h.less fun t ht=>List.mem_of_mem_eraseIdx ht
    split
    ·exact same
    ·split
     ·exact tU less (h.net _ (xI hk))
     ·exact tU h (h.net _ (xI hk))
  ·split
   ·split
    ·exact same
    ·exact same
   ·split
    ·split
     ·exact same
     ·split
      ·split
       ·exact same
       ·exact yD same (fun e=>by subst e;have:=FZ (c.log a.n.toNat);omega)
      ·split
       ·exact same
       ·split
        ·exact same
        ·exact same
    ·exact same
theorem M0 {c:aK} (h:c.net.length≤60) (a:iW):(doA c a).1.net.length≤60:=by
 have less:∀k,(c.net.eraseIdx k).length≤60:=fun k=>Nat.le_trans (List.length_eraseIdx_le _ _) h
 unfold doA
 split
 ·split
  ·exact h
  ·split
   ·exact h
   ·exact nH _ _ h
 ·split
  ·split
   ·exact h
   ·split
    ·exact less _
    ·split
     ·exact yG (c:=c.without _) (less _)
     ·exact yG h
  ·split
   ·split
    ·exact h
    ·exact nH _ _ h
   ·split
    ·split
     ·exact h
     ·split
      ·split<;>exact h
      ·split
       ·exact h
       ·split<;>exact h
    ·exact h
structure gG (c:aK) (acts:Nat):Prop where
 inv:∃S,dC c S
 net:c.net.length≤60
 log:∀k,(c.log k).length≤100*acts
theorem gG.start:gG kK 0:=⟨⟨_,dC.start⟩,Nat.zero_le _,fun _=>Nat.zero_le _⟩
theorem gG.act {c:aK} {acts:Nat} (h:gG c acts) (a:iW):gG (doA c a).1 (acts+1):=by
 obtain⟨S,hS⟩:=h.inv
 obtain⟨T,hT,_⟩:=hS.act a
 exact⟨⟨T,hT⟩,M0 h.net a,fun k=>Nat.le_trans (G8 hS a k) (by have:=h.log k;omega)⟩
theorem gG.more {c:aK} {acts acts':Nat} (h:gG c acts) (ha:acts≤acts'):gG c acts':=⟨h.inv,h.net,fun k=>Nat.le_trans (h.log k) (by omega)⟩
theorem KK {c:aK} {S:Sys} (h:dC c S) {n:Nat} (hn:n<6) (hu:c.up n=false):c.tear n=none:=by
 obtain⟨_,_,_,_,_,_,_,l⟩:=h.log n hn
 exact (l hu).2
def j1 (ok:Nat→Prop) (w:World) (a:Option Addr) (zs:List (List UInt8)):Prop:=
 zs=[]∨∃b off,a=some ⟨b,off,none⟩∧ok b∧∀i,i<zs.length→w.cell? ⟨b,off+i,none⟩=some (.string (str (zs.getD i [])))
theorem j1.later {ok:Nat→Prop} {w w':World} {a:Option Addr} {zs:List (List UInt8)} (h:j1 ok w a zs) (hB:bI ok w w'):j1 ok w' a zs:=by
 rcases h with h | ⟨b,off,ha,hb,hc⟩
 ·exact Or.inl h
 ·exact Or.inr ⟨b,off,ha,hb,fun i hi=>hB.cell (hc i hi) hb⟩
theorem j1.mono {ok ok':Nat→Prop} {w:World} {a:Option Addr} {zs:List (List UInt8)} (h:j1 ok w a zs) (hk:∀k,k<w.heap.size→ok k→ok' k):j1 ok' w a zs:=by
 rcases h with h | ⟨b,off,ha,hb,hc⟩
 ·exact Or.inl h
 ·cases zs with
  | nil=>exact Or.inl rfl
  | cons z r=>exact Or.inr ⟨b,off,ha,hk b (World.block_lt_of_cell? w _ (hc 0 (by simp))) hb,hc⟩
def IsT (ok:Nat→Prop) (w:World) (v:Value) (zs:List (List UInt8)):Prop:=∃a cap,v= .slice a zs.length cap∧j1 ok w a zs∧zs.length*16≤140737488355328∧zs.length≤cap∧(a=none→zs.length=0∧cap=0)
theorem IsT.later {ok:Nat→Prop} {w w':World} {v:Value} {zs:List (List UInt8)} (h:IsT ok w v zs) (hB:bI ok w w'):IsT ok w' v zs:=by
 obtain⟨a,cap,h1,h2,h3⟩:=h
 exact⟨a,cap,h1,h2.later hB,h3⟩
theorem IsT.mono {ok ok':Nat→Prop} {w:World} {v:Value} {zs:List (List UInt8)} (h:IsT ok w v zs) (hk:∀k,k<w.heap.size→ok k→ok' k):IsT ok' w v zs:=by
 obtain⟨a,cap,h1,h2,h3⟩:=h
 exact⟨a,cap,h1,h2.mono hk,h3⟩
theorem IsT.nil (ok:Nat→Prop) (w:World):IsT ok w (.slice none 0 0) []:=⟨none,0,rfl,Or.inl rfl,by decide,Nat.le_refl _,fun _=>⟨rfl,rfl⟩⟩
structure kT (ok:Nat→Prop) (w:World) (mv:Nat→Value) (up:Bool) (st:aA) (log:List UInt8) (tear:Option Int):Prop where
 st:bP ok w mv st
 log:mv 201= .string (str log)
 down:mv 202= .bool (!up)
 torn:mv 203= .bool tear.isSome
 tear:mv 204= .int .i64 (tear.getD 0)
theorem bP.same {ok:Nat→Prop} {w:World} {nv nv':Nat→Value} {s:aA} (h:bP ok w nv s) (hn:∀j,j<201→nv' j=nv j):bP ok w nv' s:=
 ⟨⟨fun i hi=>(h.es.ent i hi).same fun j hj=>hn _ (by omega),fun k hk=>by rw[hn _ (by omega)];exact h.es.vals k hk⟩,by rw[hn _ (by omega)];exact h.order⟩
theorem CaseC.same {ok:Nat→Prop} {w:World} {nv nv':Nat→Value} {c:aE} (h:CaseC ok w nv c) (hn:∀j,j<24→nv' j=nv j):CaseC ok w nv' c:=
  ⟨by rw[hn _ (by omega)];exact h.begun,by rw[hn _ (by omega)];exact h.fixed,by rw[hn _ (by omega)];exact h.ops,fun i hi=>by rw[hn _ (by omega)];exact h.told i hi,fun i hi=>by rw[hn _ (by omega)];exact h.known i hi,
    by rw[hn _ (by omega)];exact h.deps,fun i hi=>by rw[hn _ (by omega)];exact h.has i hi,fun i hi=>by rw[hn _ (by omega)];exact h.vals i hi⟩
theorem kT.same {ok:Nat→Prop} {w:World} {nv nv':Nat→Value} {up:Bool} {st:aA} {log:List UInt8} {tear:Option Int} (h:kT ok w nv up st log tear) (hn:∀j,j<205→nv' j=nv j):kT ok w nv' up st log tear:=
 ⟨h.st.same fun j hj=>hn j (by omega),by rw[hn _ (by omega)];exact h.log,by rw[hn _ (by omega)];exact h.down,by rw[hn _ (by omega)];exact h.torn,by rw[hn _ (by omega)];exact h.tear⟩
theorem kT.later {ok:Nat→Prop} {w w':World} {nv:Nat→Value} {up:Bool} {st:aA} {log:List UInt8} {tear:Option Int} (h:kT ok w nv up st log tear) (hB:bI ok w w'):kT ok w' nv up st log tear:=⟨h.st.later hB,h.log,h.down,h.torn,h.tear⟩
theorem kT.mono {ok ok':Nat→Prop} {w:World} {nv:Nat→Value} {up:Bool} {st:aA} {log:List UInt8} {tear:Option Int} (h:kT ok w nv up st log tear) (hk:∀k,k<w.heap.size→ok k→ok' k):kT ok' w nv up st log tear:=⟨h.st.mono hk,h.log,h.down,h.torn,h.tear⟩
theorem kT.one {ok:Nat→Prop} {w:World} {nv:Nat→Value} {up:Bool} {st:aA} {log:List UInt8} {tear:Option Int} (h:kT ok w nv up st log tear):∀i,i<205→(nv i).oneCell'=true:=by
 intro i hi
 by_cases h0:i<201
 ·exact h.st.one i h0
 by_cases h1:i=201
 ·subst h1;rw[h.log];rfl
 by_cases h2:i=202
 ·subst h2;rw[h.down];rfl
 by_cases h3:i=203
 ·subst h3;rw[h.torn];rfl
 ·obtain rfl:i=204:=by omega
  rw[h.tear];rfl
structure fO (ok:Nat→Prop) (w:World) (cv:Nat→Value) (acts:Nat) (c:aK):Prop where
 acts:cv 0= .int .i64 acts
 cnt:cv 1= .int .i64 c.cnt
 mem:∀n,n<6→kT ok w (fun i=>cv (2+n*205+i)) (c.up n) (c.st n) (c.log n) (c.tear n)
 cs:∀n,n<32→CaseC ok w (fun i=>cv (1232+n*24+i)) (c.cs n)
 net:IsT ok w (cv 2000) c.net
theorem fO.later {ok:Nat→Prop} {w w':World} {cv:Nat→Value} {acts:Nat} {c:aK} (h:fO ok w cv acts c) (hB:bI ok w w'):fO ok w' cv acts c:=
 ⟨h.acts,h.cnt,fun n hn=>(h.mem n hn).later hB,fun n hn=>(h.cs n hn).later hB,h.net.later hB⟩
theorem fO.mono {ok ok':Nat→Prop} {w:World} {cv:Nat→Value} {acts:Nat} {c:aK} (h:fO ok w cv acts c) (hk:∀k,k<w.heap.size→ok k→ok' k):fO ok' w cv acts c:=
 ⟨h.acts,h.cnt,fun n hn=>(h.mem n hn).mono hk,fun n hn=>(h.cs n hn).mono hk,h.net.mono hk⟩
theorem fO.setMem {ok:Nat→Prop} {w:World} {cv cv':Nat→Value} {acts:Nat} {c:aK} (h:fO ok w cv acts c) {n:Nat} (hn:n<6) (ho:∀i,i<2001→(i<2+n*205∨2+n*205+205≤i)→cv' i=cv i)
  {up:Bool} {st:aA} {log:List UInt8} {tear:Option Int} (hm:kT ok w (fun i=>cv' (2+n*205+i)) up st log tear):fO ok w cv' acts { c with up:=upd c.up n up,st:=upd c.st n st,log:=upd c.log n log,tear:=upd c.tear n tear }:=by
 refine⟨by rw[ho 0 (by omega) (by omega)];exact h.acts,by rw[ho 1 (by omega) (by omega)];exact h.cnt,fun k hk=>?_,fun k hk=>(h.cs k hk).same fun j hj=>ho _ (by omega) (by omega),by rw[ho 2000 (by omega) (by omega)];exact h.net⟩
 show kT ok w _ (upd c.up n up k) (upd c.st n st k) (upd c.log n log k) (upd c.tear n tear k)
 by_cases e:k=n
 ·subst e
  rw[aQ,aQ,aQ,aQ]
  exact hm
 ·rw[aI _ _ e,aI _ _ e,aI _ _ e,aI _ _ e]
  exact (h.mem k hk).same fun j hj=>ho _ (by omega) (by omega)
theorem fO.setCase {ok:Nat→Prop} {w:World} {cv cv':Nat→Value} {acts:Nat} {c:aK} (h:fO ok w cv acts c) {n:Nat} (hn:n<32) (ho:∀i,i<2001→(i<1232+n*24∨1232+n*24+24≤i)→cv' i=cv i)
  {x:aE} (hm:CaseC ok w (fun i=>cv' (1232+n*24+i)) x):fO ok w cv' acts { c with cs:=upd c.cs n x }:=by
 refine⟨by rw[ho 0 (by omega) (by omega)];exact h.acts,by rw[ho 1 (by omega) (by omega)];exact h.cnt,fun k hk=>(h.mem k hk).same fun j hj=>ho _ (by omega) (by omega),fun k hk=>?_,by rw[ho 2000 (by omega) (by omega)];exact h.net⟩
 show CaseC ok w _ (upd c.cs n x k)
 by_cases e:k=n
 ·subst e
  rw[aQ]
  exact hm
 ·rw[aI _ _ e]
  exact (h.cs k hk).same fun j hj=>ho _ (by omega) (by omega)
def eM (cv:Nat→Value) (m:Nat) (v:Value) (i:Nat):Value:=if i=m then v else cv i
theorem fO.setNet {ok:Nat→Prop} {w:World} {cv:Nat→Value} {acts:Nat} {c:aK} (h:fO ok w cv acts c) {v:Value} {net:List (List UInt8)} (hv:IsT ok w v net):fO ok w (eM cv 2000 v) acts { c with net:=net }:=by
 have ho:∀i,i<2000→eM cv 2000 v i=cv i:=fun i hi=>if_neg (by omega)
 exact⟨by rw[ho 0 (by omega)];exact h.acts,by rw[ho 1 (by omega)];exact h.cnt,fun k hk=>(h.mem k hk).same fun j hj=>ho _ (by omega),fun k hk=>(h.cs k hk).same fun j hj=>ho _ (by omega),hv⟩
theorem fO.setActs {ok:Nat→Prop} {w:World} {cv:Nat→Value} {acts:Nat} {c:aK} (h:fO ok w cv acts c) (m:Nat):fO ok w (eM cv 0 (.int .i64 m)) m c:=by
 have ho:∀i,i≠0→eM cv 0 (.int .i64 m) i=cv i:=fun i hi=>if_neg hi
 exact⟨rfl,by rw[ho 1 (by omega)];exact h.cnt,fun k hk=>(h.mem k hk).same fun j hj=>ho _ (by omega),fun k hk=>(h.cs k hk).same fun j hj=>ho _ (by omega),by rw[ho 2000 (by omega)];exact h.net⟩
theorem fO.setCnt {ok:Nat→Prop} {w:World} {cv:Nat→Value} {acts:Nat} {c:aK} (h:fO ok w cv acts c) (m:Nat):fO ok w (eM cv 1 (.int .i64 m)) acts { c with cnt:=m }:=by
 have ho:∀i,i≠1→eM cv 1 (.int .i64 m) i=cv i:=fun i hi=>if_neg hi
 exact⟨by rw[ho 0 (by omega)];exact h.acts,rfl,fun k hk=>(h.mem k hk).same fun j hj=>ho _ (by omega),fun k hk=>(h.cs k hk).same fun j hj=>ho _ (by omega),by rw[ho 2000 (by omega)];exact h.net⟩
structure aD (ok:Nat→Prop) (w:World) (p:Nat) (cv:Nat→Value) (acts:Nat) (c:aK):Prop where
 row:w.heap[p]? =some (.cells (aB 2001 cv) 92 (0,0))
 clu:fO ok w cv acts c
 out:¬ ok p
theorem aD.blk {ok:Nat→Prop} {w:World} {p:Nat} {cv:Nat→Value} {acts:Nat} {c:aK} (h:aD ok w p cv acts c):bC 2001 w p cv:=⟨_,h.row⟩
theorem aD.lt {ok:Nat→Prop} {w:World} {p:Nat} {cv:Nat→Value} {acts:Nat} {c:aK} (h:aD ok w p cv acts c):p<w.heap.size:=h.blk.lt
theorem aD.later {ok:Nat→Prop} {w w':World} {p:Nat} {cv:Nat→Value} {acts:Nat} {c:aK} (h:aD ok w p cv acts c) (hB:bI ok w w') (hp:w'.heap[p]? =w.heap[p]?):aD ok w' p cv acts c:=⟨hp.trans h.row,h.clu.later hB,h.out⟩
theorem aD.below {ok:Nat→Prop} {w w':World} {p:Nat} {cv:Nat→Value} {acts:Nat} {c:aK} (h:aD ok w p cv acts c) (hb:Below w.heap.size w w'):aD ok w' p cv acts c:=h.later (bI.of_size hb) (hb.block p h.lt)
theorem aD.mono {ok ok':Nat→Prop} {w:World} {p:Nat} {cv:Nat→Value} {acts:Nat} {c:aK} (h:aD ok w p cv acts c) (hk:∀k,k<w.heap.size→ok k→ok' k) (ho:¬ ok' p):aD ok' w p cv acts c:=⟨h.row,h.clu.mono hk,ho⟩
theorem aD.cell {ok:Nat→Prop} {w:World} {p:Nat} {cv:Nat→Value} {acts:Nat} {c:aK} (h:aD ok w p cv acts c) {i:Nat} (hi:i<2001):w.cell? ⟨p,i,none⟩=some (cv i):=h.blk.cell hi
theorem aD.frozen {ok:Nat→Prop} {w:World} {p:Nat} {cv:Nat→Value} {acts:Nat} {c:aK} (h:aD ok w p cv acts c) (i:Nat):w.frozen? ⟨p,i,none⟩=false:=h.blk.frozen i
theorem aD.put {ok:Nat→Prop} {w:World} {p:Nat} {cv:Nat→Value} {acts acts':Nat} {c c':aK} (h:aD ok w p cv acts c) (m:Nat) (v:Value) (hc:fO ok w (eM cv m v) acts' c'):aD ok (w.setCell ⟨p,m,none⟩ v) p (eM cv m v) acts' c':=by
 refine⟨?_,hc.later (fun k _ hk=>Below.heap_setCell _ _ _ _ (fun e=>h.out (by have e:k=p:=e;rw[←e];exact hk))),h.out⟩
 rw[heap_setCell_same w p m _ _ _ h.row,eE]
 rfl
def i6 (cv:Nat→Value) (o:Nat) (vs:List Value) (i:Nat):Value:=if o≤i∧i<o+vs.length then vs.getD (i-o) (.bool false) else cv i
theorem eW (w:World) {p k:Nat} (hk:k≠p):∀(vs:List Value) (o:Nat) (w:World),(w.setCells p o vs).heap[k]? =w.heap[k]?
 | [],_,_=>rfl
 | v::vs,o,w=>by
  rw[World.setCells,eW w hk vs (o+1)]
  exact Below.heap_setCell _ _ _ _ hk
theorem nZ {p:Nat} {t:TypeId}:∀(vs:List Value) (o:Nat) {w:World} {f:Nat→Value},w.heap[p]? =some (.cells (aB 2001 f) t (0,0))→o+vs.length≤2001→(w.setCells p o vs).heap[p]? =some (.cells (aB 2001 (i6 f o vs)) t (0,0))
 | [],o,w,f,h,_=>by
  show w.heap[p]? =_
  rw[h,jQ (g:=i6 f o []) fun i _=>?_]
  unfold i6
  rw[if_neg (by simp)]
 | v::vs,o,w,f,h,hl=>by
  have hl:o+(vs.length+1)≤2001:=hl
  rw[World.setCells]
  have h1:(w.setCell ⟨p,o,none⟩ v).heap[p]? =some (.cells (aB 2001 (fun i=>if i=o then v else f i)) t (0,0)):=by rw[heap_setCell_same w p o _ _ _ h,eE]
  rw[nZ vs (o+1) h1 (by omega),jQ (g:=i6 f o (v::vs)) fun i _=>?_]
  unfold i6
  simp only[List.length_cons]
  by_cases e:i=o
  ·subst e
   rw[if_neg (by omega),if_pos rfl,if_pos (by omega)]
   simp
  ·by_cases e2:o+1≤i∧i<o+1+vs.length
   ·rw[if_pos e2,if_pos (by omega)]
    obtain⟨k,hk⟩:∃k,i-o=k+1:=⟨i-o-1,by omega⟩
    rw[hk,show i-(o+1)=k by omega]
    simp
   ·rw[if_neg e2,if_neg e,if_neg (by omega)]
theorem aD.puts {ok:Nat→Prop} {w:World} {p:Nat} {cv:Nat→Value} {acts acts':Nat} {c c':aK} (h:aD ok w p cv acts c) (o:Nat) (vs:List Value) (hl:o+vs.length≤2001) (hc:fO ok w (i6 cv o vs) acts' c'):aD ok (w.setCells p o vs) p (i6 cv o vs) acts' c':=
 ⟨nZ vs o h.row hl,hc.later (fun k _ hk=>eW w (fun e=>h.out (by rw[←e];exact hk)) vs o w),h.out⟩
theorem qW {cv:Nat→Value} {o:Nat} {N:Nat} {f:Nat→Value} {i:Nat} (hi:i<N):i6 cv o (aB N f).toList (o+i)=f i:=by
 unfold i6
 have hl:(aB N f).toList.length=N:=by simp[aB]
 rw[hl,if_pos (by omega),show o+i-o=i by omega]
 simp[aB,hi]
theorem pB {cv:Nat→Value} {o:Nat} {N:Nat} {f:Nat→Value} {i:Nat} (hi:i<o∨o+N≤i):i6 cv o (aB N f).toList i=cv i:=by
 unfold i6
 have hl:(aB N f).toList.length=N:=by simp[aB]
 rw[hl,if_neg (by omega)]
theorem fP {w w':World} {B c o:Nat} {cs:List Value} (h:w.rangeAt c o cs) (hb:Below B w w') (hc:c<B):w'.rangeAt c o cs:=fun j v hv=>by
 rw[hb.cell (p:=⟨c,o+j,none⟩) hc]
 exact h j v hv
theorem aD.range {ok:Nat→Prop} {w:World} {p:Nat} {cv:Nat→Value} {acts:Nat} {c:aK} (h:aD ok w p cv acts c) {o n:Nat} (ho:o+n≤2001):w.rangeAt p o (aB n fun i=>cv (o+i)).toList:=h.blk.range ho
theorem Tryz.infoMember:(Tryz.prog.info? 88).map (·.size)=some 205:=by kernel_rfl
theorem rQ {P:Program} {e:TypeId} (he:P.underlying e=some (.int .i64)) (hi:(P.info? e).map (·.size)=some 1) {n:Nat} (S:Nat→Int) {k:Nat} (hk:k<n) (w:World):
  (part e (aB n fun i=> .int .i64 (S i)) k).run P w= .ok (.int .i64 (S k)) w:=by
 cases hq:P.info? e with
 | none=>simp[hq] at hi
 | some i=>
  have hs:i.size=1:=by simpa [hq] using hi
  have hg:=nE (fun i=>Value.int .i64 (S i)) hk
  simp[part,isAgg,run_underlying he,sizeOf,typeInfo,hq,hs,hg,go_sem]
  try omega
theorem Tryz.infoInt1:(Tryz.prog.info? 3).map (·.size)=some 1:=by kernel_rfl
def wU (n:Nat) (S T:Nat→Int):Bool:=(List.range n).all fun i=>S i == T i
theorem h9 {P:Program} {t e:TypeId} {n:Nat} (d:Nat) (ht:P.underlying t=some (.array n e)) (he:P.underlying e=some (.int .i64)) (hi:(P.info? e).map (·.size)=some 1) (S T:Nat→Int) (w:World):
  (Op.equalIn (d+2) t (.agg (aB n fun i=> .int .i64 (S i))) (.agg (aB n fun i=> .int .i64 (T i)))).run P w= .ok (wU n S T) w:=by
 have hsz:∀w,(sizeOf e).run P w= .ok 1 w:=by
  intro w
  cases hq:P.info? e with
  | none=>simp[hq] at hi
  | some i=>
   have hs:i.size=1:=by simpa [hq] using hi
   simp[sizeOf,typeInfo,hq,hs]
 unfold wU
 rw[List.range_eq_range',Op.equalIn]
 simp only[Sem.run_bind,run_underlying ht,Result.andThen_ok,hsz,Std.Legacy.Range.forIn_eq_forIn_range',Std.Legacy.Range.size,Nat.sub_zero,Nat.add_sub_cancel,Nat.div_one]
 have hl:∀i∈List.range' 0 n 1,i<n:=fun i hi=>by simpa using (List.mem_range'_1.1 hi).2
 generalize List.range' 0 n 1=l at hl ⊢
 induction l with
 | nil=>simp
 | cons i l ih=>
  have hk:i<n:=hl i (by simp)
  have px:=rQ he hi S hk w
  have py:=rQ he hi T hk w
  have pe:(Op.equalIn (d+1) e (.int .i64 (S i)) (.int .i64 (T i))).run P w= .ok (S i == T i) w:=by simp[Op.equalIn,run_underlying he]
  simp only[List.forIn_cons,Sem.run_bind,Nat.mul_one,px,py,pe,Result.andThen_ok,List.all_cons]
  cases hb:(S i == T i)
  ·simp
  ·simp only[Bool.not_true,Bool.false_eq_true,if_false,Sem.run_pure,Result.andThen_ok,Bool.true_and]
   simpa only[Nat.mul_one] using ih fun j hj=>hl j (by simp[hj])
theorem Tryz.infoSix:(Tryz.prog.info? 43).map (·.size)=some 6:=by kernel_rfl
theorem Tryz.infoFour:(Tryz.prog.info? 44).map (·.size)=some 4:=by kernel_rfl
theorem Tryz.infoFourI:(Tryz.prog.info? 45).map (·.size)=some 4:=by kernel_rfl
theorem Tryz.sixGuard:Tryz.prog.eqGuardType Tryz.prog.depth 43=false:=by kernel_rfl
theorem Tryz.fourGuard:Tryz.prog.eqGuardType Tryz.prog.depth 44=false:=by kernel_rfl
theorem Tryz.fourIGuard:Tryz.prog.eqGuardType Tryz.prog.depth 45=false:=by kernel_rfl
theorem sY (n:Nat) (f:Nat→Value):(aB n f).toList=(List.range n).map f:=by simp[aB]
theorem bC.truths {w:World} {b o n N:Nat} {nv:Nat→Value} {S:Nat→Bool} (h:bC N w b nv) (hn:o+n≤N) (hs:∀i,i<n→nv (o+i)= .bool (S i)):w.rangeAt b o (aG n S).toList:=by
 have:=h.range (o:=o) (n:=n) hn
 rw[G2,sY,←List.map_congr_left (fun i hi=>hs i (List.mem_range.1 hi))]
 exact this
theorem bC.numbers {w:World} {b o n N:Nat} {nv:Nat→Value} {S:Nat→Int} (h:bC N w b nv) (hn:o+n≤N) (hs:∀i,i<n→nv (o+i)= .int .i64 (S i)):w.rangeAt b o (aB n fun i=> .int .i64 (S i)).toList:=by
 have:=h.range (o:=o) (n:=n) hn
 rw[sY,←List.map_congr_left (fun i hi=>hs i (List.mem_range.1 hi))]
 exact this
def aE.wants (c:aE) (n:Nat):Bool:=if c.fixed then !c.known n || c.lacks (ofL n) else bK c.ops (ofL n) && !c.told n
def aE.msg (c:aE) (id:Int) (n:Nat):aC:=if c.fixed then ⟨3,n,id,c.ops,c.deps,[],[]⟩ else ⟨1,n,id,c.ops,[],[],[]⟩
theorem GG (c:aE) (id:Int) (n:Nat):c.send id n=if c.wants n then [c.msg id n] else []:=by
 unfold aE.send aE.wants aE.msg
 cases c.fixed<;>rfl
def aE.sends (c:aE) (id:Int) (k:Nat):List aC:=(List.range k).flatMap (c.send id)
theorem GH (c:aE) (id:Int):c.sends id 0=[]:=rfl
theorem rE (c:aE) (id:Int) (k:Nat):c.sends id (k+1)=c.sends id k++if c.wants k then [c.msg id k] else []:=by
 unfold aE.sends
 rw[List.range_succ,List.flatMap_append]
 simp only[List.flatMap_cons,List.flatMap_nil,List.append_nil,GG]
theorem zM (c:aE) (id:Int):∀k,(c.sends id k).length≤k
 | 0=>by simp[GH]
 | k+1=>by
  rw[rE,List.length_append]
  have:=zM c id k
  split
  ·simp;omega
  ·simp;omega
def dF (c:aE) (id:Int):Bool:=eB c && c.begun && !dK c.deps id
theorem GV {c:aE} {id:Int} (h:dF c id=true) (h0:0≤id) (h1:id<32):cR c id=c.sends id 6:=by
 unfold dF at h
 simp only[Bool.and_eq_true,Bool.not_eq_true'] at h
 unfold cR aE.sends
 rw[if_neg]
 rintro (e | e | e | e | e)
 ·rw[h.1.1] at e;cases e
 ·rw[h.1.2] at e;cases e
 ·omega
 ·omega
 ·rw[h.2] at e;cases e
theorem AO {c:aE} {id:Int} (h:dF c id=false∨id<0∨32≤id):cR c id=[]:=by
 unfold cR
 rw[if_pos]
 rcases h with h | h | h
 ·unfold dF at h
  cases e:eB c
  ·exact Or.inl rfl
  ·cases e2:c.begun
   ·exact Or.inr (Or.inl rfl)
   ·cases e3:dK c.deps id
    ·rw[e,e2,e3] at h;cases h
    ·exact Or.inr (Or.inr (Or.inr (Or.inr rfl)))
 ·exact Or.inr (Or.inr (Or.inl h))
 ·exact Or.inr (Or.inr (Or.inr (Or.inl h)))
def fW (t:Nat→Bool) (sh:Int):Nat→Nat
 | 0=>0
 | k+1=>fW t sh k+if t k && (ofL k == sh) then 1 else 0
theorem xF (t:Nat→Bool) (sh:Int):∀k,fW t sh k≤k
 | 0=>Nat.le_refl _
 | k+1=>by
  have:=xF t sh k
  simp only[fW]
  split<;>omega
theorem G6 (t:Nat→Bool):fW t 0 6=j6 t 0:=by
 simp only[fW,j6,List.range_succ,List.range_zero,List.nil_append,List.filter_append,List.length_append,Nat.zero_mul,Nat.zero_add]
 simp only[show ofL ((0:Nat):Int)=0 from rfl,show ofL ((1:Nat):Int)=0 from rfl,show ofL ((2:Nat):Int)=0 from rfl,show ofL ((3:Nat):Int)=1 from rfl,show ofL ((4:Nat):Int)=1 from rfl,show ofL ((5:Nat):Int)=1 from rfl]
 cases e0:t 0<;>cases e1:t 1<;>cases e2:t 2<;>simp[e0,e1,e2]
theorem G7 (t:Nat→Bool):fW t 1 6=j6 t 1:=by
 simp only[fW,j6,List.range_succ,List.range_zero,List.nil_append,List.filter_append,List.length_append,Nat.one_mul]
 simp only[show ofL ((0:Nat):Int)=0 from rfl,show ofL ((1:Nat):Int)=0 from rfl,show ofL ((2:Nat):Int)=0 from rfl,show ofL ((3:Nat):Int)=1 from rfl,show ofL ((4:Nat):Int)=1 from rfl,show ofL ((5:Nat):Int)=1 from rfl]
 cases e0:t 3<;>cases e1:t 4<;>cases e2:t 5<;>simp[e0,e1,e2]
theorem LF (ops:List OpL) (t:Nat→Bool):dZ ops t=(!(decide (fW t 0 6<2) && bK ops 0) && !(decide (fW t 1 6<2) && bK ops 1)):=by
 unfold dZ
 rw[G6,G7]
 have h:∀n:Nat,decide (2≤n)= !decide (n<2):=fun n=>by
  by_cases e:n<2
  ·simp[e]
  ·simp[e];omega
 rw[h,h]
 cases bK ops 0<;>cases bK ops 1<;>simp
def aE.hasAll (c:aE):Bool:=(List.range c.ops.length).all c.has
theorem mQ {c:aE}:c.hasAll=true↔∀i,i<c.ops.length→c.has i=true:=by
 unfold aE.hasAll
 simp
theorem GA {c:aE} (hb:c.begun=true) (hg:eB c=true) (h:c.hasAll=true):bN c=((List.range c.ops.length).map c.vals,true):=by
 unfold bN
 rw[if_neg]
 rintro (e | e | e | e)
 ·rw[hb] at e;cases e
 ·rw[hg] at e;cases e
 ·rw[yT (mQ.1 h)] at e;cases e
 ·rw[yT (mQ.1 h)] at e;cases e
theorem pC {c:aE} (h:eB c=false∨c.begun=false∨c.hasAll=false):bN c=([],false):=by
 unfold bN
 rw[if_pos]
 rcases h with h | h | h
 ·exact Or.inr (Or.inl h)
 ·exact Or.inl h
 ·cases e0:c.lacks 0
  ·cases e1:c.lacks 1
   ·rw[mQ.2 (fun i hi=>yV e0 e1 hi)] at h;cases h
   ·exact Or.inr (Or.inr (Or.inr rfl))
  ·exact Or.inr (Or.inr (Or.inl rfl))
theorem rN {c:aE} (hb:c.begun=true) (hg:eB c=true):0<c.ops.length∧c.ops.length≤4:=by
 rw[kD hb,Bool.and_eq_true] at hg
 have:=hg.1
 unfold bM at this
 simp at this
 omega
def kH (n:Int):Bool:=decide (0≤n∧n<32)
theorem tN (n:Int) (w:World):
  Calls Tryz.prog 89 #[.int .i64 n] w fun e w'=>e= .returned (.bool (kH n))∧w'=w:=by
 by_cases h1:0≤n
 ·by_cases h2:n<32
  ·have E:Hid (kH n=true):=by unfold kH Hid;simp;omega
   have d1:decide (0≤n)=true:=by simpa using h1
   have d2:decide (n<32)=true:=by simpa using h2
   go_enter Tryz.func89,Tryz.ntmps89
   go_wp2
   go_ret
   exact⟨aF E.out.symm,rfl⟩
  ·have E:Hid (kH n=false):=by unfold kH Hid;simp;omega
   have d1:decide (0≤n)=true:=by simpa using h1
   have d2:decide (n<32)=false:=by simpa using h2
   go_enter Tryz.func89,Tryz.ntmps89
   go_wp2
   go_ret
   exact⟨aF E.out.symm,rfl⟩
 ·have E:Hid (kH n=false):=by unfold kH Hid;simp;omega
  have d1:decide (0≤n)=false:=by simpa using h1
  go_enter Tryz.func89,Tryz.ntmps89
  go_wp2
  go_ret
  exact⟨aF E.out.symm,rfl⟩
def cP (w:World) (gr:Array Value) (c:aE):Prop:=∃nv,gr=aB 24 nv∧CaseC (· <w.heap.size) w nv c
theorem cP.later {w w':World} {gr:Array Value} {c:aE} (h:cP w gr c) (hb:Below w.heap.size w w'):cP w' gr c:=by
 obtain⟨nv,e,h⟩:=h
 exact⟨nv,e,h.below hb⟩
theorem cP.size {w:World} {gr:Array Value} {c:aE} (h:cP w gr c):gr.size=24:=by
 obtain⟨nv,e,_⟩:=h
 rw[e,aH]
theorem cP.info {w:World} {gr:Array Value} {c:aE} (h:cP w gr c):(Tryz.prog.info? 47).map (·.size)=some gr.size:=by rw[h.size];exact Tryz.infoCase
theorem cP.one {w:World} {gr:Array Value} {c:aE} (h:cP w gr c):gr.all (·.oneCell')=true:=by
 obtain⟨nv,e,h⟩:=h
 rw[e]
 exact cD h.one
structure bD (b:Nat) (w:World) (gr:Array Value) (c:aE):Prop where
 row:w.heap[b]? =some (.cells gr 47 (0,0))
 case:cP w gr c
theorem bD.later {b:Nat} {w w':World} {gr:Array Value} {c:aE} (h:bD b w gr c) (hb:Below w.heap.size w w'):bD b w' gr c:=
 ⟨by rw[hb.block b (Array.getElem?_eq_some_iff.1 h.row).1];exact h.row,h.case.later hb⟩
theorem bD.lt {b:Nat} {w:World} {gr:Array Value} {c:aE} (h:bD b w gr c):b<w.heap.size:=(Array.getElem?_eq_some_iff.1 h.row).1
theorem bD.new {w:World} {gr:Array Value} {c:aE} (h:cP w gr c):bD w.heap.size (w.alloc (.cells gr 47)) gr c:=
 ⟨aR _ _,h.later ((Below.refl _ _).alloc (Nat.le_refl _) _)⟩
theorem bD.blk {b:Nat} {w:World} {gr:Array Value} {c:aE} (h:bD b w gr c):∃nv,gr=aB 24 nv∧bC 24 w b nv∧CaseC (· <w.heap.size) w nv c:=by
 obtain⟨nv,e,hc⟩:=h.case
 exact⟨nv,e,⟨_,by rw[←e];exact h.row⟩,hc⟩
theorem bD.begun {b:Nat} {w:World} {gr:Array Value} {c:aE} (h:bD b w gr c):w.cell? ⟨b,0,none⟩=some (.bool c.begun):=by
 obtain⟨nv,_,hb,hc⟩:=h.blk
 rw[hb.cell (by omega),hc.begun]
theorem bD.fixed {b:Nat} {w:World} {gr:Array Value} {c:aE} (h:bD b w gr c):w.cell? ⟨b,1,none⟩=some (.bool c.fixed):=by
 obtain⟨nv,_,hb,hc⟩:=h.blk
 rw[hb.cell (by omega),hc.fixed]
theorem bD.ops {b:Nat} {w:World} {gr:Array Value} {c:aE} (h:bD b w gr c):∃a cap,w.cell? ⟨b,2,none⟩=some (.slice a c.ops.length cap)∧bW w a cap c.ops∧c.ops.length*24≤140737488355328:=by
 obtain⟨nv,_,hb,hc⟩:=h.blk
 obtain⟨a,cap,e,hs⟩:=hc.ops.sl
 obtain⟨_,_,_,_,hl,_⟩:=hc.ops
 exact⟨a,cap,by rw[hb.cell (by omega),e],hs,hl⟩
theorem bD.deps {b:Nat} {w:World} {gr:Array Value} {c:aE} (h:bD b w gr c):∃a cap,w.cell? ⟨b,15,none⟩=some (.slice a c.deps.length cap)∧bO w a cap c.deps∧c.deps.length*8≤140737488355328:=by
 obtain⟨nv,_,hb,hc⟩:=h.blk
 obtain⟨a,cap,e,hs⟩:=hc.deps.sl
 obtain⟨_,_,_,_,hl,_⟩:=hc.deps
 exact⟨a,cap,by rw[hb.cell (by omega),e],hs,hl⟩
theorem bD.told {b:Nat} {w:World} {gr:Array Value} {c:aE} (h:bD b w gr c) {i:Nat} (hi:i<6):w.cell? ⟨b,3+i,none⟩=some (.bool (c.told i)):=by
 obtain⟨nv,_,hb,hc⟩:=h.blk
 rw[hb.cell (by omega),hc.told i hi]
theorem bD.known {b:Nat} {w:World} {gr:Array Value} {c:aE} (h:bD b w gr c) {i:Nat} (hi:i<6):w.cell? ⟨b,9+i,none⟩=some (.bool (c.known i)):=by
 obtain⟨nv,_,hb,hc⟩:=h.blk
 rw[hb.cell (by omega),hc.known i hi]
theorem bD.has {b:Nat} {w:World} {gr:Array Value} {c:aE} (h:bD b w gr c) {i:Nat} (hi:i<4):w.cell? ⟨b,16+i,none⟩=some (.bool (c.has i)):=by
 obtain⟨nv,_,hb,hc⟩:=h.blk
 rw[hb.cell (by omega),hc.has i hi]
theorem bD.vals {b:Nat} {w:World} {gr:Array Value} {c:aE} (h:bD b w gr c) {i:Nat} (hi:i<4):w.cell? ⟨b,20+i,none⟩=some (.int .i64 (c.vals i)):=by
 obtain⟨nv,_,hb,hc⟩:=h.blk
 rw[hb.cell (by omega),hc.vals i hi]
theorem bD.rTold {b:Nat} {w:World} {gr:Array Value} {c:aE} (h:bD b w gr c):w.rangeAt b 3 (aG 6 c.told).toList:=by
 obtain⟨nv,_,hb,hc⟩:=h.blk
 exact hb.truths (by omega) hc.told
theorem bD.rKnown {b:Nat} {w:World} {gr:Array Value} {c:aE} (h:bD b w gr c):w.rangeAt b 9 (aG 6 c.known).toList:=by
 obtain⟨nv,_,hb,hc⟩:=h.blk
 exact hb.truths (by omega) hc.known
theorem bD.rHas {b:Nat} {w:World} {gr:Array Value} {c:aE} (h:bD b w gr c):w.rangeAt b 16 (aG 4 c.has).toList:=by
 obtain⟨nv,_,hb,hc⟩:=h.blk
 exact hb.truths (by omega) hc.has
theorem bD.rVals {b:Nat} {w:World} {gr:Array Value} {c:aE} (h:bD b w gr c):w.rangeAt b 20 (aB 4 fun i=> .int .i64 (c.vals i)).toList:=by
 obtain⟨nv,_,hb,hc⟩:=h.blk
 exact hb.numbers (by omega) hc.vals
theorem bD.range {b:Nat} {w:World} {gr:Array Value} {c:aE} (h:bD b w gr c):w.rangeAt b 0 gr.toList:=by
 intro j v hv
 rw[cell_of_row w b (0+j) _ _ _ h.row,Nat.zero_add]
 simpa using hv
theorem cP.len {w:World} {gr:Array Value} {c:aE} (h:cP w gr c):(Tryz.prog.info? 47).map (·.size)=some gr.toList.length:=by rw[Array.length_toList];exact h.info
theorem jS (w:World):cP w (aB 24 zcv) cB:=⟨zcv,rfl,oS _ w⟩
theorem nJ:aB 24 zcv=#[.bool false,.bool false,.slice none 0 0,.bool false,.bool false,.bool false,.bool false,.bool false,.bool false,.bool false,.bool false,.bool false,.bool false,.bool false,.bool false,.slice none 0 0,.bool false,.bool false,.bool false,.bool false,.int .i64 0,.int .i64 0,.int .i64 0,.int .i64 0]:=rfl
theorem Tryz.sizeSix (S:Nat→Bool):(Tryz.prog.info? 43).map (·.size)=some (aG 6 S).toList.length:=by rw[i7];exact Tryz.infoSix
theorem Tryz.sizeFour (S:Nat→Bool):(Tryz.prog.info? 44).map (·.size)=some (aG 4 S).toList.length:=by rw[i7];exact Tryz.infoFour
theorem Tryz.sizeFourI (S:Nat→Int):(Tryz.prog.info? 45).map (·.size)=some (aB 4 fun i=>Value.int .i64 (S i)).toList.length:=by rw[sY,List.length_map,List.length_range];exact Tryz.infoFourI
theorem fF (S:Nat→Bool):jT Tryz.prog 43 (aG 6 S).toList.length:=⟨_,Tryz.underlying43,rfl,Tryz.sizeSix S⟩
theorem iS (S:Nat→Bool):jT Tryz.prog 44 (aG 4 S).toList.length:=⟨_,Tryz.underlying44,rfl,Tryz.sizeFour S⟩
theorem gR (S:Nat→Int):jT Tryz.prog 45 (aB 4 fun i=>Value.int .i64 (S i)).toList.length:=⟨_,Tryz.underlying45,rfl,Tryz.sizeFourI S⟩
theorem cP.row {w:World} {gr:Array Value} {c:aE} (h:cP w gr c):jT Tryz.prog 47 gr.size:=⟨_,Tryz.underlying47,rfl,h.info⟩
theorem eG:jT Tryz.prog 123 7:=⟨_,Tryz.underlying123,rfl,Tryz.infoFrame7⟩
def zmv (i:Nat):Value:=if i<201 then zv i else if i=201 then .string ⟨#[]⟩ else if i=204 then .int .i64 0 else .bool false
def m5 (i:Nat):Value:=if i<2 then .int .i64 0 else if i<1232 then zmv ((i-2) % 205) else if i<2000 then zcv ((i-1232) % 24) else .slice none 0 0
theorem Tryz.zeroMem:(Tryz.prog.info? 88).map (·.zero)=some (some (.agg (aB 205 zmv))):=by kernel_rfl
theorem Tryz.placesClu:(match Tryz.prog.underlying 92 with | some (.struct fields)=>fields.toList.mapM (fun f=>(Tryz.prog.info? f.type).map fun i=>(f.offset,i.size)) | _=>none)=some [(0,1),(1,1),(2,1230),(1232,768),(2000,1)]:=by kernel_rfl
theorem Tryz.placesMem:(match Tryz.prog.underlying 88 with | some (.struct fields)=>fields.toList.mapM (fun f=>(Tryz.prog.info? f.type).map fun i=>(f.offset,i.size)) | _=>none)=some [(0,201),(201,1),(202,1),(203,1),(204,1)]:=by kernel_rfl
theorem MM (ok:Nat→Prop) (w:World):kT ok w zmv true dR [] none:=
 ⟨(lF ok w).same fun j hj=>if_pos hj,rfl,rfl,rfl,rfl⟩
theorem ML (ok:Nat→Prop) (w:World):fO ok w m5 0 kK:=by
 refine⟨rfl,rfl,fun n hn=>?_,fun n hn=>?_,IsT.nil ok w⟩
 ·refine (MM ok w).same fun j hj=>?_
  show m5 (2+n*205+j)=zmv j
  unfold m5
  rw[if_neg (by omega),if_pos (by omega),show (2+n*205+j-2) % 205=j by omega]
 ·refine (oS ok w).same fun j hj=>?_
  show m5 (1232+n*24+j)=zcv j
  unfold m5
  rw[if_neg (by omega),if_neg (by omega),if_pos (by omega),show (1232+n*24+j-1232) % 24=j by omega]
theorem xA {P:Program} {t:TypeId} {z:Value} (h:(P.info? t).map (·.zero)=some (some z)):∃it,P.info? t=some it∧it.zero=some z:=by
 cases hq:P.info? t with
 | none=>rw[hq] at h;cases h
 | some it=>
  rw[hq] at h
  simp only[Option.map_some,Option.some.injEq] at h
  exact⟨it,rfl,h⟩
theorem Tryz.zcClu:Tryz.zeroCells92=aB 2001 m5:=by kernel_rfl
theorem sH {place:Nat→Option (Nat × Nat)} {N:Nat} {f:Nat→Value} {k off:Nat} {v:Value} {rest:List (Nat × Value)} (h:place k=some (off,1)) (hv:v.cells=#[v]) (hl:off+1≤N):
  Instr.fill place (aB N f) ((k,v)::rest)=Instr.fill place (aB N (eM f off v)) rest:=by
 rw[Instr.fill,h]
 simp only[hv]
 rw[if_neg (by simp[aH];omega)]
 congr 1
 simp
 rw[eE]
 rfl
theorem vW {N:Nat} (off:Nat):∀(vs:List Value) (k:Nat) (f:Nat→Value),(vs.zipIdx k).foldl (fun cs (x:Value × Nat)=>cs.setIfInBounds (off+x.2) x.1) (aB N f)=aB N (fun i=>if off+k≤i∧i<off+k+vs.length then vs.getD (i-(off+k)) (.bool false) else f i)
 | [],k,f=>by
  simp only[List.zipIdx_nil,List.foldl_nil]
  refine jQ fun i _=>?_
  rw[if_neg (by simp)]
 | v::vs,k,f=>by
  rw[List.zipIdx_cons,List.foldl_cons,eE,vW off vs (k+1)]
  refine jQ fun i _=>?_
  simp only[List.length_cons]
  by_cases e:i=off+k
  ·subst e
   rw[if_neg (by omega),if_pos rfl,if_pos (by omega)]
   simp
  ·by_cases e2:off+(k+1)≤i∧i<off+(k+1)+vs.length
   ·rw[if_pos e2,if_pos (by omega)]
    obtain⟨j,hj⟩:∃j,i-(off+k)=j+1:=⟨i-(off+k)-1,by omega⟩
    rw[hj,show i-(off+(k+1))=j by omega]
    simp
   ·rw[if_neg e2,if_neg e,if_neg (by omega)]
theorem KT {place:Nat→Option (Nat × Nat)} {N M:Nat} {f g:Nat→Value} {k off:Nat} {rest:List (Nat × Value)} (h:place k=some (off,M)) (hl:off+M≤N):
  Instr.fill place (aB N f) ((k,.agg (aB M g))::rest)=Instr.fill place (aB N (i6 f off (aB M g).toList)) rest:=by
 have e1:(Value.agg (aB M g)).cells=aB M g:=rfl
 rw[Instr.fill,h]
 simp only[e1]
 rw[if_neg (by simp[aH];omega)]
 congr 1
 rw[←Array.foldl_toList]
 have:=vW (N:=N) off (aB M g).toList 0 f
 simp only[Nat.add_zero] at this
 unfold i6
 simpa using this
def dmv (s:Value):Nat→Value:=eM (eM zmv 201 s) 202 (.bool true)
def rmv (s:Value) (nv:Nat→Value):Nat→Value:=i6 (eM zmv 201 s) 0 (aB 201 nv).toList
theorem Tryz.builtDown (s:ByteArray):Tryz.prog.built 88 [(1,.string s),(2,.bool true)]=some (aB 205 (dmv (.string s))):=by
 obtain⟨it,hi,hz⟩:=xA Tryz.zeroMem
 have hp:=Tryz.placesMem
 rw[Tryz.underlying88] at hp
 rw[oG _ hi Tryz.underlying88 hz hp]
 have e2:∀r:Array Value,(Value.agg r).cells=r:=fun _=>rfl
 rw[e2,sH (off:=201) rfl rfl (by decide),sH (off:=202) rfl rfl (by decide)]
 rfl
theorem Tryz.builtRise (s:ByteArray) (nv:Nat→Value):Tryz.prog.built 88 [(1,.string s),(0,.agg (aB 201 nv))]=some (aB 205 (rmv (.string s) nv)):=by
 obtain⟨it,hi,hz⟩:=xA Tryz.zeroMem
 have hp:=Tryz.placesMem
 rw[Tryz.underlying88] at hp
 rw[oG _ hi Tryz.underlying88 hz hp]
 have e2:∀r:Array Value,(Value.agg r).cells=r:=fun _=>rfl
 rw[e2,sH (off:=201) rfl rfl (by decide),KT (off:=0) rfl (by decide)]
 rfl
theorem AX (ok:Nat→Prop) (w:World) (log:List UInt8):kT ok w (dmv (.string (str log))) false dR log none:=
  ⟨(lF ok w).same fun j hj=>by
    show dmv _ j=zv j
    unfold dmv eM zmv
    rw[if_neg (by omega),if_neg (by omega),if_pos hj],rfl,rfl,rfl,rfl⟩
theorem LV {ok:Nat→Prop} {w:World} {nv:Nat→Value} {s:aA} (h:bP ok w nv s) (log:List UInt8):kT ok w (rmv (.string (str log)) nv) true s log none:=by
 have hi:∀j,j<201→rmv (.string (str log)) nv j=nv j:=fun j hj=>by
  have:=qW (cv:=eM zmv 201 (.string (str log))) (o:=0) (N:=201) (f:=nv) hj
  rw[Nat.zero_add] at this
  exact this
 have ho:∀j,201≤j→rmv (.string (str log)) nv j=eM zmv 201 (.string (str log)) j:=fun j hj=>pB (Or.inr (by omega))
 exact⟨h.same hi,by rw[ho 201 (by omega)];rfl,by rw[ho 202 (by omega)];rfl,by rw[ho 203 (by omega)];rfl,by rw[ho 204 (by omega)];rfl⟩
def NU (B:Nat) (w:World) (v:Value) (r:kY):Prop:=∃x,v= .agg #[.int .i64 r.code,.int .i64 r.n,x]∧IsI (fun b=>B≤b∧dA w b) w x r.vals
def D9 (w:World) (v:Value) (a:iW):Prop:=∃ad cap,v= .agg #[.int .i64 a.kind,.int .i64 a.n,.int .i64 a.m,.slice ad a.ops.length cap]∧bW w ad cap a.ops
theorem Tryz.infoReply3:(Tryz.prog.info? 38).map (·.size)=some 3:=by kernel_rfl
theorem fJ (e:Int) (w:World):
  Calls Tryz.prog 46 #[.int .i64 e] w fun r w'=>r= .returned (.agg #[.int .i64 e,.int .i64 0,.slice none 0 0])∧Below w.heap.size w w':=by
 go_enter Tryz.func46,Tryz.ntmps46
 go_wp2
 exact bodyPost_ret (v:= .agg #[.int .i64 e,.int .i64 0,.slice none 0 0]) (results_cell_row Tryz.results46 _ _ w.heap.size 38 _ (0,0) _ rfl (aR _ _) Tryz.underlying38 rfl Tryz.infoReply3) rfl ⟨rfl,(Below.refl _ _).alloc (Nat.le_refl _) _⟩
def dW (n:Int):Bool:=decide (0≤n∧n<6)
theorem jF (n:Int) (w:World):
  Calls Tryz.prog 43 #[.int .i64 n] w fun e w'=>e= .returned (.bool (dW n))∧w'=w:=by
 by_cases h1:0≤n
 ·by_cases h2:n<6
  ·have E:Hid (dW n=true):=by unfold dW Hid;simp;omega
   have d1:decide (0≤n)=true:=by simpa using h1
   have d2:decide (n<6)=true:=by simpa using h2
   go_enter Tryz.func43,Tryz.ntmps43
   go_wp2
   go_ret
   exact⟨aF E.out.symm,rfl⟩
  ·have E:Hid (dW n=false):=by unfold dW Hid;simp;omega
   have d1:decide (0≤n)=true:=by simpa using h1
   have d2:decide (n<6)=false:=by simpa using h2
   go_enter Tryz.func43,Tryz.ntmps43
   go_wp2
   go_ret
   exact⟨aF E.out.symm,rfl⟩
 ·have E:Hid (dW n=false):=by unfold dW Hid;simp;omega
  have d1:decide (0≤n)=false:=by simpa using h1
  go_enter Tryz.func43,Tryz.ntmps43
  go_wp2
  go_ret
  exact⟨aF E.out.symm,rfl⟩
def j5 (n:Int):Bool:=decide (0≤n∧n≤400)
theorem k9 (n:Int) (w:World):
  Calls Tryz.prog 79 #[.int .i64 n] w fun e w'=>e= .returned (.bool (j5 n))∧w'=w:=by
 by_cases h1:0≤n
 ·by_cases h2:n≤400
  ·have E:Hid (j5 n=true):=by unfold j5 Hid;simp;omega
   have d1:decide (0≤n)=true:=by simpa using h1
   have d2:decide (n≤400)=true:=by simpa using h2
   go_enter Tryz.func79,Tryz.ntmps79
   go_wp2
   go_ret
   exact⟨aF E.out.symm,rfl⟩
  ·have E:Hid (j5 n=false):=by unfold j5 Hid;simp;omega
   have d1:decide (0≤n)=true:=by simpa using h1
   have d2:decide (n≤400)=false:=by simpa using h2
   go_enter Tryz.func79,Tryz.ntmps79
   go_wp2
   go_ret
   exact⟨aF E.out.symm,rfl⟩
 ·have E:Hid (j5 n=false):=by unfold j5 Hid;simp;omega
  have d1:decide (0≤n)=false:=by simpa using h1
  go_enter Tryz.func79,Tryz.ntmps79
  go_wp2
  go_ret
  exact⟨aF E.out.symm,rfl⟩
def eZ (c:aK) (n:Int):Bool:=decide (0≤n∧n<c.cnt)
theorem oA {ok:Nat→Prop} {p:Nat} {cv:Nat→Value} {acts:Nat} {c:aK} (n:Int) (w:World) (h:aD ok w p cv acts c):
  Calls Tryz.prog 53 #[.pointer (some ⟨p,0,none⟩),.int .i64 n] w fun e w'=>e= .returned (.bool (eZ c n))∧w'=w:=by
 have e1:w.cell? ⟨p,1,none⟩=some (.int .i64 c.cnt):=by rw[h.cell (by omega),h.clu.cnt]
 clear h
 by_cases h1:0≤n
 ·by_cases h2:n<c.cnt
  ·have E:Hid (eZ c n=true):=by unfold eZ Hid;simp;omega
   have d1:decide (0≤n)=true:=by simpa using h1
   have d2:decide (n<c.cnt)=true:=by simpa using h2
   go_enter Tryz.func53,Tryz.ntmps53
   go_wp2
   go_ret
   exact⟨aF E.out.symm,rfl⟩
  ·have E:Hid (eZ c n=false):=by unfold eZ Hid;simp;omega
   have d1:decide (0≤n)=true:=by simpa using h1
   have d2:decide (n<c.cnt)=false:=by simpa using h2
   go_enter Tryz.func53,Tryz.ntmps53
   go_wp2
   go_ret
   exact⟨aF E.out.symm,rfl⟩
 ·have E:Hid (eZ c n=false):=by unfold eZ Hid;simp;omega
  have d1:decide (0≤n)=false:=by simpa using h1
  go_enter Tryz.func53,Tryz.ntmps53
  go_wp2
  go_ret
  exact⟨aF E.out.symm,rfl⟩
theorem MS (w:World):
  Calls Tryz.prog 57 #[] w fun e w'=>e= .returned (.pointer (some ⟨w.heap.size,0,none⟩))∧w'.heap[w.heap.size]? =some (.cells (aB 2001 m5) 92 (0,0))∧Below w.heap.size w w':=by
 obtain⟨zr,hzr⟩:=zNm (aB 2001 m5)
 have HZ:Hid (Tryz.zeroCells92=zr):=by unfold Hid;rw[hzr];exact Tryz.zcClu
 rw[←hzr]
 have hx:Below w.heap.size w (w.alloc (.cells zr 92)):=(Below.refl _ _).alloc (Nat.le_refl _) _
 clear hzr
 go_enter Tryz.func57,Tryz.ntmps57
 go_wp2_with fail
 rw[HZ.out]
 go_ret
 exact⟨rfl,aR _ _,hx⟩
def bH (zs:List (List UInt8)):List Value:=zs.map fun z=>Value.string (str z)
theorem yA (zs:List (List UInt8)) (z:List UInt8):bH (zs++[z])=bH zs++[.string (str z)]:=by simp[bH]
theorem nY (zs:List (List UInt8)):∀u∈bH zs,u.oneCell'=true:=by
 intro u hu
 obtain⟨n,_,rfl⟩:=List.mem_map.1 hu
 rfl
def EE (w:World) (a:Option Addr) (cap:Nat) (zs:List (List UInt8)):Prop:=j1 (· <w.heap.size) w a zs∧zs.length≤maxLen∧zs.length≤cap∧(a=none→zs.length=0∧cap=0)
theorem IsT.sl {ok:Nat→Prop} {w:World} {v:Value} {zs:List (List UInt8)} (h:IsT ok w v zs):∃a cap,v= .slice a zs.length cap∧EE w a cap zs:=by
 obtain⟨a,cap,h1,h2,h3,h4,h5⟩:=h
 exact⟨a,cap,h1,h2.mono fun _ h _=>h,by unfold maxLen;omega,h4,h5⟩
def NR (w w':World) (v:Value) (zs:List (List UInt8)):Prop:=w'.ownsRow w.heap.size 9 1 v zs.length (bH zs)∧(zs.length=0→∃a,v= .slice a 0 0)∧Below w.heap.size w w'
theorem j1.news {w w1:World} {ad:Addr} {zs:List (List UInt8)} (h:j1 (· <w.heap.size) w (some ad) zs) (hb:Below w.heap.size w w1):∀j u,(bH zs)[j]? =some u→w1.cell? (ad.add j)=some u:=by
 intro j u hu
 rcases h with rfl | ⟨b,off,hb',hlt,hc⟩
 ·simp[bH] at hu
 ·obtain rfl:ad=⟨b,off,none⟩:=by simpa using hb'
  have hj:j<zs.length:=by
   obtain⟨hj,_⟩:=List.getElem?_eq_some_iff.1 hu
   simpa [bH] using hj
  rw[jD,hb.cell (p:=⟨b,off+j,none⟩) hlt,hc j hj]
  simp[bH,hj] at hu
  simp[List.getD,hj,hu]
theorem IsT.of_owns {w:World} {base:Nat} {e:TypeId} {v:Value} {zs:List (List UInt8)} (h:w.ownsRow base e 1 v zs.length (bH zs)) (hl:zs.length*16≤140737488355328):IsT (base≤·) w v zs:=by
 rcases h.2 with ⟨rfl,hn⟩ | ⟨g,cap,cur,rfl,hg,hh,hc,hm,hcur,hx⟩
 ·exact⟨none,0,by rw[hn],Or.inl (List.eq_nil_of_length_eq_zero hn),hl,by omega,fun _=>⟨hn,rfl⟩⟩
 ·refine⟨some ⟨g,0,none⟩,cap,rfl,Or.inr ⟨g,0,rfl,hg,fun i hi=>?_⟩,hl,hc,fun e=>by cases e⟩
  rw[cell_of_row w g (0+i) cur e _ hh]
  have h1:(cur.toList.take (zs.length*1))[i]? =(bH zs)[i]? :=by rw[hx]
  rw[List.getElem?_take_of_lt (by omega)] at h1
  simp only[Array.getElem?_toList] at h1
  rw[Nat.zero_add,h1]
  simp[bH,List.getD,hi]
theorem IsT.softly {ok:Nat→Prop} {w:World} {v:Value} {zs:List (List UInt8)} (h:IsT ok w v zs) (hs:fE w v):IsT (fun b=>ok b∧dA w b) w v zs:=by
 obtain⟨a,cap,rfl,h2,h3⟩:=h
 refine⟨a,cap,rfl,?_,h3⟩
 rcases h2 with h2 | ⟨b,off,rfl,hb,hc⟩
 ·exact Or.inl h2
 ·exact Or.inr ⟨b,off,rfl,⟨hb,hs b rfl⟩,hc⟩
theorem vP (a:Option Addr) (cap:Nat) (zs:List (List UInt8)) (w:World) (h:EE w a cap zs) (hl:zs.length*16≤140737488355328):
  Calls Tryz.prog 56 #[.slice a zs.length cap] w fun e w'=>∃v,e= .returned v∧NR w w' v zs:=by
 obtain⟨i0,hi,hz0,hz1,hz2⟩:=info_parts Tryz.infoText
 have he:=fun w=>Go.Lib.run_eql_slice_nil (P:=Tryz.prog) w 49 9 a zs.length cap 0 0 Tryz.underlying49
 cases a with
 | none=>
  obtain⟨h1,rfl⟩:=h.2.2.2 rfl
  obtain rfl:=List.eq_nil_of_length_eq_zero h1
  simp only[Option.isNone_none,List.length_nil] at he
  go_enter Tryz.func56,Tryz.ntmps56
  go_wp2
  go_ret
  exact⟨_,rfl,World.ownsRow_nil _ _ _ _,fun _=>⟨_,rfl⟩,Below.refl _ _⟩
 | some ad=>
  simp only[Option.isNone_some] at he
  obtain⟨hz,hm,hc,_⟩:=h
  have HB:Hid (Below w.heap.size w (w.alloc (.cells #[] 9))):=(Below.refl _ _).alloc (Nat.le_refl _) _
  have HZ:Hid (j1 (· <w.heap.size) w (some ad) zs):=hz
  clear hz
  by_cases h0:zs.length=0
  ·obtain rfl:=List.eq_nil_of_length_eq_zero h0
   simp only[List.length_nil] at he
   go_enter Tryz.func56,Tryz.ntmps56
   go_wp2_with (first
    | (at_builtin;refine wpList_append_fits_any _ rfl _ _ 49 rfl w.heap.size 9 i0 1 Tryz.underlying49 hi hz1 w.heap.size 0 0 [] rfl (World.ownsRow_made (e:=9) (size:=1) w #[] 0 (Nat.le_refl _) (by decide) rfl) (some ad) 0 cap [] rfl rfl (fun h=>by cases h) (fun _ _ j u hj=>by simp at hj) (by simp) (Nat.le_refl _) ?_;intro w2 hown hg)
    | go_in)
   go_wp2
   go_ret
   exact⟨_,rfl,hown,fun _=>⟨_,rfl⟩,HB.out.grown hg (by rw[size_push];omega) (by intro k hk;cases hk;exact Nat.le_refl _)⟩
  ·go_enter Tryz.func56,Tryz.ntmps56
   go_wp2_with (first
    | (at_builtin;refine wpList_append_own _ rfl _ _ 49 rfl w.heap.size 9 i0 (.string ⟨#[]⟩) 1 16 Tryz.underlying49 hi hz0 hz1 hz2 rfl (by decide) _ _ _ rfl (World.ownsRow_made (e:=9) (size:=1) w #[] 0 (Nat.le_refl _) (by decide) rfl) ad zs.length cap (bH zs) rfl ?c1 ?c2 ?c3 ?c4 ?c5 ?c6 ?_)
    | go_in)
   case c1=>simp[bH]
   case c2=>exact HZ.out.news HB.out
   case c3=>exact nY zs
   case c4=>unfold maxLen;omega
   case c5=>omega
   case c6=>rw[size_push];omega
   ·intro v' w2 hown hg _
    go_wp2
    go_ret
    refine⟨_,rfl,?_,fun h=>absurd h h0,HB.out.grown hg (by rw[size_push];omega) (by intro k hk;cases hk;exact Nat.le_refl _)⟩
    simpa using hown
def eI (c:aE):Bool:=!c.fixed && (decide (c.ops.length+c.deps.length=0) && (dI 6 c.told (fun _=>false) && (dI 6 c.known (fun _=>false) && (dI 4 c.has (fun _=>false) && wU 4 c.vals (fun _=>0)))))
theorem K6 (gr:Array Value) (c:aE) (w:World) (h:cP w gr c) (tf:c.fixed=true):
  Calls Tryz.prog 66 #[.agg gr] w fun e w'=>e= .returned (.bool (eI c))∧Below w.heap.size w w':=by
 have HE:Hid (eI c=false):=by unfold Hid eI;simp[tf]
 have Htf:Hid (c.fixed=true):=tf
 clear tf
 obtain⟨zr,hzr⟩:=zNm (aB 24 zcv)
 obtain⟨W,hW⟩:=zNm ((w.alloc (.cells gr 47)).alloc (.cells zr 47))
 have hb:=zB2 hW
 have hB1:bD w.heap.size W gr c:=by rw[hW];exact (bD.new h).later ((Below.refl _ _).alloc (Nat.le_refl _) _)
 have hB2:bD (w.heap.size+1) W zr cB:=by
  rw[hW,←size_push w (.cells gr 47),hzr]
  exact bD.new (jS _)
 have HW:Hid (W=(w.alloc (.cells gr 47)).alloc (.cells zr 47)):=hW
 have HB1:=hI9 hB1
 have HB2:=hI9 hB2
 have HZR:Hid (zr=aB 24 zcv):=hzr
 clear hW hB1 hB2 hzr h
 go_enter Tryz.func66,Tryz.ntmps66
 go_upto_region 2 with fail
 rw[←nJ,←HZR.out,←HW.out]
 clear HW HZR
 have q1:=HB1.out.fixed
 obtain⟨a2,c2,q2,hs2,hl2⟩:=HB1.out.ops
 obtain⟨a5,c5,q5,hs5,hl5⟩:=HB1.out.deps
 obtain⟨A1,hA1⟩:∃A,A=aG 6 c.told:=⟨_,rfl⟩
 obtain⟨A2,hA2⟩:∃A,A=aG 6 c.known:=⟨_,rfl⟩
 obtain⟨A3,hA3⟩:∃A,A=aG 4 c.has:=⟨_,rfl⟩
 obtain⟨A4,hA4⟩:∃A,A=aB 4 fun i=>Value.int .i64 (c.vals i):=⟨_,rfl⟩
 obtain⟨Z6,hZ6⟩:∃A,A=aG 6 fun _=>false:=⟨_,rfl⟩
 obtain⟨Z4,hZ4⟩:∃A,A=aG 4 fun _=>false:=⟨_,rfl⟩
 obtain⟨ZI,hZI⟩:∃A,A=aB 4 fun _=>Value.int .i64 0:=⟨_,rfl⟩
 have rA1:=HB1.out.rTold
 have rA2:=HB1.out.rKnown
 have rA3:=HB1.out.rHas
 have rA4:=HB1.out.rVals
 have rZ1:W.rangeAt (w.heap.size+1) 3 (aG 6 fun _=>false).toList:=HB2.out.rTold
 have rZ2:W.rangeAt (w.heap.size+1) 9 (aG 6 fun _=>false).toList:=HB2.out.rKnown
 have rZ3:W.rangeAt (w.heap.size+1) 16 (aG 4 fun _=>false).toList:=HB2.out.rHas
 have rZ4:W.rangeAt (w.heap.size+1) 20 (aB 4 fun _=>Value.int .i64 0).toList:=HB2.out.rVals
 have zA1:=fF (c.told)
 have zA2:=fF (c.known)
 have zA3:=iS (c.has)
 have zA4:=gR (c.vals)
 have zZ6:=fF (fun _=>false)
 have zZ4:=iS (fun _=>false)
 have zZI:=gR (fun _=>0)
 have e1:=fun w=>bT 9998 Tryz.underlying43 Tryz.underlying4 Tryz.infoBool c.told (fun _=>false) w
 have e2:=fun w=>bT 9998 Tryz.underlying43 Tryz.underlying4 Tryz.infoBool c.known (fun _=>false) w
 have e3:=fun w=>bT 9998 Tryz.underlying44 Tryz.underlying4 Tryz.infoBool c.has (fun _=>false) w
 have e4:=fun w=>h9 9998 Tryz.underlying45 Tryz.underlying3 Tryz.infoInt1 c.vals (fun _=>0) w
 have g6:=Tryz.sixGuard
 have g4:=Tryz.fourGuard
 have gI:=Tryz.fourIGuard
 rw[←hA1] at rA1 zA1 e1
 rw[←hA2] at rA2 zA2 e2
 rw[←hA3] at rA3 zA3 e3
 rw[←hA4] at rA4 zA4 e4
 rw[←hZ6] at rZ1 rZ2 zZ6 e1 e2
 rw[←hZ4] at rZ3 zZ4 e3
 rw[←hZI] at rZ4 zZI e4
 clear hA1 hA2 hA3 hA4 hZ6 hZ4 hZI HB1 HB2 hs2 hs5
 rw[Htf.out] at q1
 clear rA1 rZ1 zA1 e1 rA2 rZ2 zA2 e2 zZ6 g6 rA3 rZ3 zA3 zZ4 e3 g4 rA4 rZ4 zA4 zZI e4 gI
 go_wp2_with fail
 go_ret
 exact⟨aF HE.out.symm,hb⟩
theorem K7 (gr:Array Value) (c:aE) (w:World) (h:cP w gr c) (tf:c.fixed=false) (hl:¬ c.ops.length+c.deps.length=0):
  Calls Tryz.prog 66 #[.agg gr] w fun e w'=>e= .returned (.bool (eI c))∧Below w.heap.size w w':=by
 have HE:Hid (eI c=false):=by unfold Hid eI;rw[tf,decide_eq_false hl];rfl
 have Htf:Hid (c.fixed=false):=tf
 have Hhl:Hid (¬ c.ops.length+c.deps.length=0):=hl
 clear tf hl
 obtain⟨zr,hzr⟩:=zNm (aB 24 zcv)
 obtain⟨W,hW⟩:=zNm ((w.alloc (.cells gr 47)).alloc (.cells zr 47))
 have hb:=zB2 hW
 have hB1:bD w.heap.size W gr c:=by rw[hW];exact (bD.new h).later ((Below.refl _ _).alloc (Nat.le_refl _) _)
 have hB2:bD (w.heap.size+1) W zr cB:=by
  rw[hW,←size_push w (.cells gr 47),hzr]
  exact bD.new (jS _)
 have HW:Hid (W=(w.alloc (.cells gr 47)).alloc (.cells zr 47)):=hW
 have HB1:=hI9 hB1
 have HB2:=hI9 hB2
 have HZR:Hid (zr=aB 24 zcv):=hzr
 clear hW hB1 hB2 hzr h
 go_enter Tryz.func66,Tryz.ntmps66
 go_upto_region 2 with fail
 rw[←nJ,←HZR.out,←HW.out]
 clear HW HZR
 have q1:=HB1.out.fixed
 obtain⟨a2,c2,q2,hs2,hl2⟩:=HB1.out.ops
 obtain⟨a5,c5,q5,hs5,hl5⟩:=HB1.out.deps
 obtain⟨A1,hA1⟩:∃A,A=aG 6 c.told:=⟨_,rfl⟩
 obtain⟨A2,hA2⟩:∃A,A=aG 6 c.known:=⟨_,rfl⟩
 obtain⟨A3,hA3⟩:∃A,A=aG 4 c.has:=⟨_,rfl⟩
 obtain⟨A4,hA4⟩:∃A,A=aB 4 fun i=>Value.int .i64 (c.vals i):=⟨_,rfl⟩
 obtain⟨Z6,hZ6⟩:∃A,A=aG 6 fun _=>false:=⟨_,rfl⟩
 obtain⟨Z4,hZ4⟩:∃A,A=aG 4 fun _=>false:=⟨_,rfl⟩
 obtain⟨ZI,hZI⟩:∃A,A=aB 4 fun _=>Value.int .i64 0:=⟨_,rfl⟩
 have rA1:=HB1.out.rTold
 have rA2:=HB1.out.rKnown
 have rA3:=HB1.out.rHas
 have rA4:=HB1.out.rVals
 have rZ1:W.rangeAt (w.heap.size+1) 3 (aG 6 fun _=>false).toList:=HB2.out.rTold
 have rZ2:W.rangeAt (w.heap.size+1) 9 (aG 6 fun _=>false).toList:=HB2.out.rKnown
 have rZ3:W.rangeAt (w.heap.size+1) 16 (aG 4 fun _=>false).toList:=HB2.out.rHas
 have rZ4:W.rangeAt (w.heap.size+1) 20 (aB 4 fun _=>Value.int .i64 0).toList:=HB2.out.rVals
 have zA1:=fF (c.told)
 have zA2:=fF (c.known)
 have zA3:=iS (c.has)
 have zA4:=gR (c.vals)
 have zZ6:=fF (fun _=>false)
 have zZ4:=iS (fun _=>false)
 have zZI:=gR (fun _=>0)
 have e1:=fun w=>bT 9998 Tryz.underlying43 Tryz.underlying4 Tryz.infoBool c.told (fun _=>false) w
 have e2:=fun w=>bT 9998 Tryz.underlying43 Tryz.underlying4 Tryz.infoBool c.known (fun _=>false) w
 have e3:=fun w=>bT 9998 Tryz.underlying44 Tryz.underlying4 Tryz.infoBool c.has (fun _=>false) w
 have e4:=fun w=>h9 9998 Tryz.underlying45 Tryz.underlying3 Tryz.infoInt1 c.vals (fun _=>0) w
 have g6:=Tryz.sixGuard
 have g4:=Tryz.fourGuard
 have gI:=Tryz.fourIGuard
 rw[←hA1] at rA1 zA1 e1
 rw[←hA2] at rA2 zA2 e2
 rw[←hA3] at rA3 zA3 e3
 rw[←hA4] at rA4 zA4 e4
 rw[←hZ6] at rZ1 rZ2 zZ6 e1 e2
 rw[←hZ4] at rZ3 zZ4 e3
 rw[←hZI] at rZ4 zZI e4
 clear hA1 hA2 hA3 hA4 hZ6 hZ4 hZI HB1 HB2 hs2 hs5
 rw[Htf.out] at q1
 have hsum:IntKind.i64.wrap ((c.ops.length:Int)+(c.deps.length:Int))=(c.ops.length:Int)+(c.deps.length:Int):=fM _ (by omega) (by omega)
 have d1:((c.ops.length:Int)+(c.deps.length:Int) == 0)=false:=by have:=Hhl.out;simp;omega
 clear rA1 rZ1 zA1 e1 rA2 rZ2 zA2 e2 zZ6 g6 rA3 rZ3 zA3 zZ4 e3 g4 rA4 rZ4 zA4 zZI e4 gI
 go_wp2_with fail
 go_ret
 exact⟨aF HE.out.symm,hb⟩
theorem K8 (gr:Array Value) (c:aE) (w:World) (h:cP w gr c) (tf:c.fixed=false) (hl:c.ops.length+c.deps.length=0) (t1:dI 6 c.told (fun _=>false)=false):
  Calls Tryz.prog 66 #[.agg gr] w fun e w'=>e= .returned (.bool (eI c))∧Below w.heap.size w w':=by
 have HE:Hid (eI c=false):=by unfold Hid eI;rw[tf,decide_eq_true hl,t1];simp
 have Htf:Hid (c.fixed=false):=tf
 have Hhl:Hid (c.ops.length+c.deps.length=0):=hl
 have Ht1:Hid (dI 6 c.told (fun _=>false)=false):=t1
 clear tf hl t1
 obtain⟨zr,hzr⟩:=zNm (aB 24 zcv)
 obtain⟨W,hW⟩:=zNm ((w.alloc (.cells gr 47)).alloc (.cells zr 47))
 have hb:=zB2 hW
 have hB1:bD w.heap.size W gr c:=by rw[hW];exact (bD.new h).later ((Below.refl _ _).alloc (Nat.le_refl _) _)
 have hB2:bD (w.heap.size+1) W zr cB:=by
  rw[hW,←size_push w (.cells gr 47),hzr]
  exact bD.new (jS _)
 have HW:Hid (W=(w.alloc (.cells gr 47)).alloc (.cells zr 47)):=hW
 have HB1:=hI9 hB1
 have HB2:=hI9 hB2
 have HZR:Hid (zr=aB 24 zcv):=hzr
 clear hW hB1 hB2 hzr h
 go_enter Tryz.func66,Tryz.ntmps66
 go_upto_region 2 with fail
 rw[←nJ,←HZR.out,←HW.out]
 clear HW HZR
 have q1:=HB1.out.fixed
 obtain⟨a2,c2,q2,hs2,hl2⟩:=HB1.out.ops
 obtain⟨a5,c5,q5,hs5,hl5⟩:=HB1.out.deps
 obtain⟨A1,hA1⟩:∃A,A=aG 6 c.told:=⟨_,rfl⟩
 obtain⟨A2,hA2⟩:∃A,A=aG 6 c.known:=⟨_,rfl⟩
 obtain⟨A3,hA3⟩:∃A,A=aG 4 c.has:=⟨_,rfl⟩
 obtain⟨A4,hA4⟩:∃A,A=aB 4 fun i=>Value.int .i64 (c.vals i):=⟨_,rfl⟩
 obtain⟨Z6,hZ6⟩:∃A,A=aG 6 fun _=>false:=⟨_,rfl⟩
 obtain⟨Z4,hZ4⟩:∃A,A=aG 4 fun _=>false:=⟨_,rfl⟩
 obtain⟨ZI,hZI⟩:∃A,A=aB 4 fun _=>Value.int .i64 0:=⟨_,rfl⟩
 have rA1:=HB1.out.rTold
 have rA2:=HB1.out.rKnown
 have rA3:=HB1.out.rHas
 have rA4:=HB1.out.rVals
 have rZ1:W.rangeAt (w.heap.size+1) 3 (aG 6 fun _=>false).toList:=HB2.out.rTold
 have rZ2:W.rangeAt (w.heap.size+1) 9 (aG 6 fun _=>false).toList:=HB2.out.rKnown
 have rZ3:W.rangeAt (w.heap.size+1) 16 (aG 4 fun _=>false).toList:=HB2.out.rHas
 have rZ4:W.rangeAt (w.heap.size+1) 20 (aB 4 fun _=>Value.int .i64 0).toList:=HB2.out.rVals
 have zA1:=fF (c.told)
 have zA2:=fF (c.known)
 have zA3:=iS (c.has)
 have zA4:=gR (c.vals)
 have zZ6:=fF (fun _=>false)
 have zZ4:=iS (fun _=>false)
 have zZI:=gR (fun _=>0)
 have e1:=fun w=>bT 9998 Tryz.underlying43 Tryz.underlying4 Tryz.infoBool c.told (fun _=>false) w
 have e2:=fun w=>bT 9998 Tryz.underlying43 Tryz.underlying4 Tryz.infoBool c.known (fun _=>false) w
 have e3:=fun w=>bT 9998 Tryz.underlying44 Tryz.underlying4 Tryz.infoBool c.has (fun _=>false) w
 have e4:=fun w=>h9 9998 Tryz.underlying45 Tryz.underlying3 Tryz.infoInt1 c.vals (fun _=>0) w
 have g6:=Tryz.sixGuard
 have g4:=Tryz.fourGuard
 have gI:=Tryz.fourIGuard
 rw[←hA1] at rA1 zA1 e1
 rw[←hA2] at rA2 zA2 e2
 rw[←hA3] at rA3 zA3 e3
 rw[←hA4] at rA4 zA4 e4
 rw[←hZ6] at rZ1 rZ2 zZ6 e1 e2
 rw[←hZ4] at rZ3 zZ4 e3
 rw[←hZI] at rZ4 zZI e4
 clear hA1 hA2 hA3 hA4 hZ6 hZ4 hZI HB1 HB2 hs2 hs5
 rw[Htf.out] at q1
 have hsum:IntKind.i64.wrap ((c.ops.length:Int)+(c.deps.length:Int))=(c.ops.length:Int)+(c.deps.length:Int):=fM _ (by omega) (by omega)
 have d1:((c.ops.length:Int)+(c.deps.length:Int) == 0)=true:=by have:=Hhl.out;simp;omega
 rw[Ht1.out] at e1
 clear rA2 rZ2 zA2 e2 rA3 rZ3 zA3 zZ4 e3 g4 rA4 rZ4 zA4 zZI e4 gI
 go_wp2_with (first
  | ((with_reducible apply dV rA1);(· rfl);(· exact zA1);(· rfl);simp only[Act.put,sA,sZ,sS])
  | ((with_reducible apply dV rZ1);(· rfl);(· exact zZ6);(· rfl);simp only[Act.put,sA,sZ,sS])
  | fail)
 go_ret
 exact⟨aF HE.out.symm,hb⟩
theorem K9 (gr:Array Value) (c:aE) (w:World) (h:cP w gr c) (tf:c.fixed=false) (hl:c.ops.length+c.deps.length=0) (t1:dI 6 c.told (fun _=>false)=true) (t2:dI 6 c.known (fun _=>false)=false):
  Calls Tryz.prog 66 #[.agg gr] w fun e w'=>e= .returned (.bool (eI c))∧Below w.heap.size w w':=by
 have HE:Hid (eI c=false):=by unfold Hid eI;rw[tf,decide_eq_true hl,t1,t2];simp
 have Htf:Hid (c.fixed=false):=tf
 have Hhl:Hid (c.ops.length+c.deps.length=0):=hl
 have Ht1:Hid (dI 6 c.told (fun _=>false)=true):=t1
 have Ht2:Hid (dI 6 c.known (fun _=>false)=false):=t2
 clear tf hl t1 t2
 obtain⟨zr,hzr⟩:=zNm (aB 24 zcv)
 obtain⟨W,hW⟩:=zNm ((w.alloc (.cells gr 47)).alloc (.cells zr 47))
 have hb:=zB2 hW
 have hB1:bD w.heap.size W gr c:=by rw[hW];exact (bD.new h).later ((Below.refl _ _).alloc (Nat.le_refl _) _)
 have hB2:bD (w.heap.size+1) W zr cB:=by
  rw[hW,←size_push w (.cells gr 47),hzr]
  exact bD.new (jS _)
 have HW:Hid (W=(w.alloc (.cells gr 47)).alloc (.cells zr 47)):=hW
 have HB1:=hI9 hB1
 have HB2:=hI9 hB2
 have HZR:Hid (zr=aB 24 zcv):=hzr
 clear hW hB1 hB2 hzr h
 go_enter Tryz.func66,Tryz.ntmps66
 go_upto_region 2 with fail
 rw[←nJ,←HZR.out,←HW.out]
 clear HW HZR
 have q1:=HB1.out.fixed
 obtain⟨a2,c2,q2,hs2,hl2⟩:=HB1.out.ops
 obtain⟨a5,c5,q5,hs5,hl5⟩:=HB1.out.deps
 obtain⟨A1,hA1⟩:∃A,A=aG 6 c.told:=⟨_,rfl⟩
 obtain⟨A2,hA2⟩:∃A,A=aG 6 c.known:=⟨_,rfl⟩
 obtain⟨A3,hA3⟩:∃A,A=aG 4 c.has:=⟨_,rfl⟩
 obtain⟨A4,hA4⟩:∃A,A=aB 4 fun i=>Value.int .i64 (c.vals i):=⟨_,rfl⟩
 obtain⟨Z6,hZ6⟩:∃A,A=aG 6 fun _=>false:=⟨_,rfl⟩
 obtain⟨Z4,hZ4⟩:∃A,A=aG 4 fun _=>false:=⟨_,rfl⟩
 obtain⟨ZI,hZI⟩:∃A,A=aB 4 fun _=>Value.int .i64 0:=⟨_,rfl⟩
 have rA1:=HB1.out.rTold
 have rA2:=HB1.out.rKnown
 have rA3:=HB1.out.rHas
 have rA4:=HB1.out.rVals
 have rZ1:W.rangeAt (w.heap.size+1) 3 (aG 6 fun _=>false).toList:=HB2.out.rTold
 have rZ2:W.rangeAt (w.heap.size+1) 9 (aG 6 fun _=>false).toList:=HB2.out.rKnown
 have rZ3:W.rangeAt (w.heap.size+1) 16 (aG 4 fun _=>false).toList:=HB2.out.rHas
 have rZ4:W.rangeAt (w.heap.size+1) 20 (aB 4 fun _=>Value.int .i64 0).toList:=HB2.out.rVals
 have zA1:=fF (c.told)
 have zA2:=fF (c.known)
 have zA3:=iS (c.has)
 have zA4:=gR (c.vals)
 have zZ6:=fF (fun _=>false)
 have zZ4:=iS (fun _=>false)
 have zZI:=gR (fun _=>0)
 have e1:=fun w=>bT 9998 Tryz.underlying43 Tryz.underlying4 Tryz.infoBool c.told (fun _=>false) w
 have e2:=fun w=>bT 9998 Tryz.underlying43 Tryz.underlying4 Tryz.infoBool c.known (fun _=>false) w
 have e3:=fun w=>bT 9998 Tryz.underlying44 Tryz.underlying4 Tryz.infoBool c.has (fun _=>false) w
 have e4:=fun w=>h9 9998 Tryz.underlying45 Tryz.underlying3 Tryz.infoInt1 c.vals (fun _=>0) w
 have g6:=Tryz.sixGuard
 have g4:=Tryz.fourGuard
 have gI:=Tryz.fourIGuard
 rw[←hA1] at rA1 zA1 e1
 rw[←hA2] at rA2 zA2 e2
 rw[←hA3] at rA3 zA3 e3
 rw[←hA4] at rA4 zA4 e4
 rw[←hZ6] at rZ1 rZ2 zZ6 e1 e2
 rw[←hZ4] at rZ3 zZ4 e3
 rw[←hZI] at rZ4 zZI e4
 clear hA1 hA2 hA3 hA4 hZ6 hZ4 hZI HB1 HB2 hs2 hs5
 rw[Htf.out] at q1
 have hsum:IntKind.i64.wrap ((c.ops.length:Int)+(c.deps.length:Int))=(c.ops.length:Int)+(c.deps.length:Int):=fM _ (by omega) (by omega)
 have d1:((c.ops.length:Int)+(c.deps.length:Int) == 0)=true:=by have:=Hhl.out;simp;omega
 rw[Ht1.out] at e1
 rw[Ht2.out] at e2
 clear rA3 rZ3 zA3 zZ4 e3 g4 rA4 rZ4 zA4 zZI e4 gI
 go_wp2_with (first
  | ((with_reducible apply dV rA1);(· rfl);(· exact zA1);(· rfl);simp only[Act.put,sA,sZ,sS])
  | ((with_reducible apply dV rZ1);(· rfl);(· exact zZ6);(· rfl);simp only[Act.put,sA,sZ,sS])
  | ((with_reducible apply dV rA2);(· rfl);(· exact zA2);(· rfl);simp only[Act.put,sA,sZ,sS])
  | ((with_reducible apply dV rZ2);(· rfl);(· exact zZ6);(· rfl);simp only[Act.put,sA,sZ,sS])
  | fail)
 go_ret
 exact⟨aF HE.out.symm,hb⟩
theorem LA (gr:Array Value) (c:aE) (w:World) (h:cP w gr c) (tf:c.fixed=false) (hl:c.ops.length+c.deps.length=0) (t1:dI 6 c.told (fun _=>false)=true) (t2:dI 6 c.known (fun _=>false)=true) (t3:dI 4 c.has (fun _=>false)=false):
  Calls Tryz.prog 66 #[.agg gr] w fun e w'=>e= .returned (.bool (eI c))∧Below w.heap.size w w':=by
 have HE:Hid (eI c=false):=by unfold Hid eI;rw[tf,decide_eq_true hl,t1,t2,t3];simp
 have Htf:Hid (c.fixed=false):=tf
 have Hhl:Hid (c.ops.length+c.deps.length=0):=hl
 have Ht1:Hid (dI 6 c.told (fun _=>false)=true):=t1
 have Ht2:Hid (dI 6 c.known (fun _=>false)=true):=t2
 have Ht3:Hid (dI 4 c.has (fun _=>false)=false):=t3
 clear tf hl t1 t2 t3
 obtain⟨zr,hzr⟩:=zNm (aB 24 zcv)
 obtain⟨W,hW⟩:=zNm ((w.alloc (.cells gr 47)).alloc (.cells zr 47))
 have hb:=zB2 hW
 have hB1:bD w.heap.size W gr c:=by rw[hW];exact (bD.new h).later ((Below.refl _ _).alloc (Nat.le_refl _) _)
 have hB2:bD (w.heap.size+1) W zr cB:=by
  rw[hW,←size_push w (.cells gr 47),hzr]
  exact bD.new (jS _)
 have HW:Hid (W=(w.alloc (.cells gr 47)).alloc (.cells zr 47)):=hW
 have HB1:=hI9 hB1
 have HB2:=hI9 hB2
 have HZR:Hid (zr=aB 24 zcv):=hzr
 clear hW hB1 hB2 hzr h
 go_enter Tryz.func66,Tryz.ntmps66
 go_upto_region 2 with fail
 rw[←nJ,←HZR.out,←HW.out]
 clear HW HZR
 have q1:=HB1.out.fixed
 obtain⟨a2,c2,q2,hs2,hl2⟩:=HB1.out.ops
 obtain⟨a5,c5,q5,hs5,hl5⟩:=HB1.out.deps
 obtain⟨A1,hA1⟩:∃A,A=aG 6 c.told:=⟨_,rfl⟩
 obtain⟨A2,hA2⟩:∃A,A=aG 6 c.known:=⟨_,rfl⟩
 obtain⟨A3,hA3⟩:∃A,A=aG 4 c.has:=⟨_,rfl⟩
 obtain⟨A4,hA4⟩:∃A,A=aB 4 fun i=>Value.int .i64 (c.vals i):=⟨_,rfl⟩
 obtain⟨Z6,hZ6⟩:∃A,A=aG 6 fun _=>false:=⟨_,rfl⟩
 obtain⟨Z4,hZ4⟩:∃A,A=aG 4 fun _=>false:=⟨_,rfl⟩
 obtain⟨ZI,hZI⟩:∃A,A=aB 4 fun _=>Value.int .i64 0:=⟨_,rfl⟩
 have rA1:=HB1.out.rTold
 have rA2:=HB1.out.rKnown
 have rA3:=HB1.out.rHas
 have rA4:=HB1.out.rVals
 have rZ1:W.rangeAt (w.heap.size+1) 3 (aG 6 fun _=>false).toList:=HB2.out.rTold
 have rZ2:W.rangeAt (w.heap.size+1) 9 (aG 6 fun _=>false).toList:=HB2.out.rKnown
 have rZ3:W.rangeAt (w.heap.size+1) 16 (aG 4 fun _=>false).toList:=HB2.out.rHas
 have rZ4:W.rangeAt (w.heap.size+1) 20 (aB 4 fun _=>Value.int .i64 0).toList:=HB2.out.rVals
 have zA1:=fF (c.told)
 have zA2:=fF (c.known)
 have zA3:=iS (c.has)
 have zA4:=gR (c.vals)
 have zZ6:=fF (fun _=>false)
 have zZ4:=iS (fun _=>false)
 have zZI:=gR (fun _=>0)
 have e1:=fun w=>bT 9998 Tryz.underlying43 Tryz.underlying4 Tryz.infoBool c.told (fun _=>false) w
 have e2:=fun w=>bT 9998 Tryz.underlying43 Tryz.underlying4 Tryz.infoBool c.known (fun _=>false) w
 have e3:=fun w=>bT 9998 Tryz.underlying44 Tryz.underlying4 Tryz.infoBool c.has (fun _=>false) w
 have e4:=fun w=>h9 9998 Tryz.underlying45 Tryz.underlying3 Tryz.infoInt1 c.vals (fun _=>0) w
 have g6:=Tryz.sixGuard
 have g4:=Tryz.fourGuard
 have gI:=Tryz.fourIGuard
 rw[←hA1] at rA1 zA1 e1
 rw[←hA2] at rA2 zA2 e2
 rw[←hA3] at rA3 zA3 e3
 rw[←hA4] at rA4 zA4 e4
 rw[←hZ6] at rZ1 rZ2 zZ6 e1 e2
 rw[←hZ4] at rZ3 zZ4 e3
 rw[←hZI] at rZ4 zZI e4
 clear hA1 hA2 hA3 hA4 hZ6 hZ4 hZI HB1 HB2 hs2 hs5
 rw[Htf.out] at q1
 have hsum:IntKind.i64.wrap ((c.ops.length:Int)+(c.deps.length:Int))=(c.ops.length:Int)+(c.deps.length:Int):=fM _ (by omega) (by omega)
 have d1:((c.ops.length:Int)+(c.deps.length:Int) == 0)=true:=by have:=Hhl.out;simp;omega
 rw[Ht1.out] at e1
 rw[Ht2.out] at e2
 rw[Ht3.out] at e3
 clear rA4 rZ4 zA4 zZI e4 gI
 go_wp2_with (first
  | ((with_reducible apply dV rA1);(· rfl);(· exact zA1);(· rfl);simp only[Act.put,sA,sZ,sS])
  | ((with_reducible apply dV rZ1);(· rfl);(· exact zZ6);(· rfl);simp only[Act.put,sA,sZ,sS])
  | ((with_reducible apply dV rA2);(· rfl);(· exact zA2);(· rfl);simp only[Act.put,sA,sZ,sS])
  | ((with_reducible apply dV rZ2);(· rfl);(· exact zZ6);(· rfl);simp only[Act.put,sA,sZ,sS])
  | ((with_reducible apply dV rA3);(· rfl);(· exact zA3);(· rfl);simp only[Act.put,sA,sZ,sS])
  | ((with_reducible apply dV rZ3);(· rfl);(· exact zZ4);(· rfl);simp only[Act.put,sA,sZ,sS])
  | fail)
 go_ret
 exact⟨aF HE.out.symm,hb⟩
theorem LB (gr:Array Value) (c:aE) (w:World) (h:cP w gr c) (tf:c.fixed=false) (hl:c.ops.length+c.deps.length=0) (t1:dI 6 c.told (fun _=>false)=true) (t2:dI 6 c.known (fun _=>false)=true) (t3:dI 4 c.has (fun _=>false)=true):
  Calls Tryz.prog 66 #[.agg gr] w fun e w'=>e= .returned (.bool (eI c))∧Below w.heap.size w w':=by
 have HE:Hid (eI c=wU 4 c.vals fun _=>0):=by unfold Hid eI;rw[tf,decide_eq_true hl,t1,t2,t3];simp
 have Htf:Hid (c.fixed=false):=tf
 have Hhl:Hid (c.ops.length+c.deps.length=0):=hl
 have Ht1:Hid (dI 6 c.told (fun _=>false)=true):=t1
 have Ht2:Hid (dI 6 c.known (fun _=>false)=true):=t2
 have Ht3:Hid (dI 4 c.has (fun _=>false)=true):=t3
 clear tf hl t1 t2 t3
 obtain⟨zr,hzr⟩:=zNm (aB 24 zcv)
 obtain⟨W,hW⟩:=zNm ((w.alloc (.cells gr 47)).alloc (.cells zr 47))
 have hb:=zB2 hW
 have hB1:bD w.heap.size W gr c:=by rw[hW];exact (bD.new h).later ((Below.refl _ _).alloc (Nat.le_refl _) _)
 have hB2:bD (w.heap.size+1) W zr cB:=by
  rw[hW,←size_push w (.cells gr 47),hzr]
  exact bD.new (jS _)
 have HW:Hid (W=(w.alloc (.cells gr 47)).alloc (.cells zr 47)):=hW
 have HB1:=hI9 hB1
 have HB2:=hI9 hB2
 have HZR:Hid (zr=aB 24 zcv):=hzr
 clear hW hB1 hB2 hzr h
 go_enter Tryz.func66,Tryz.ntmps66
 go_upto_region 2 with fail
 rw[←nJ,←HZR.out,←HW.out]
 clear HW HZR
 have q1:=HB1.out.fixed
 obtain⟨a2,c2,q2,hs2,hl2⟩:=HB1.out.ops
 obtain⟨a5,c5,q5,hs5,hl5⟩:=HB1.out.deps
 obtain⟨A1,hA1⟩:∃A,A=aG 6 c.told:=⟨_,rfl⟩
 obtain⟨A2,hA2⟩:∃A,A=aG 6 c.known:=⟨_,rfl⟩
 obtain⟨A3,hA3⟩:∃A,A=aG 4 c.has:=⟨_,rfl⟩
 obtain⟨A4,hA4⟩:∃A,A=aB 4 fun i=>Value.int .i64 (c.vals i):=⟨_,rfl⟩
 obtain⟨Z6,hZ6⟩:∃A,A=aG 6 fun _=>false:=⟨_,rfl⟩
 obtain⟨Z4,hZ4⟩:∃A,A=aG 4 fun _=>false:=⟨_,rfl⟩
 obtain⟨ZI,hZI⟩:∃A,A=aB 4 fun _=>Value.int .i64 0:=⟨_,rfl⟩
 have rA1:=HB1.out.rTold
 have rA2:=HB1.out.rKnown
 have rA3:=HB1.out.rHas
 have rA4:=HB1.out.rVals
 have rZ1:W.rangeAt (w.heap.size+1) 3 (aG 6 fun _=>false).toList:=HB2.out.rTold
 have rZ2:W.rangeAt (w.heap.size+1) 9 (aG 6 fun _=>false).toList:=HB2.out.rKnown
 have rZ3:W.rangeAt (w.heap.size+1) 16 (aG 4 fun _=>false).toList:=HB2.out.rHas
 have rZ4:W.rangeAt (w.heap.size+1) 20 (aB 4 fun _=>Value.int .i64 0).toList:=HB2.out.rVals
 have zA1:=fF (c.told)
 have zA2:=fF (c.known)
 have zA3:=iS (c.has)
 have zA4:=gR (c.vals)
 have zZ6:=fF (fun _=>false)
 have zZ4:=iS (fun _=>false)
 have zZI:=gR (fun _=>0)
 have e1:=fun w=>bT 9998 Tryz.underlying43 Tryz.underlying4 Tryz.infoBool c.told (fun _=>false) w
 have e2:=fun w=>bT 9998 Tryz.underlying43 Tryz.underlying4 Tryz.infoBool c.known (fun _=>false) w
 have e3:=fun w=>bT 9998 Tryz.underlying44 Tryz.underlying4 Tryz.infoBool c.has (fun _=>false) w
 have e4:=fun w=>h9 9998 Tryz.underlying45 Tryz.underlying3 Tryz.infoInt1 c.vals (fun _=>0) w
 have g6:=Tryz.sixGuard
 have g4:=Tryz.fourGuard
 have gI:=Tryz.fourIGuard
 rw[←hA1] at rA1 zA1 e1
 rw[←hA2] at rA2 zA2 e2
 rw[←hA3] at rA3 zA3 e3
 rw[←hA4] at rA4 zA4 e4
 rw[←hZ6] at rZ1 rZ2 zZ6 e1 e2
 rw[←hZ4] at rZ3 zZ4 e3
 rw[←hZI] at rZ4 zZI e4
 clear hA1 hA2 hA3 hA4 hZ6 hZ4 hZI HB1 HB2 hs2 hs5
 rw[Htf.out] at q1
 have hsum:IntKind.i64.wrap ((c.ops.length:Int)+(c.deps.length:Int))=(c.ops.length:Int)+(c.deps.length:Int):=fM _ (by omega) (by omega)
 have d1:((c.ops.length:Int)+(c.deps.length:Int) == 0)=true:=by have:=Hhl.out;simp;omega
 rw[Ht1.out] at e1
 rw[Ht2.out] at e2
 rw[Ht3.out] at e3
 go_wp2_with (first
  | ((with_reducible apply dV rA1);(· rfl);(· exact zA1);(· rfl);simp only[Act.put,sA,sZ,sS])
  | ((with_reducible apply dV rZ1);(· rfl);(· exact zZ6);(· rfl);simp only[Act.put,sA,sZ,sS])
  | ((with_reducible apply dV rA2);(· rfl);(· exact zA2);(· rfl);simp only[Act.put,sA,sZ,sS])
  | ((with_reducible apply dV rZ2);(· rfl);(· exact zZ6);(· rfl);simp only[Act.put,sA,sZ,sS])
  | ((with_reducible apply dV rA3);(· rfl);(· exact zA3);(· rfl);simp only[Act.put,sA,sZ,sS])
  | ((with_reducible apply dV rZ3);(· rfl);(· exact zZ4);(· rfl);simp only[Act.put,sA,sZ,sS])
  | ((with_reducible apply dV rA4);(· rfl);(· exact zA4);(· rfl);simp only[Act.put,sA,sZ,sS])
  | ((with_reducible apply dV rZ4);(· rfl);(· exact zZI);(· rfl);simp only[Act.put,sA,sZ,sS])
  | fail)
 go_ret
 exact⟨aF HE.out.symm,hb⟩
theorem LK (gr:Array Value) (c:aE) (w:World) (h:cP w gr c):
  Calls Tryz.prog 66 #[.agg gr] w fun e w'=>e= .returned (.bool (eI c))∧Below w.heap.size w w':=by
 cases tf:c.fixed
 ·by_cases hl:c.ops.length+c.deps.length=0
  ·cases t1:dI 6 c.told fun _=>false
   ·exact K8 gr c w h tf hl t1
   ·cases t2:dI 6 c.known fun _=>false
    ·exact K9 gr c w h tf hl t1 t2
    ·cases t3:dI 4 c.has fun _=>false
     ·exact LA gr c w h tf hl t1 t2 t3
     ·exact LB gr c w h tf hl t1 t2 t3
  ·exact K7 gr c w h tf hl
 ·exact K6 gr c w h tf
theorem J8 {c:aE} (hb:c.begun=false):eB c=eI c:=by
 unfold eB eI
 rw[if_neg (by rw[hb];decide),Bool.eq_iff_iff]
 simp only[Bool.and_eq_true,Bool.not_eq_true',List.isEmpty_iff,AN,dI,wU,List.all_eq_true,List.mem_range,decide_eq_true_eq,beq_iff_eq]
 constructor
 ·rintro⟨⟨⟨⟨⟨⟨h1,h2⟩,h3⟩,h4⟩,h5⟩,h6⟩,h7⟩
  exact⟨h1,by rw[h2,h5];rfl,h3,h4,h6,h7⟩
 ·rintro⟨h1,h2,h3,h4,h6,h7⟩
  exact⟨⟨⟨⟨⟨⟨h1,List.eq_nil_of_length_eq_zero (by omega)⟩,h3⟩,h4⟩,List.eq_nil_of_length_eq_zero (by omega)⟩,h6⟩,h7⟩
theorem I5 (gr:Array Value) (c:aE) (w:World) (h:cP w gr c):
  Calls Tryz.prog 37 #[.agg gr] w fun e w'=>e= .returned (.bool (eB c))∧Below w.heap.size w w':=by
 obtain⟨W,hW⟩:=zNm (w.alloc (.cells gr 47))
 have hb:=zB1 hW
 have hB:bD w.heap.size W gr c:=by rw[hW];exact bD.new h
 have rB:=hB.row
 have tB:=hB.case.row
 have HB:=hI9 hB
 have HW:Hid (W=w.alloc (.cells gr 47)):=hW
 have q0:=hB.begun
 obtain⟨a2,c2,q2,hs2,hl2⟩:=hB.ops
 obtain⟨a5,c5,q5,hs5,hl5⟩:=hB.deps
 clear hW hB h
 cases t0:c.begun
 ·have HE:Hid (eB c=eI c):=J8 t0
  rw[t0] at q0
  go_enter Tryz.func37,Tryz.ntmps37
  go_upto_region 1 with fail
  rw[←HW.out]
  clear HW
  go_wp2_with (first
   | ((with_reducible apply cC rB);(· rfl);(· exact tB);(· rfl);simp only[Act.put,sA,sZ,sS])
   | fail)
  refine (LK gr c W HB.out.case).mono ?_
  rintro e w1 ⟨rfl,hb1⟩
  have hb2:=hb.trans (hb1.mono hb.size)
  clear hb1
  go_wp2
  go_ret
  exact⟨aF HE.out.symm,hb2⟩
 ·have HE:Hid (eB c=(bM c.ops && bE (-1) c.deps)):=kD t0
  rw[t0] at q0
  go_enter Tryz.func37,Tryz.ntmps37
  go_upto_region 1 with fail
  rw[←HW.out]
  clear HW
  go_wp2_with fail
  refine (kO a2 c2 c.ops W hs2.2.1 hs2.1).mono ?_
  rintro e w1 ⟨rfl,hb1⟩
  have hb2:=hb.trans (hb1.mono hb.size)
  have hs5':=hs5.later hb1
  have p5:w1.cell? ⟨w.heap.size,15,none⟩=some (.slice a5 c.deps.length c5):=by rw[hb1.cell (p:=⟨w.heap.size,15,none⟩) HB.out.lt];exact q5
  clear hb1 q0 q2 q5
  cases t1:bM c.ops
  ·have HF:Hid (eB c=false):=by unfold Hid;rw[HE.out,t1];rfl
   go_wp2
   go_ret
   exact⟨aF HF.out.symm,hb2⟩
  ·have HF:Hid (eB c=bE (-1) c.deps):=by unfold Hid;rw[HE.out,t1];rfl
   go_wp2_with fail
   refine (oB a5 c5 c.deps w1 hs5'.2.1 hs5'.1).mono ?_
   rintro e w2 ⟨rfl,hw⟩
   subst hw
   go_wp2
   go_ret
   exact⟨aF HF.out.symm,hb2⟩
theorem wL (gr:Array Value) (c:aE) (id:Int) (w:World) (h:cP w gr c):
  Calls Tryz.prog 96 #[.agg gr,.int .i64 id] w fun e w'=>e= .returned (.bool (dF c id))∧Below w.heap.size w w':=by
 obtain⟨W,hW⟩:=zNm (w.alloc (.cells gr 47))
 have hb:=zB1 hW
 have hB:bD w.heap.size W gr c:=by rw[hW];exact bD.new h
 have rB:=hB.row
 have tB:=hB.case.row
 have HB:=hI9 hB
 have HW:Hid (W=w.alloc (.cells gr 47)):=hW
 clear hW hB h
 go_enter Tryz.func96,Tryz.ntmps96
 go_upto_region 1 with fail
 rw[←HW.out]
 clear HW
 go_wp2_with (first
  | ((with_reducible apply cC rB);(· rfl);(· exact tB);(· rfl);simp only[Act.put,sA,sZ,sS])
  | fail)
 refine (I5 gr c W HB.out.case).mono ?_
 rintro e w1 ⟨rfl,hb1⟩
 have hb2:=hb.trans (hb1.mono hb.size)
 have HB1:Hid (bD w.heap.size w1 gr c):=HB.out.later hb1
 clear hb1 rB
 cases t1:eB c
 ·have HE:Hid (dF c id=false):=by unfold Hid dF;rw[t1];rfl
  go_wp2
  go_ret
  exact⟨aF HE.out.symm,hb2⟩
 have q0:=HB1.out.begun
 cases t2:c.begun
 ·have HE:Hid (dF c id=false):=by unfold Hid dF;rw[t1,t2];rfl
  rw[t2] at q0
  go_wp2
  go_ret
  exact⟨aF HE.out.symm,hb2⟩
 have HE:Hid (dF c id= !dK c.deps id):=by unfold Hid dF;rw[t1,t2];rfl
 rw[t2] at q0
 obtain⟨a5,c5,q5,hs5,hl5⟩:=HB1.out.deps
 go_wp2_with fail
 refine (mP a5 c5 c.deps id w1 hs5.2.1 hs5.1).mono ?_
 rintro e w2 ⟨rfl,hw⟩
 subst hw
 go_wp2
 go_ret
 exact⟨aF HE.out.symm,hb2⟩
end Go.Proofs.YtkoefoccbjhoiacGreat
