/-
squeezed by tools/squeeze.py from: GSpec GSort GLink NodeL NodeG GLearn NodeS NodeT NMem PostL CMem CluN Confl
-/
import Derived.Test.YtkoefoccbjhoiadGreatTmem3
import Derived.Test.YtkoefoccbjhoiadGreatTmem2
import Derived.Test.YtkoefoccbjhoiadGreatTmem1
set_option linter.unusedVariables false
set_option linter.unusedSimpArgs false
set_option maxRecDepth 100000
set_option maxHeartbeats 16000000
namespace Go.Proofs.YtkoefoccbjhoiadGreat
open Go.RowKit
def jQ (H:Nat→Nat→Bool) (D placed:Nat→Bool) (x:Nat):Bool:=D x && !placed x && (List.range 32).all fun m=>!H x m || placed m || H m x
def gL (H:Nat→Nat→Bool) (x:Nat):List Nat:=(List.range 32).filter fun m=>H x m && H m x
def iT (H:Nat→Nat→Bool) (D placed:Nat→Bool):List Nat:=match (List.range 32).find? (jQ H D placed) with
 | none=>[]
 | some x=>gL H x
def dQ (H:Nat→Nat→Bool) (D:Nat→Bool):Nat→List Nat
 | 0=>[]
 | j+1=>dQ H D j++iT H D (fun i=>(dQ H D j).contains i)
structure Clo (H:Nat→Nat→Bool) (D:Nat→Bool):Prop where
 refl:∀x,x<32→D x=true→H x x=true
 trans:∀x y z,D x=true→H x y=true→H y z=true→H x z=true
 closed:∀x y,D x=true→H x y=true→D y=true
 lt:∀x,D x=true→x<32
theorem DU {H:Nat→Nat→Bool} {D placed:Nat→Bool} (h:∀x,x<32→jQ H D placed x=false):iT H D placed=[]:=by
 have:(List.range 32).find? (jQ H D placed)=none:=by
  rw[List.find?_eq_none]
  intro x hx
  rw[h x (List.mem_range.1 hx)]
  simp
 unfold iT
 rw[this]
theorem DV {H:Nat→Nat→Bool} {D placed:Nat→Bool} {x:Nat} (hx:x<32) (h:jQ H D placed x=true) (hl:∀y,y<x→jQ H D placed y=false):iT H D placed=gL H x:=by
 have:(List.range 32).find? (jQ H D placed)=some x:=by
  rw[List.find?_range_eq_some]
  exact⟨h,List.mem_range.2 hx,fun j hj=>by rw[hl j hj];rfl⟩
 unfold iT
 rw[this]
theorem kN (H:Nat→Nat→Bool) (D placed:Nat→Bool):(iT H D placed=[]∧∀x,x<32→jQ H D placed x=false)∨∃x,x<32∧jQ H D placed x=true∧(∀y,y<x→jQ H D placed y=false)∧iT H D placed=gL H x:=by
 cases hq:(List.range 32).find? (jQ H D placed) with
 | none=>
  left
  rw[List.find?_eq_none] at hq
  refine⟨by unfold iT;rw[(List.find?_eq_none.2 hq)],fun x hx=>by simpa using hq x (List.mem_range.2 hx)⟩
 | some x=>
  right
  have hq':=hq
  rw[List.find?_range_eq_some] at hq
  obtain⟨h1,h2,h3⟩:=hq
  exact⟨x,List.mem_range.1 h2,h1,fun y hy=>by simpa using h3 y hy,by unfold iT;rw[hq']⟩
theorem jR {H:Nat→Nat→Bool} {D placed:Nat→Bool} {x:Nat}:jQ H D placed x=true↔D x=true∧placed x=false∧∀m,m<32→H x m=true→placed m=true∨H m x=true:=by
 unfold jQ
 simp only[Bool.and_eq_true,Bool.not_eq_true',List.all_eq_true,List.mem_range,Bool.or_eq_true]
 constructor
 ·rintro⟨⟨h1,h2⟩,h3⟩
  refine⟨h1,h2,fun m hm hx=>?_⟩
  rcases h3 m hm with (h | h) | h
  ·rw[hx] at h;cases h
  ·exact Or.inl h
  ·exact Or.inr h
 ·rintro⟨h1,h2,h3⟩
  refine⟨⟨h1,h2⟩,fun m hm=>?_⟩
  cases hx:H x m
  ·exact Or.inl (Or.inl rfl)
  ·rcases h3 m hm hx with h | h
   ·exact Or.inl (Or.inr h)
   ·exact Or.inr h
theorem iA {H:Nat→Nat→Bool} {x m:Nat}:m∈gL H x↔m<32∧H x m=true∧H m x=true:=by
 unfold gL
 rw[List.mem_filter,List.mem_range,Bool.and_eq_true]
theorem pV {H H':Nat→Nat→Bool} {D D' placed:Nat→Bool} (hc:Clo H D) (hD:∀x,x<32→D x=D' x) (hH:∀x,D x=true→∀y,y<32→H x y=H' x y) {x:Nat} (hx:x<32):jQ H D placed x=jQ H' D' placed x:=by
 rw[Bool.eq_iff_iff,jR,jR,←hD x hx]
 constructor
 ·rintro⟨h1,h2,h3⟩
  refine⟨h1,h2,fun m hm hxm=>?_⟩
  rw[←hH x h1 m hm] at hxm
  rw[←hH m (hc.closed x m h1 hxm) x hx]
  exact h3 m hm hxm
 ·rintro⟨h1,h2,h3⟩
  refine⟨h1,h2,fun m hm hxm=>?_⟩
  have:=h3 m hm (by rw[←hH x h1 m hm];exact hxm)
  rw[hH m (hc.closed x m h1 hxm) x hx]
  exact this
theorem BZ {H H':Nat→Nat→Bool} {D:Nat→Bool} (hc:Clo H D) (hH:∀x,D x=true→∀y,y<32→H x y=H' x y) {x:Nat} (hx:x<32) (hd:D x=true):gL H x=gL H' x:=by
 unfold gL
 refine List.filter_congr fun m hm=>?_
 have hm:=List.mem_range.1 hm
 rw[←hH x hd m hm]
 cases hxm:H x m
 ·rfl
 ·rw[hH m (hc.closed x m hd hxm) x hx]
theorem DY {H H':Nat→Nat→Bool} {D D':Nat→Bool} (hc:Clo H D) (hD:∀x,x<32→D x=D' x) (hH:∀x,D x=true→∀y,y<32→H x y=H' x y):∀j,dQ H D j=dQ H' D' j
 | 0=>rfl
 | j+1=>by
  have ih:=DY hc hD hH j
  show dQ H D j++_=dQ H' D' j++_
  rw[ih]
  congr 1
  rcases kN H D (fun i=>(dQ H' D' j).contains i) with ⟨h1,h2⟩ | ⟨x,h1,h2,h3,h4⟩
  ·rw[h1,DU fun x hx=>by rw[←pV hc hD hH hx];exact h2 x hx]
  ·rw[h4,DV h1 (by rw[←pV hc hD hH h1];exact h2) (fun y hy=>by rw[←pV hc hD hH (by omega)];exact h3 y hy)]
   exact BZ hc hH h1 (jR.1 h2).1
structure vS (H:Nat→Nat→Bool) (D:Nat→Bool) (out:List Nat):Prop where
 nodup:out.Nodup
 inD:∀x∈out,D x=true
 rings:∀x y,y<32→H x y=true→H y x=true→x∈out→y∈out
 behind:∀pre x post,out=pre++x::post→∀d,d<32→H x d=true→d∈pre∨H d x=true
theorem GC {H:Nat→Nat→Bool} {D:Nat→Bool} (hc:Clo H D) {out:List Nat} (h:vS H D out):vS H D (out++iT H D (fun i=>out.contains i)):=by
 rcases kN H D (fun i=>out.contains i) with ⟨h1,h2⟩ | ⟨x,h1,h2,h3,h4⟩
 ·rw[h1,List.append_nil];exact h
 ·rw[h4]
  obtain⟨m1,m2,m3⟩:=jR.1 h2
  have hx:x ∉ out:=by simpa using m2
  have inR:∀y∈gL H x,D y=true:=fun y hy=>hc.closed x y m1 (iA.1 hy).2.1
  refine⟨?_,?_,?_,?_⟩
  ·rw[List.nodup_append]
   refine⟨h.nodup,List.Pairwise.filter _ List.nodup_range,fun a ha b hb e=>?_⟩
   subst e
   have hb:=iA.1 hb
   exact hx (h.rings a x h1 hb.2.2 hb.2.1 ha)
  ·intro y hy
   rcases List.mem_append.1 hy with hy | hy
   ·exact h.inD y hy
   ·exact inR y hy
  ·intro y z hz h5 h6 hy
   rcases List.mem_append.1 hy with hy | hy
   ·exact List.mem_append_left _ (h.rings y z hz h5 h6 hy)
   ·have hq:=iA.1 hy
    have dy:=inR y hy
    have dz:=hc.closed y z dy h5
    exact List.mem_append_right _ (iA.2 ⟨hz,hc.trans x y z m1 hq.2.1 h5,hc.trans z y x dz h6 hq.2.2⟩)
  ·intro pre y post e d hd hyd
   rw[List.append_eq_append_iff] at e
   rcases e with ⟨qs,e1,e2⟩ | ⟨bs,e1,e2⟩
   ·
    have hy:y∈gL H x:=by rw[e2];simp
    have hq:=iA.1 hy
    have hxd:=hc.trans x y d m1 hq.2.1 hyd
    rcases m3 d hd hxd with hp | hp
    ·left
     rw[e1]
     exact List.mem_append_left _ (by simpa using hp)
    ·right
     exact hc.trans d x y (hc.closed x d m1 hxd) hp hq.2.1
   ·cases bs with
    | nil=>
     have e2':y::post=gL H x:=by simpa using e2
     have hy:y∈gL H x:=by rw[←e2'];simp
     have hq:=iA.1 hy
     have hxd:=hc.trans x y d m1 hq.2.1 hyd
     rcases m3 d hd hxd with hp | hp
     ·left
      have e1':out=pre:=by simpa using e1
      rw[←e1']
      simpa using hp
     ·right
      exact hc.trans d x y (hc.closed x d m1 hxd) hp hq.2.1
    | cons b bs=>
     simp only[List.cons_append,List.cons.injEq] at e2
     obtain⟨rfl,e3⟩:=e2
     exact h.behind pre y bs e1 d hd hyd
theorem mY {H:Nat→Nat→Bool} {D:Nat→Bool} (hc:Clo H D):∀j,vS H D (dQ H D j)
 | 0=>⟨.nil,by simp[dQ],by simp[dQ],by simp[dQ]⟩
 | j+1=>GC hc (mY hc j)
theorem vS.len {H:Nat→Nat→Bool} {D:Nat→Bool} (hc:Clo H D) {out:List Nat} (h:vS H D out):out.length≤32:=zV 32 out h.nodup (fun x hx=>hc.lt x (h.inD x hx))
theorem p9 {H:Nat→Nat→Bool} {D:Nat→Bool} {j:Nat} (h:iT H D (fun i=>(dQ H D j).contains i)=[]):∀i,dQ H D (j+i)=dQ H D j
 | 0=>rfl
 | i+1=>by
  have ih:=p9 h i
  show dQ H D (j+i)++iT H D (fun k=>(dQ H D (j+i)).contains k)=_
  rw[ih,h,List.append_nil]
theorem pZ {H:Nat→Nat→Bool} {D:Nat→Bool} (hc:Clo H D):∀j,j≤(dQ H D j).length∨iT H D (fun i=>(dQ H D j).contains i)=[]
 | 0=>Or.inl (Nat.zero_le _)
 | j+1=>by
  rcases kN H D (fun i=>(dQ H D j).contains i) with ⟨h1,_⟩ | ⟨x,h1,h2,_,h4⟩
  ·right
   rw[p9 h1 1]
   exact h1
  ·rcases pZ hc j with h | h
   ·left
    show j+1≤(dQ H D j++iT H D (fun i=>(dQ H D j).contains i)).length
    have hd:=(jR.1 h2).1
    have:x∈gL H x:=iA.2 ⟨h1,hc.refl x h1 hd,hc.refl x h1 hd⟩
    rw[h4,List.length_append]
    have:=List.length_pos_of_mem this
    omega
   ·right
    rw[p9 h 1]
    exact h
theorem JU {H:Nat→Nat→Bool} {D:Nat→Bool} (hc:Clo H D):iT H D (fun i=>(dQ H D 32).contains i)=[]:=by
 rcases pZ hc 33 with h | h
 ·have:=(mY hc 33).len hc
  omega
 ·rcases pZ hc 32 with h2 | h2
  ·rcases kN H D (fun i=>(dQ H D 32).contains i) with ⟨h1,_⟩ | ⟨x,h1,h3,_,h4⟩
   ·exact h1
   ·have hd:=(jR.1 h3).1
    have hx:x∈gL H x:=iA.2 ⟨h1,hc.refl x h1 hd,hc.refl x h1 hd⟩
    have h5:=(mY hc 33).len hc
    have h6:(dQ H D 33).length=(dQ H D 32).length+(gL H x).length:=by
     show (dQ H D 32++iT H D (fun i=>(dQ H D 32).contains i)).length=_
     rw[h4,List.length_append]
    have:=List.length_pos_of_mem hx
    omega
  ·exact h2
theorem AQ {H:Nat→Nat→Bool} {D:Nat→Bool} (hc:Clo H D) (placed:Nat→Bool):∀(k x:Nat),(List.range 32).countP (H x)≤k→D x=true→placed x=false→∃y,y<32∧jQ H D placed y=true
 | 0,x,hk,hd,hp=>by
  have hx:=hc.lt x hd
  have:0<(List.range 32).countP (H x):=List.countP_pos_iff.2 ⟨x,List.mem_range.2 hx,hc.refl x hx hd⟩
  omega
 | k+1,x,hk,hd,hp=>by
  have hx:=hc.lt x hd
  cases hm:jQ H D placed x
  ·have:∃m,m<32∧H x m=true∧placed m=false∧H m x=false:=by
    cases Classical.em (∃m,m<32∧H x m=true∧placed m=false∧H m x=false) with
    | inl h=>exact h
    | inr h=>
     exfalso
     have:jQ H D placed x=true:=jR.2 ⟨hd,hp,fun m hm' hxm=>by
      cases hpm:placed m
      ·cases hmx:H m x
       ·exact absurd ⟨m,hm',hxm,hpm,hmx⟩ h
       ·exact Or.inr rfl
      ·exact Or.inl rfl⟩
     rw[this] at hm
     cases hm
   obtain⟨m,h1,h2,h3,h4⟩:=this
   have hdm:=hc.closed x m hd h2
   refine AQ hc placed k m ?_ hdm h3
   have hlt:(List.range 32).countP (H m)<(List.range 32).countP (H x):=by
    have h5:(List.range 32).countP (H x)=(List.range 32).countP (fun i=>H x i && H m i)+(List.range 32).countP (fun i=>H x i && !H m i):=by
     generalize List.range 32=l
     induction l with
     | nil=>rfl
     | cons a l ih=>
      simp only[List.countP_cons,ih]
      cases H x a<;>cases H m a<;>simp<;>omega
    have h6:(List.range 32).countP (fun i=>H x i && H m i)=(List.range 32).countP (H m):=by
     refine List.countP_congr fun i _=>?_
     rw[Bool.and_eq_true]
     exact⟨fun h=>h.2,fun h=>⟨hc.trans x m i hd h2 h,h⟩⟩
    have h7:0<(List.range 32).countP (fun i=>H x i && !H m i):=List.countP_pos_iff.2 ⟨x,List.mem_range.2 hx,by rw[hc.refl x hx hd,h4];rfl⟩
    omega
   omega
  ·exact⟨x,hx,hm⟩
theorem AC {H:Nat→Nat→Bool} {D:Nat→Bool} (hc:Clo H D) (x:Nat):x∈dQ H D 32↔D x=true:=by
 refine⟨fun h=>(mY hc 32).inD x h,fun hd=>?_⟩
 cases Classical.em (x∈dQ H D 32) with
 | inl h=>exact h
 | inr h=>
  exfalso
  obtain⟨y,hy,hm⟩:=AQ hc (fun i=>(dQ H D 32).contains i) _ x (Nat.le_refl _) hd (by simpa using h)
  have he:=JU hc
  rcases kN H D (fun i=>(dQ H D 32).contains i) with ⟨_,h2⟩ | ⟨z,h1,h3,_,h4⟩
  ·rw[h2 y hy] at hm;cases hm
  ·have hdz:=(jR.1 h3).1
   have hz:z∈gL H z:=iA.2 ⟨h1,hc.refl z h1 hdz,hc.refl z h1 hdz⟩
   rw[←h4,he] at hz
   simp at hz
def pP (H:Nat→Nat→Bool) (out:List Nat):Prop:=
 ∀pre x post,out=pre++x::post→∀d,d<32→H x d=true→H d x=true→d≠x→(d∈pre↔d<x)
theorem EG (H:Nat→Nat→Bool) (x:Nat):(gL H x).Pairwise (· < ·):=List.Pairwise.filter _ List.pairwise_lt_range
theorem CE {r1 r2:List Nat} {x d:Nat} (h:(r1++x::r2).Pairwise (· < ·)) (hd:d∈r1++x::r2) (hx:d≠x):d∈r1↔d<x:=by
 rw[List.pairwise_append,List.pairwise_cons] at h
 obtain⟨_,⟨h2,_⟩,h3⟩:=h
 constructor
 ·intro h1
  exact h3 d h1 x (by simp)
 ·intro h1
  rcases List.mem_append.1 hd with h4 | h4
  ·exact h4
  ·rcases List.mem_cons.1 h4 with h5 | h5
   ·exact absurd h5 hx
   ·have:=h2 d h5
    omega
theorem xZ {H:Nat→Nat→Bool} {D:Nat→Bool} (hc:Clo H D) {out:List Nat} (L:vS H D out) (h:pP H out):pP H (out++iT H D (fun i=>out.contains i)):=by
 rcases kN H D (fun i=>out.contains i) with ⟨h1,_⟩ | ⟨y,h1,h2,_,h4⟩
 ·rw[h1,List.append_nil];exact h
 ·rw[h4]
  obtain⟨m1,m2,_⟩:=jR.1 h2
  have hy:y ∉ out:=by simpa using m2
  have ring:∀r1 x r2,gL H y=r1++x::r2→∀d,d<32→H x d=true→H d x=true→d≠x→(d∈out++r1↔d<x):=by
   intro r1 x r2 e d hd hxd hdx hne
   have hx:x∈gL H y:=by rw[e];simp
   have hq:=iA.1 hx
   have dx:=hc.closed y x m1 hq.2.1
   have dd:=hc.closed x d dx hxd
   have hyd:=hc.trans y x d m1 hq.2.1 hxd
   have hdy:=hc.trans d x y dd hdx hq.2.2
   have hr:d∈gL H y:=iA.2 ⟨hd,hyd,hdy⟩
   have hno:d ∉ out:=fun ho=>hy (L.rings d y h1 hdy hyd ho)
   have hs:=EG H y
   rw[e] at hs hr
   rw[←CE hs hr hne,List.mem_append]
   exact⟨fun h=>h.resolve_left hno,Or.inr⟩
  intro pre x post e d hd hxd hdx hne
  rw[List.append_eq_append_iff] at e
  rcases e with ⟨qs,e1,e2⟩ | ⟨bs,e1,e2⟩
  ·rw[e1]
   exact ring qs x post e2 d hd hxd hdx hne
  ·cases bs with
   | nil=>
    have e2':gL H y=[]++x::post:=by simpa using e2.symm
    have e1':out=pre:=by simpa using e1
    have:=ring [] x post e2' d hd hxd hdx hne
    rw[List.append_nil,e1'] at this
    exact this
   | cons b bs=>
    simp only[List.cons_append,List.cons.injEq] at e2
    obtain⟨rfl,_⟩:=e2
    exact h pre x bs e1 d hd hxd hdx hne
theorem sU {H:Nat→Nat→Bool} {D:Nat→Bool} (hc:Clo H D):∀j,pP H (dQ H D j)
 | 0=>by intro pre x post e;simp[dQ] at e
 | j+1=>xZ hc (mY hc j) (sU hc j)
structure nH (H:Nat→Nat→Bool) (L:List Nat):Prop where
 nodup:L.Nodup
 lt:∀x∈L,x<32
 closed:∀x∈L,∀d,d<32→H x d=true→d∈L
 behind:∀pre x post,L=pre++x::post→∀d,d<32→H x d=true→H d x=false→d∈pre
 ring:pP H L
theorem EP (H:Nat→Nat→Bool):nH H []:=⟨.nil,by simp,by simp,by intro pre x post e;simp at e,by intro pre x post e;simp at e⟩
theorem n7 {p:Nat→Bool}:∀{out pre post:List Nat} {x:Nat},out.filter p=pre++x::post→∃a b,out=a++x::b∧a.filter p=pre∧b.filter p=post
 | [],pre,post,x,h=>by simp at h
 | y::out,pre,post,x,h=>by
  cases hp:p y
  ·rw[List.filter_cons_of_neg (by simp[hp])] at h
   obtain⟨a,b,h1,h2,h3⟩:=n7 h
   exact⟨y::a,b,by rw[h1];rfl,by rw[List.filter_cons_of_neg (by simp[hp])];exact h2,h3⟩
  ·rw[List.filter_cons_of_pos hp] at h
   cases pre with
   | nil=>
    simp at h
    exact⟨[],out,by rw[h.1];rfl,rfl,h.2⟩
   | cons z pre=>
    simp at h
    obtain⟨a,b,h1,h2,h3⟩:=n7 h.2
    exact⟨y::a,b,by rw[h1];rfl,by rw[List.filter_cons_of_pos hp,h2,h.1],h3⟩
theorem CD {H:Nat→Nat→Bool} {D:Nat→Bool} (hc:Clo H D) {L:List Nat} (h:nH H L):nH H (L++(dQ H D 32).filter fun x=>!L.contains x):=by
 have La:=mY hc 32
 have Nu:=sU hc 32
 have mem:∀x,x∈(dQ H D 32).filter (fun x=>!L.contains x)↔D x=true∧x ∉ L:=by
  intro x
  rw[List.mem_filter,AC hc x]
  simp
 have all:∀x,D x=true→x∈L++(dQ H D 32).filter fun x=>!L.contains x:=by
  intro x hx
  by_cases hl:x∈L
  ·exact List.mem_append_left _ hl
  ·exact List.mem_append_right _ ((mem x).2 ⟨hx,hl⟩)
 have new:∀p1 x p2,(dQ H D 32).filter (fun x=>!L.contains x)=p1++x::p2→∀d,d<32→H x d=true→(H d x=false→d∈L++p1)∧(H d x=true→d≠x→(d∈L++p1↔d<x)):=by
  intro p1 x p2 e d hd hxd
  obtain⟨a,b,e1,e2,_⟩:=n7 e
  have hx:=(mem x).1 (by rw[e];simp)
  have dd:=hc.closed x d hx.1 hxd
  have inA:∀z,z ∉ L→(z∈p1↔z∈a):=by
   intro z hz
   rw[←e2,List.mem_filter]
   simp[hz]
  refine⟨fun hn=>?_,fun hb hne=>?_⟩
  ·rcases La.behind a x b e1 d hd hxd with h1 | h1
   ·by_cases hl:d∈L
    ·exact List.mem_append_left _ hl
    ·exact List.mem_append_right _ ((inA d hl).2 h1)
   ·rw[hn] at h1;cases h1
  ·have hl:d ∉ L:=fun hl=>hx.2 (h.closed d hl x (hc.lt x hx.1) hb)
   rw[List.mem_append,inA d hl,←Nu a x b e1 d hd hxd hb hne]
   exact⟨fun h=>h.resolve_left hl,Or.inr⟩
 refine⟨?_,?_,?_,?_,?_⟩
 ·rw[List.nodup_append]
  refine⟨h.nodup,List.Pairwise.filter _ La.nodup,fun a ha b hb e=>?_⟩
  subst e
  exact ((mem a).1 hb).2 ha
 ·intro x hx
  rcases List.mem_append.1 hx with hx | hx
  ·exact h.lt x hx
  ·exact hc.lt x ((mem x).1 hx).1
 ·intro x hx d hd hxd
  rcases List.mem_append.1 hx with hx | hx
  ·exact List.mem_append_left _ (h.closed x hx d hd hxd)
  ·exact all d (hc.closed x d ((mem x).1 hx).1 hxd)
 ·intro pre x post e d hd hxd hn
  rw[List.append_eq_append_iff] at e
  rcases e with ⟨qs,e1,e2⟩ | ⟨bs,e1,e2⟩
  ·rw[e1]
   exact (new qs x post e2 d hd hxd).1 hn
  ·cases bs with
   | nil=>
    have e1':L=pre:=by simpa using e1
    have:=(new [] x post (by simpa using e2.symm) d hd hxd).1 hn
    rw[List.append_nil,e1'] at this
    exact this
   | cons b bs=>
    simp only[List.cons_append,List.cons.injEq] at e2
    obtain⟨rfl,_⟩:=e2
    exact h.behind pre x bs e1 d hd hxd hn
 ·intro pre x post e d hd hxd hdx hne
  rw[List.append_eq_append_iff] at e
  rcases e with ⟨qs,e1,e2⟩ | ⟨bs,e1,e2⟩
  ·rw[e1]
   exact (new qs x post e2 d hd hxd).2 hdx hne
  ·cases bs with
   | nil=>
    have e1':L=pre:=by simpa using e1
    have:=(new [] x post (by simpa using e2.symm) d hd hxd).2 hdx hne
    rw[List.append_nil,e1'] at this
    exact this
   | cons b bs=>
    simp only[List.cons_append,List.cons.injEq] at e2
    obtain⟨rfl,_⟩:=e2
    exact h.ring pre x bs e1 d hd hxd hdx hne
theorem nH.later {H H':Nat→Nat→Bool} {L:List Nat} (h:nH H L) (e:∀x∈L,∀y,y<32→H x y=H' x y):nH H' L:=by
 have inL:∀pre x post,L=pre++x::post→x∈L:=fun pre x post e=>by rw[e];simp
 have back:∀pre x post d,L=pre++x::post→d<32→H' x d=true→d∈L:=fun pre x post d eL hd hx=>h.closed x (inL pre x post eL) d hd (by rw[e x (inL pre x post eL) d hd];exact hx)
 refine⟨h.nodup,h.lt,fun x hx d hd hxd=>h.closed x hx d hd (by rw[e x hx d hd];exact hxd),fun pre x post eL d hd hxd hn=>?_,fun pre x post eL d hd hxd hdx hne=>?_⟩
 ·have hx:=inL pre x post eL
  have hdL:=back pre x post d eL hd hxd
  exact h.behind pre x post eL d hd (by rw[e x hx d hd];exact hxd) (by rw[e d hdL x (h.lt x hx)];exact hn)
 ·have hx:=inL pre x post eL
  have hdL:=back pre x post d eL hd hxd
  exact h.ring pre x post eL d hd (by rw[e x hx d hd];exact hxd) (by rw[e d hdL x (h.lt x hx)];exact hdx) hne
theorem b9.lt {g:bH} {x y:Nat} (h:b9 g.adj x y) (hx:x<32):y<32:=by
 induction h using b9.ind with
 | refl=>exact hx
 | step a _ ih=>exact ih (g.adj_lt _ _ a)
theorem y8 (g:bH) {n:Nat} (hn:n<32):Clo (cG g) (cG g n):=by
 have lt:∀x,cG g n x=true→x<32:=fun x hx=>((cL g hn x).1 hx).lt hn
 refine⟨fun x hx _=>(cL g hx x).2 (.refl x),fun x y z hx h1 h2=>?_,fun x y hx h1=>?_,lt⟩
 ·have hx':=lt x hx
  have h1':=(cL g hx' y).1 h1
  have hy:=h1'.lt hx'
  exact (cL g hx' z).2 (h1'.trans ((cL g hy z).1 h2))
 ·have hx':=lt x hx
  exact (cL g hn y).2 (((cL g hn x).1 hx).trans ((cL g hx' y).1 h1))
theorem l9 (g:bH) {n x:Nat} (hn:n<32) (hx:b9 g.adj n x) (j:Nat):(fN g n).reach x j=cG g x j:=by
 rw[Bool.eq_iff_iff,cL g (hx.lt hn) j]
 exact (mP g.adj_lt hn).2.1 x hx j
theorem tQ (g:bH) {n x m:Nat} (hn:n<32) (hx:b9 g.adj n x) (hm:m<32):eC (fN g n).reach x m=(cG g x m && cG g m x):=by
 have hx':=hx.lt hn
 rw[Bool.eq_iff_iff,Bool.and_eq_true]
 unfold eC
 rw[jL]
 constructor
 ·intro h
  have h1:(fN g n).reach m x=true:=by
   rw[←h x hx',l9 g hn hx]
   exact (cL g hx' x).2 (.refl x)
  have hmn:b9 g.adj n m:=by
   cases Classical.em (b9 g.adj n m) with
   | inl h=>exact h
   | inr h2=>
    have:=(mP g.adj_lt hn).2.2 m h2 x
    unfold fN at h1
    rw[this] at h1
    cases h1
  rw[l9 g hn hmn] at h1
  refine⟨?_,h1⟩
  have h2:=h m hm
  rw[l9 g hn hx,l9 g hn hmn] at h2
  rw[h2]
  exact (cL g hm m).2 (.refl m)
 ·rintro⟨h1,h2⟩ j _
  have h1':=(cL g hx' m).1 h1
  have h2':=(cL g hm x).1 h2
  rw[l9 g hn hx,l9 g hn (hx.trans h1'),Bool.eq_iff_iff,cL g hx',cL g hm]
  exact⟨fun h=>h2'.trans h,fun h=>h1'.trans h⟩
theorem LL (g:bH) {n:Nat} (hn:n<32) (x:Nat):decide (0<(fN g n).turn x)=cG g n x:=by
 rw[Bool.eq_iff_iff,decide_eq_true_iff,cL g hn x,←(mP g.adj_lt hn).1 x]
 unfold fN
 omega
theorem LK (g:bH) {n x:Nat} (hn:n<32) (placed:Nat→Bool):kT (fN g n).reach (fN g n).turn placed x=jQ (cG g) (cG g n) placed x:=by
 unfold kT jQ
 rw[LL g hn]
 cases hd:cG g n x
 ·rfl
 ·have hx:=(cL g hn x).1 hd
  have hx':=hx.lt hn
  congr 1
  unfold iY
  rw[Bool.eq_iff_iff,List.all_eq_true,List.all_eq_true]
  constructor
  ·intro h m hm
   have:=h m hm
   rw[l9 g hn hx,tQ g hn hx (List.mem_range.1 hm)] at this
   cases hxm:cG g x m
   ·simp
   ·rw[hxm] at this
    simpa using this
  ·intro h m hm
   have:=h m hm
   rw[l9 g hn hx,tQ g hn hx (List.mem_range.1 hm)]
   cases hxm:cG g x m
   ·simp
   ·rw[hxm] at this
    simpa using this
theorem I3 (g:bH) {n x:Nat} (hn:n<32) (hd:cG g n x=true):mO (fN g n).reach x=gL (cG g) x:=by
 unfold mO gL
 exact List.filter_congr fun m hm=>tQ g hn ((cL g hn x).1 hd) (List.mem_range.1 hm)
theorem I2 (g:bH) {n:Nat} (hn:n<32) (placed:Nat→Bool):fZ (fN g n).reach (fN g n).turn placed=iT (cG g) (cG g n) placed:=by
 have e:kT (fN g n).reach (fN g n).turn placed=jQ (cG g) (cG g n) placed:=funext fun x=>LK g hn placed
 unfold fZ nS iT
 rw[e]
 cases hq:(List.range 32).find? (jQ (cG g) (cG g n) placed) with
 | none=>rfl
 | some x=>
  have:=List.find?_some hq
  exact I3 g hn (jR.1 this).1
theorem CL (g:bH) {n:Nat} (hn:n<32):∀j,dF (fN g n).reach (fN g n).turn j=dQ (cG g) (cG g n) j
 | 0=>rfl
 | j+1=>by
  show dF (fN g n).reach (fN g n).turn j++_=dQ (cG g) (cG g n) j++_
  rw[CL g hn j,I2 g hn]
theorem vD (g:bH) {n:Nat} (hn:n<32):AB g n=dQ (cG g) (cG g n) 32:=CL g hn 32
theorem DS {g:bH} {S:Nat→Bool}:iN g S 32=true↔∀i,i<32→S i=true→g.known i=true:=by
 unfold iN
 simp only[List.all_eq_true,List.mem_range,Bool.or_eq_true,Bool.not_eq_true']
 constructor
 ·intro h i hi hs
  rcases h i hi with h | h
  ·rw[hs] at h;cases h
  ·exact h
 ·intro h i hi
  cases hs:S i
  ·exact Or.inl rfl
  ·exact Or.inr (h i hi hs)
structure cW where
 state:Int
 ops:List OpL
 first:List Int
 deps:List Int
 ats:List Int
 vals:List Int
def kD:cW:=⟨0,[],[],[],[],[]⟩
structure aA where
 ent:Nat→cW
 order:List Int
 vals:Nat→Int
def dP:aA:=⟨fun _=>kD,[],fun _=>0⟩
def dM:Int→Nat→List Int→Bool
 | _,_,[]=>true
 | l,n,k::r=>decide (l<k) && decide (k<(n:Int)) && dM k n r
structure CW (e:cW) (n:Nat):Prop where
 st:1≤e.state∧e.state≤3
 ops:bN e.ops=true
 first:bC (-1) e.first=true∧d9 e.first n=false
 deps:bC (-1) e.deps=true∧d9 e.deps n=false
 asked:e.state=1→e.deps=[]
 told:e.state≠3→e.ats=[]
 ats:dM (-1) e.ops.length e.ats=true
 vals:e.vals.length=e.ats.length
structure bQ (s:aA):Prop where
 ent:∀n:Nat,n<32→s.ent n=kD∨CW (s.ent n) n
 cnt:∀n:Nat,n<32→s.order.count (n:Int)=if (s.ent n).state=3 then 1 else 0
 lt:∀x∈s.order,0≤x∧x<32
def aA.ahead (s:aA) (id:Nat) (ops:List OpL) (sh:Int):List Int:=cK (fun n=>n !=id && decide (0<(s.ent n).state) && eA (s.ent n).ops ops sh) 32
def cN (sh:Int):Nat→List OpL→(Nat→Int)→(Nat→Int) × List Int × List Int
  | _,[],v=>(v,[],[])
  | i,o::r,v=>
    if o.2.1 % 2 == sh then ((cN sh (i+1) r (upd v o.2.1.toNat (doL (v o.2.1.toNat) o.1 o.2.2))).1,(i:Int)::(cN sh (i+1) r (upd v o.2.1.toNat (doL (v o.2.1.toNat) o.1 o.2.2))).2.1,
      doL (v o.2.1.toNat) o.1 o.2.2::(cN sh (i+1) r (upd v o.2.1.toNat (doL (v o.2.1.toNat) o.1 o.2.2))).2.2)
    else cN sh (i+1) r v
def aA.exec (s:aA) (sh:Int) (n:Nat):aA:=
 ⟨upd s.ent n ⟨3,(s.ent n).ops,(s.ent n).first,(s.ent n).deps,(cN sh 0 (s.ent n).ops s.vals).2.1,(cN sh 0 (s.ent n).ops s.vals).2.2⟩,s.order++[(n:Int)],(cN sh 0 (s.ent n).ops s.vals).1⟩
def aA.execIf (sh:Int) (s:aA) (m:Nat):aA:=if (s.ent m).state=2 then s.exec sh m else s
def aA.execs (s:aA) (sh:Int) (l:List Nat):aA:=l.foldl (aA.execIf sh) s
def aA.graph (s:aA):bH:=⟨fun i=>decide (2≤(s.ent i).state),fun i=>(s.ent i).deps⟩
def aA.round (g:bH) (sh:Int) (t:aA) (n:Nat):aA:=if (t.ent n).state=2 then t.execs sh (dX g n) else t
def aA.settle (s:aA) (sh:Int):aA:=(List.range 32).foldl (aA.round s.graph sh) s
def aA.heard (s:aA) (sh:Int) (f:aD):aA:={ s with ent:=upd s.ent f.id.toNat ⟨1,f.ops,s.ahead f.id.toNat f.ops sh,[],[],[]⟩ }
def aA.asked (s:aA) (sh:Int) (f:aD):aA:=if (s.ent f.id.toNat).state=0 then s.heard sh f else s
def aA.placed (s:aA) (sh:Int) (f:aD):aA:=
 { s with ent:=upd s.ent f.id.toNat ⟨2,f.ops,if (s.ent f.id.toNat).state=0 then s.ahead f.id.toNat f.ops sh else (s.ent f.id.toNat).first,f.deps,(s.ent f.id.toNat).ats,(s.ent f.id.toNat).vals⟩ }
def aA.commit (s:aA) (sh:Int) (f:aD):aA:=if (s.ent f.id.toNat).state<2 then (s.placed sh f).settle sh else s
def aA.answers (s:aA) (sh who id:Int):List aD:=
 ⟨4,who,id,[],[],[],[]⟩::(if (s.ent id.toNat).state=3∧bO (s.ent id.toNat).ops sh=true then [⟨5,who,id,[],[],(s.ent id.toNat).ats,(s.ent id.toNat).vals⟩] else [])
structure fY (s t:aA):Prop where
 state:∀n,(s.ent n).state≤(t.ent n).state
 first:∀n,(s.ent n).state≠0→(t.ent n).first=(s.ent n).first
 fixed:∀n,2≤(s.ent n).state→(t.ent n).deps=(s.ent n).deps∧(t.ent n).ops=(s.ent n).ops
 done:∀n,(s.ent n).state=3→t.ent n=s.ent n
 order:∃l,t.order=s.order++l
theorem fY.refl (s:aA):fY s s:=⟨fun _=>Int.le_refl _,fun _ _=>rfl,fun _ _=>⟨rfl,rfl⟩,fun _ _=>rfl,[],by simp⟩
theorem fY.trans {s t u:aA} (h:fY s t) (k:fY t u) (h0:∀n,0≤(s.ent n).state):fY s u:=by
 refine⟨fun n=>Int.le_trans (h.state n) (k.state n),fun n hn=>?_,fun n hn=>?_,fun n hn=>?_,?_⟩
 ·rw[k.first n (by have:=h.state n;have:=h0 n;omega),h.first n hn]
 ·obtain⟨a,b⟩:=h.fixed n hn
  obtain⟨c,d⟩:=k.fixed n (by have:=h.state n;omega)
  exact⟨c.trans a,d.trans b⟩
 ·rw[k.done n (by rw[h.done n hn];exact hn),h.done n hn]
 ·obtain⟨l,hl⟩:=h.order
  obtain⟨m,hm⟩:=k.order
  exact⟨l++m,by rw[hm,hl,List.append_assoc]⟩
theorem DQ (s:aA) (sh:Int) (n:Nat) (h:(s.ent n).state=2):fY s (s.exec sh n):=by
 have same:(s.exec sh n).ent n=⟨3,(s.ent n).ops,(s.ent n).first,(s.ent n).deps,_,_⟩:=aT _ _ _
 have other:∀m,m≠n→(s.exec sh n).ent m=s.ent m:=fun m hm=>aN _ _ hm
 refine⟨fun m=>?_,fun m hm=>?_,fun m hm=>?_,fun m hm=>?_,[(n:Int)],rfl⟩
 ·by_cases e:m=n
  ·rw[e,same,h];show (2:Int)≤3;decide
  ·rw[other m e];exact Int.le_refl _
 ·by_cases e:m=n
  ·rw[e,same]
  ·rw[other m e]
 ·by_cases e:m=n
  ·rw[e,same];exact⟨rfl,rfl⟩
  ·rw[other m e];exact⟨rfl,rfl⟩
 ·by_cases e:m=n
  ·rw[e,h] at hm;cases hm
  ·exact other m e
theorem rH (s:aA) (sh:Int) (n:Nat):fY s (aA.execIf sh s n):=by
 unfold aA.execIf
 split
 ·rename_i h;exact DQ s sh n h
 ·exact fY.refl s
theorem tH {α:Type} (f:aA→α→aA) (hf:∀s a,fY s (f s a)):∀(l:List α) (s:aA),(∀n,0≤(s.ent n).state)→fY s (l.foldl f s)
 | [],s,_=>fY.refl s
 | a::l,s,h0=>by
  have h1:=hf s a
  exact h1.trans (tH f hf l (f s a) (fun n=>Int.le_trans (h0 n) (h1.state n))) h0
theorem zS (s:aA) (sh:Int) (h0:∀n,0≤(s.ent n).state):fY s (s.settle sh):=by
 have:∀(l:List Nat) (t:aA),(∀n,0≤(t.ent n).state)→fY t (l.foldl (aA.round s.graph sh) t):=by
  intro l
  induction l with
  | nil=>exact fun t _=>fY.refl t
  | cons a l ih=>
   intro t ht
   have h1:fY t (aA.round s.graph sh t a):=by
    unfold aA.round
    split
    ·exact tH _ (fun s a=>rH s sh a) _ _ ht
    ·exact fY.refl t
   exact h1.trans (ih _ (fun n=>Int.le_trans (ht n) (h1.state n))) ht
 exact this _ s h0
theorem jI (s:aA) (sh:Int) (f:aD):(s.heard sh f).ent f.id.toNat=⟨1,f.ops,s.ahead f.id.toNat f.ops sh,[],[],[]⟩:=aT _ _ _
theorem e7 (s:aA) (sh:Int) (f:aD) {m:Nat} (h:m≠f.id.toNat):(s.heard sh f).ent m=s.ent m:=aN _ _ h
theorem tD (s:aA) (sh:Int) (f:aD):fY s (s.asked sh f):=by
 unfold aA.asked
 split
 ·rename_i h
  refine⟨fun m=>?_,fun m hm=>?_,fun m hm=>?_,fun m hm=>?_,[],by simp[aA.heard]⟩
  ·by_cases e:m=f.id.toNat
   ·subst e;rw[jI,h];show (0:Int)≤1;decide
   ·rw[e7 s sh f e];exact Int.le_refl _
  ·by_cases e:m=f.id.toNat
   ·subst e;exact absurd h hm
   ·rw[e7 s sh f e]
  ·by_cases e:m=f.id.toNat
   ·subst e;omega
   ·rw[e7 s sh f e];exact⟨rfl,rfl⟩
  ·by_cases e:m=f.id.toNat
   ·subst e;omega
   ·exact e7 s sh f e
 ·exact fY.refl s
theorem kP (s:aA) (sh:Int) (f:aD):(s.placed sh f).ent f.id.toNat=⟨2,f.ops,if (s.ent f.id.toNat).state=0 then s.ahead f.id.toNat f.ops sh else (s.ent f.id.toNat).first,f.deps,(s.ent f.id.toNat).ats,(s.ent f.id.toNat).vals⟩:=aT _ _ _
theorem rI (s:aA) (sh:Int) (f:aD) (h:(s.ent f.id.toNat).state<2):fY s (s.placed sh f):=by
 have same:(s.placed sh f).ent f.id.toNat=⟨2,f.ops,if (s.ent f.id.toNat).state=0 then s.ahead f.id.toNat f.ops sh else (s.ent f.id.toNat).first,f.deps,(s.ent f.id.toNat).ats,(s.ent f.id.toNat).vals⟩:=aT _ _ _
 have other:∀m,m≠f.id.toNat→(s.placed sh f).ent m=s.ent m:=fun m hm=>aN _ _ hm
 refine⟨fun m=>?_,fun m hm=>?_,fun m hm=>?_,fun m hm=>?_,[],by simp[aA.placed]⟩
 ·by_cases e:m=f.id.toNat
  ·subst e;rw[same];show _≤(2:Int);omega
  ·rw[other m e];exact Int.le_refl _
 ·by_cases e:m=f.id.toNat
  ·subst e;rw[same];show (if _ then _ else _)=_;rw[if_neg hm]
  ·rw[other m e]
 ·by_cases e:m=f.id.toNat
  ·subst e;omega
  ·rw[other m e];exact⟨rfl,rfl⟩
 ·by_cases e:m=f.id.toNat
  ·subst e;omega
  ·exact other m e
theorem zQ (s:aA) (sh:Int) (f:aD) (h0:∀n,0≤(s.ent n).state):fY s (s.commit sh f):=by
 unfold aA.commit
 split
 ·rename_i h
  have h1:=rI s sh f h
  exact h1.trans (zS _ sh (fun n=>Int.le_trans (h0 n) (h1.state n))) h0
 ·exact fY.refl s
theorem G6 (xs:List Nat):∀(l:Int),(∀x∈xs,l<(x:Int)∧x<32)→xs.Pairwise (· < ·)→bC l (xs.map Int.ofNat)=true:=by
 induction xs with
 | nil=>intros;rfl
 | cons x r ih=>
  intro l h hp
  have hx:=h x (by simp)
  obtain⟨h1,h2⟩:=List.pairwise_cons.1 hp
  rw[List.map_cons,bC,ih (Int.ofNat x) (fun y hy=>⟨by have:=h1 y hy;simp;omega,(h y (by simp[hy])).2⟩) h2]
  have e1:decide (Int.ofNat x≤l)=false:=by simp;omega
  have e2:decide (32≤Int.ofNat x)=false:=by simp;omega
  rw[e1,e2]
  rfl
theorem sQ (s:aA) (id:Nat) (ops:List OpL) (sh:Int):bC (-1) (s.ahead id ops sh)=true:=by
 unfold aA.ahead cK
 refine G6 _ _ (fun x hx=>?_) (List.Pairwise.filter _ List.pairwise_lt_range)
 have:=List.mem_range.1 (List.mem_filter.1 hx).1
 omega
theorem wT (s:aA) (id:Nat) (ops:List OpL) (sh:Int):d9 (s.ahead id ops sh) id=false:=by
 unfold d9
 rw[List.any_eq_false]
 intro x hx he
 unfold aA.ahead cK at hx
 rw[List.mem_map] at hx
 obtain⟨y,hy,rfl⟩:=hx
 have h1:=(List.mem_filter.1 hy).2
 unfold eqB at he
 have:y=id:=by
  have h2:((y:Nat):Int)=(id:Int):=by simpa using he
  omega
 subst this
 simp at h1
theorem wJ (sh:Int):∀(ops:List OpL) (i:Nat) (v:Nat→Int) (l:Int) (N:Nat),l<(i:Int)→i+ops.length≤N→dM l N (cN sh i ops v).2.1=true
 | [],_,_,_,_,_,_=>rfl
 | o::r,i,v,l,N,h1,h2=>by
  simp only[List.length_cons] at h2
  unfold cN
  split
  ·show (decide (l<(i:Int)) && decide ((i:Int)<(N:Int)) && dM (i:Int) N _)=true
   rw[decide_eq_true h1,decide_eq_true (show (i:Int)<(N:Int) by omega),wJ sh r (i+1) _ (i:Int) N (by omega) (by omega)]
   rfl
  ·exact wJ sh r (i+1) v l N (by omega) (by omega)
theorem wL (sh:Int):∀(ops:List OpL) (i:Nat) (v:Nat→Int),(cN sh i ops v).2.2.length=(cN sh i ops v).2.1.length
 | [],_,_=>rfl
 | o::r,i,v=>by
  unfold cN
  split
  ·simp only[List.length_cons,wL sh r (i+1)]
  ·exact wL sh r (i+1) v
theorem KI:(1:Int)≤3∧(3:Int)≤3:=by decide
theorem L0:(1:Int)≤2∧(2:Int)≤3:=by decide
theorem MB:(1:Int)≤1∧(1:Int)≤3:=by decide
theorem bQ.fine {s:aA} (h:bQ s) {n:Nat} (hn:n<32) (hs:(s.ent n).state≠0):CW (s.ent n) n:=by
 rcases h.ent n hn with e | e
 ·rw[e] at hs;exact absurd rfl hs
 ·exact e
theorem bQ.state {s:aA} (h:bQ s) {n:Nat} (hn:n<32):0≤(s.ent n).state∧(s.ent n).state≤3:=by
 rcases h.ent n hn with e | e
 ·rw[e];decide
 ·have:=e.st;omega
theorem xE {s:aA} (h:bQ s) (sh:Int) {n:Nat} (hn:n<32) (hs:(s.ent n).state=2):bQ (s.exec sh n):=by
 have F:=h.fine hn (by rw[hs];decide)
 have same:(s.exec sh n).ent n=⟨3,(s.ent n).ops,(s.ent n).first,(s.ent n).deps,(cN sh 0 (s.ent n).ops s.vals).2.1,(cN sh 0 (s.ent n).ops s.vals).2.2⟩:=aT _ _ _
 have other:∀m,m≠n→(s.exec sh n).ent m=s.ent m:=fun m hm=>aN _ _ hm
 refine⟨fun m hm=>?_,fun m hm=>?_,fun x hx=>?_⟩
 ·by_cases e:m=n
  ·subst e
   right
   rw[same]
   exact⟨KI,F.ops,F.first,F.deps,fun h=>absurd (show (3:Int)=1 from h) (by decide),fun h=>absurd rfl h,wJ sh (s.ent m).ops 0 s.vals (-1) (s.ent m).ops.length (by omega) (by omega),wL sh _ _ _⟩
  ·rw[other m e];exact h.ent m hm
 ·have h1:=h.cnt m hm
  show (s.order++[(n:Int)]).count (m:Int)=_
  rw[List.count_append,h1]
  by_cases e:m=n
  ·subst e
   rw[same,hs]
   simp
  ·rw[other m e]
   have:List.count (m:Int) [(n:Int)]=0:=by
    rw[List.count_eq_zero]
    simp
    omega
   rw[this]
   rfl
 ·rcases List.mem_append.1 hx with hx | hx
  ·exact h.lt x hx
  ·simp at hx
   omega
theorem lN (sh:Int):∀(l:List Nat) {s:aA},(∀x∈l,x<32)→bQ s→bQ (s.execs sh l)
 | [],_,_,h=>h
 | a::l,s,hl,h=>by
  have h1:bQ (aA.execIf sh s a):=by
   unfold aA.execIf
   split
   ·rename_i e;exact xE h sh (hl a (by simp)) e
   ·exact h
  exact lN (s:=aA.execIf sh s a) sh l (fun x hx=>hl x (by simp[hx])) h1
theorem kO (g:bH) (n:Int):∀x∈dX g n,x<32:=by
 intro x hx
 unfold dX at hx
 split at hx
 ·exact (mE _ _ 32).lt x hx
 ·simp at hx
theorem BD {s:aA} (h:bQ s) (sh:Int):bQ (s.settle sh):=by
 have:∀(l:List Nat) (t:aA),bQ t→bQ (l.foldl (aA.round s.graph sh) t):=by
  intro l
  induction l with
  | nil=>exact fun t ht=>ht
  | cons a l ih=>
   intro t ht
   refine ih _ ?_
   unfold aA.round
   split
   ·exact lN (s:=t) sh _ (kO _ _) ht
   ·exact ht
 exact this _ s h
theorem j9 {f:aD} (h:aL f=0):0≤f.id∧f.id<32∧((f.kind=1∨f.kind=3)→bN f.ops=true)∧(f.kind=3→bC (-1) f.deps=true∧d9 f.deps f.id=false):=by
 unfold aL at h
 split at h
 ·cases h
 ·split at h
  ·cases h
  ·rename_i h2
   split at h
   ·rename_i h3
    rw[Bool.and_eq_true,Bool.and_eq_true] at h3
    refine⟨by omega,by omega,fun hk=>?_,fun hk=>?_⟩
    ·have:=h3.1
     unfold eF at this
     rw[if_pos hk] at this
     exact this
    ·have:=h3.2.1
     unfold dO at this
     rw[if_pos (Or.inr hk),Bool.and_eq_true] at this
     exact⟨this.1,by simpa using this.2⟩
   ·cases h
theorem DI {s:aA} (h:bQ s) (sh:Int) {f:aD} (hf:aL f=0) (hk:f.kind=1):bQ (s.asked sh f):=by
 obtain⟨i1,i2,i3,_⟩:=j9 hf
 unfold aA.asked
 split
 ·rename_i e0
  refine⟨fun m hm=>?_,fun m hm=>?_,h.lt⟩
  ·by_cases e:m=f.id.toNat
   ·subst e
    right
    rw[jI]
    exact⟨MB,i3 (Or.inl hk),⟨sQ _ _ _ _,wT _ _ _ _⟩,⟨rfl,rfl⟩,fun _=>rfl,fun _=>rfl,rfl,rfl⟩
   ·rw[e7 s sh f e];exact h.ent m hm
  ·have h1:=h.cnt m hm
   show s.order.count (m:Int)=_
   rw[h1]
   by_cases e:m=f.id.toNat
   ·subst e
    rw[jI,e0]
    rfl
   ·rw[e7 s sh f e]
 ·exact h
theorem lS {s:aA} (h:bQ s) (sh:Int) {f:aD} (hf:aL f=0) (hk:f.kind=3) (hs:(s.ent f.id.toNat).state<2):bQ (s.placed sh f):=by
 obtain⟨i1,i2,i3,i4⟩:=j9 hf
 have hid:((f.id.toNat:Nat):Int)=f.id:=by omega
 have hlt:f.id.toNat<32:=by omega
 have other:∀m,m≠f.id.toNat→(s.placed sh f).ent m=s.ent m:=fun m hm=>aN _ _ hm
 have hats:(s.ent f.id.toNat).ats=[]∧(s.ent f.id.toNat).vals=[]:=by
  rcases h.ent _ hlt with e | e
  ·rw[e];exact⟨rfl,rfl⟩
  ·have h1:=e.told (by omega)
   exact⟨h1,List.eq_nil_of_length_eq_zero (by rw[e.vals,h1];rfl)⟩
 refine⟨fun m hm=>?_,fun m hm=>?_,h.lt⟩
 ·by_cases e:m=f.id.toNat
  ·subst e
   right
   rw[kP,hats.1,hats.2]
   have hfi:bC (-1) (if (s.ent f.id.toNat).state=0 then s.ahead f.id.toNat f.ops sh else (s.ent f.id.toNat).first)=true∧d9 (if (s.ent f.id.toNat).state=0 then s.ahead f.id.toNat f.ops sh else (s.ent f.id.toNat).first) ((f.id.toNat:Nat):Int)=false:=by
    split
    ·exact⟨sQ _ _ _ _,wT _ _ _ _⟩
    ·rename_i e0
     exact (h.fine hlt e0).first
   have hdp:bC (-1) f.deps=true∧d9 f.deps ((f.id.toNat:Nat):Int)=false:=by rw[hid];exact i4 hk
   exact⟨L0,i3 (Or.inr hk),hfi,hdp,fun h=>absurd (show (2:Int)=1 from h) (by decide),fun _=>rfl,rfl,rfl⟩
  ·rw[other m e];exact h.ent m hm
 ·have h1:=h.cnt m hm
  show s.order.count (m:Int)=_
  rw[h1]
  by_cases e:m=f.id.toNat
  ·subst e
   rw[kP,if_neg (by omega)]
   rfl
  ·rw[other m e]
theorem s6 {s:aA} (h:bQ s) (sh:Int) {f:aD} (hf:aL f=0) (hk:f.kind=3):bQ (s.commit sh f):=by
 unfold aA.commit
 split
 ·rename_i e;exact BD (lS h sh hf hk e) sh
 ·exact h
theorem FX:bQ dP:=⟨fun _ _=>Or.inl rfl,fun _ _=>rfl,by simp[dP]⟩
def bH.learn (g:bH) (m:Nat) (zs:List Int):bH:=⟨upd g.known m true,upd g.deps m zs⟩
theorem xI {g:bH} {m:Nat} {zs:List Int} {x:Nat} (hx:x≠m) (y:Nat):(g.learn m zs).adj x y=g.adj x y:=by
 unfold bH.adj bH.learn
 simp only[aN _ _ hx]
theorem BE {g:bH} {m:Nat} {zs:List Int} {x y:Nat} (h:b9 g.adj x y) (hm:¬ b9 g.adj x m):b9 (g.learn m zs).adj x y:=by
 induction h using b9.ind with
 | refl=>exact .refl _
 | step a h ih=>
  rename_i x z y
  have hx:x≠m:=fun e=>hm (e ▸ .refl _)
  exact .step (by rw[xI hx];exact a) (ih (fun h=>hm (.step a h)))
theorem yD {g:bH} {m:Nat} {zs:List Int} {x y:Nat} (h:b9 (g.learn m zs).adj x y) (hm:¬ b9 g.adj x m):b9 g.adj x y:=by
 induction h using b9.ind with
 | refl=>exact .refl _
 | step a h ih=>
  rename_i x z y
  have hx:x≠m:=fun e=>hm (e ▸ .refl _)
  rw[xI hx] at a
  exact .step a (ih (fun h=>hm (.step a h)))
theorem GD {g:bH} {m:Nat} {zs:List Int} {x:Nat} (hx:x<32) (hm:cG g x m=false) (y:Nat):cG g x y=cG (g.learn m zs) x y:=by
 have hm':¬ b9 g.adj x m:=fun h=>by rw[(cL g hx m).2 h] at hm;cases hm
 rw[Bool.eq_iff_iff,cL g hx y,cL (g.learn m zs) hx y]
 exact⟨fun h=>BE h hm',fun h=>yD h hm'⟩
def aA.did (s:aA):List Nat:=s.order.map Int.toNat
theorem mV {s:aA} (h:bQ s) {n:Nat} (hn:n<32):n∈s.did↔(s.ent n).state=3:=by
 have h1:=h.cnt n hn
 unfold aA.did
 rw[List.mem_map]
 constructor
 ·rintro⟨x,hx,e⟩
  have:=h.lt x hx
  have ex:x=(n:Int):=by omega
  subst ex
  have:0<s.order.count (n:Int):=List.count_pos_iff.2 hx
  split at h1
  ·assumption
  ·omega
 ·intro hs
  rw[if_pos hs] at h1
  exact⟨(n:Int),List.count_pos_iff.1 (by omega),by simp⟩
structure iF (s:aA):Prop where
 sorted:nH (cG s.graph) s.did
 ready:∀x∈s.did,∀d,d<32→cG s.graph x d=true→s.graph.known d=true
theorem uU (s:aA) (sh:Int) (n:Nat) (h:(s.ent n).state=2):(s.exec sh n).graph=s.graph:=by
 have same:(s.exec sh n).ent n=⟨3,(s.ent n).ops,(s.ent n).first,(s.ent n).deps,_,_⟩:=aT _ _ _
 have other:∀m,m≠n→(s.exec sh n).ent m=s.ent m:=fun m hm=>aN _ _ hm
 have e1:(fun i=>decide (2≤((s.exec sh n).ent i).state))=fun i=>decide (2≤(s.ent i).state):=by
  funext i
  by_cases e:i=n
  ·rw[e,same,h];rfl
  ·rw[other i e]
 have e2:(fun i=>((s.exec sh n).ent i).deps)=fun i=>(s.ent i).deps:=by
  funext i
  by_cases e:i=n
  ·rw[e,same]
  ·rw[other i e]
 unfold aA.graph
 rw[e1,e2]
theorem wY (sh:Int):∀(l:List Nat) (s:aA),l.Nodup→(s.execs sh l).did=s.did++l.filter (fun x=>decide ((s.ent x).state=2))∧(s.execs sh l).graph=s.graph∧∀x,x ∉ l→(s.execs sh l).ent x=s.ent x
 | [],s,_=>⟨by simp[aA.execs],rfl,fun _ _=>rfl⟩
 | a::l,s,hd=>by
  rw[List.nodup_cons] at hd
  obtain⟨i1,i2,i3⟩:=wY sh l (aA.execIf sh s a) hd.2
  have e0:s.execs sh (a::l)=(aA.execIf sh s a).execs sh l:=rfl
  rw[e0,i1,i2]
  by_cases h:(s.ent a).state=2
  ·have e1:aA.execIf sh s a=s.exec sh a:=by unfold aA.execIf;rw[if_pos h]
   have other:∀m,m≠a→(s.exec sh a).ent m=s.ent m:=fun m hm=>aN _ _ hm
   rw[e1] at i3 ⊢
   refine⟨?_,uU s sh a h,fun x hx=>?_⟩
   ·have hf:l.filter (fun x=>decide (((s.exec sh a).ent x).state=2))=l.filter (fun x=>decide ((s.ent x).state=2)):=List.filter_congr fun x hx=>by rw[other x (fun e=>hd.1 (e ▸ hx))]
    rw[hf,List.filter_cons_of_pos (by simpa using h)]
    unfold aA.did aA.exec
    simp
   ·rw[i3 x (fun h=>hx (by simp[h])),other x (fun e=>hx (by simp[e]))]
  ·have e1:aA.execIf sh s a=s:=by unfold aA.execIf;rw[if_neg h]
   rw[e1] at i3 ⊢
   refine⟨by rw[List.filter_cons_of_neg (by simpa using h)],rfl,fun x hx=>i3 x (fun h=>hx (by simp[h]))⟩
theorem EN {s:aA} (h:bQ s) (S:iF s) (sh:Int) {n:Nat} (hn:n<32):iF (s.execs sh (dX s.graph n))∧(s.execs sh (dX s.graph n)).graph=s.graph:=by
 cases hr:j5 s.graph (n:Int)
 ·have:dX s.graph (n:Int)=[]:=by unfold dX;rw[hr];rfl
  rw[this]
  exact⟨S,rfl⟩
 ·have hc:=y8 s.graph hn
  have eo:dX s.graph (n:Int)=dQ (cG s.graph) (cG s.graph n) 32:=by unfold dX;rw[hr,←vD s.graph hn];rfl
  have hk:∀i,i<32→cG s.graph n i=true→s.graph.known i=true:=by
   have h1:=hr
   unfold j5 at h1
   rw[Bool.and_eq_true] at h1
   exact DS.1 h1.2
  have L:=mY hc 32
  obtain⟨e1,e2,_⟩:=wY sh (dX s.graph (n:Int)) s (by rw[eo];exact L.nodup)
  refine⟨?_,e2⟩
  have hf:(dX s.graph (n:Int)).filter (fun x=>decide ((s.ent x).state=2))=(dQ (cG s.graph) (cG s.graph n) 32).filter fun x=>!s.did.contains x:=by
   rw[eo]
   refine List.filter_congr fun x hx=>?_
   have hd:=L.inD x hx
   have hx32:=hc.lt x hd
   have h2:2≤(s.ent x).state:=by simpa [aA.graph] using hk x hx32 hd
   have h3:=(h.state hx32).2
   have h4:=mV h hx32
   rw[Bool.eq_iff_iff]
   simp only[decide_eq_true_iff,Bool.not_eq_true',List.contains_eq_mem,decide_eq_false_iff_not]
   constructor
   ·intro h5 h6
    have:=h4.1 h6
    omega
   ·intro h5
    have:(s.ent x).state≠3:=fun e=>h5 (h4.2 e)
    omega
  rw[hf] at e1
  refine⟨by rw[e1,e2];exact CD hc S.sorted,fun x hx d hd hxd=>?_⟩
  rw[e2] at hxd ⊢
  rw[e1] at hx
  rcases List.mem_append.1 hx with hx | hx
  ·exact S.ready x hx d hd hxd
  ·have hdx:=L.inD x (List.mem_filter.1 hx).1
   exact hk d hd (hc.closed x d hdx hxd)
theorem CC {s:aA} (h:bQ s) (S:iF s) (sh:Int):iF (s.settle sh):=by
 have:∀(l:List Nat) (t:aA),(∀x∈l,x<32)→bQ t→iF t→t.graph=s.graph→iF (l.foldl (aA.round s.graph sh) t):=by
  intro l
  induction l with
  | nil=>exact fun t _ _ ht _=>ht
  | cons a l ih=>
   intro t hl hg hS he
   have ha:=hl a (by simp)
   have h1:bQ (aA.round s.graph sh t a)∧iF (aA.round s.graph sh t a)∧(aA.round s.graph sh t a).graph=s.graph:=by
    unfold aA.round
    split
    ·rw[←he]
     obtain⟨k1,k2⟩:=EN hg hS sh ha
     exact⟨lN sh _ (kO _ _) hg,k1,k2⟩
    ·exact⟨hg,hS,he⟩
   exact ih _ (fun x hx=>hl x (by simp[hx])) h1.1 h1.2.1 h1.2.2
 exact this _ s (fun x hx=>List.mem_range.1 hx) h S rfl
theorem oY {s:aA} (h:bQ s) (sh:Int) {f:aD} (hf:aL f=0):(s.asked sh f).graph=s.graph:=by
 obtain⟨i1,i2,_,_⟩:=j9 hf
 unfold aA.asked
 split
 ·rename_i e0
  have hz:s.ent f.id.toNat=kD:=by
   rcases h.ent f.id.toNat (by omega) with e | e
   ·exact e
   ·have:=e.st;omega
  have e1:(fun i=>decide (2≤((s.heard sh f).ent i).state))=fun i=>decide (2≤(s.ent i).state):=by
   funext i
   by_cases e:i=f.id.toNat
   ·rw[e,jI,hz];rfl
   ·rw[e7 s sh f e]
  have e2:(fun i=>((s.heard sh f).ent i).deps)=fun i=>(s.ent i).deps:=by
   funext i
   by_cases e:i=f.id.toNat
   ·rw[e,jI,hz];rfl
   ·rw[e7 s sh f e]
  unfold aA.graph
  rw[e1,e2]
 ·rfl
theorem wX (s:aA) (sh:Int) (f:aD):(s.asked sh f).did=s.did:=by
 unfold aA.asked
 split<;>rfl
theorem EM {s:aA} (h:bQ s) (S:iF s) (sh:Int) {f:aD} (hf:aL f=0):iF (s.asked sh f):=by
 refine⟨?_,?_⟩
 ·rw[oY h sh hf,wX];exact S.sorted
 ·rw[oY h sh hf,wX];exact S.ready
theorem rC (s:aA) (sh:Int) (f:aD):(s.placed sh f).graph=s.graph.learn f.id.toNat f.deps:=by
 have other:∀m,m≠f.id.toNat→(s.placed sh f).ent m=s.ent m:=fun m hm=>aN _ _ hm
 have e1:(fun i=>decide (2≤((s.placed sh f).ent i).state))=upd (fun i=>decide (2≤(s.ent i).state)) f.id.toNat true:=by
  funext i
  by_cases e:i=f.id.toNat
  ·rw[e,kP,aT];rfl
  ·rw[other i e,aN _ _ e]
 have e2:(fun i=>((s.placed sh f).ent i).deps)=upd (fun i=>(s.ent i).deps) f.id.toNat f.deps:=by
  funext i
  by_cases e:i=f.id.toNat
  ·rw[e,kP,aT]
  ·rw[other i e,aN _ _ e]
 unfold aA.graph bH.learn
 rw[e1,e2]
theorem CB {s:aA} (S:iF s) (sh:Int) {f:aD} (hf:aL f=0) (hs:(s.ent f.id.toNat).state<2):iF (s.placed sh f):=by
 obtain⟨i1,i2,_,_⟩:=j9 hf
 have hid:f.id.toNat<32:=by omega
 have hunk:s.graph.known f.id.toNat=false:=by
  show decide (2≤(s.ent f.id.toNat).state)=false
  exact decide_eq_false (by omega)
 have hno:∀x∈s.did,cG s.graph x f.id.toNat=false:=by
  intro x hx
  cases hh:cG s.graph x f.id.toNat
  ·rfl
  ·rw[S.ready x hx _ hid hh] at hunk;cases hunk
 have hrow:∀x∈s.did,∀y,y<32→cG s.graph x y=cG (s.graph.learn f.id.toNat f.deps) x y:=fun x hx y _=>GD (S.sorted.lt x hx) (hno x hx) y
 have ed:(s.placed sh f).did=s.did:=rfl
 refine⟨by rw[rC,ed];exact S.sorted.later hrow,fun x hx d hd hxd=>?_⟩
 rw[rC] at hxd ⊢
 rw[ed] at hx
 rw[←hrow x hx d hd] at hxd
 have:=S.ready x hx d hd hxd
 show upd s.graph.known f.id.toNat true d=true
 unfold upd
 split
 ·rfl
 ·exact this
theorem CA {s:aA} (h:bQ s) (S:iF s) (sh:Int) {f:aD} (hf:aL f=0) (hk:f.kind=3):iF (s.commit sh f):=by
 unfold aA.commit
 split
 ·rename_i e;exact CC (lS h sh hf hk e) (CB S sh hf e) sh
 ·exact S
theorem H9:iF dP:=⟨EP _,by simp[dP,aA.did]⟩
def gB (e:cW) (n:Nat):Bool:=
 if e.state=0 then e.ops.isEmpty && e.first.isEmpty && e.deps.isEmpty && e.ats.isEmpty && e.vals.isEmpty
 else decide (1≤e.state∧e.state≤3) && bN e.ops && (bC (-1) e.first && !d9 e.first n) && (bC (-1) e.deps && !d9 e.deps n) && (decide (e.state≠1) || e.deps.isEmpty) &&
  (decide (e.state=3) || e.ats.isEmpty) && dM (-1) e.ops.length e.ats && decide (e.vals.length=e.ats.length)
def gY (s:aA):Bool:=((List.range 32).all fun n=>gB (s.ent n) n && decide (s.order.count (n:Int)=if (s.ent n).state=3 then 1 else 0)) && s.order.all fun x=>decide (0≤x∧x<32)
theorem I5 {e:cW} {n:Nat}:gB e n=true↔e=kD∨CW e n:=by
 obtain⟨st,ops,fi,de,ats,vals⟩:=e
 unfold gB
 by_cases h:st=0
 ·subst h
  rw[if_pos rfl]
  constructor
  ·intro h
   simp at h
   obtain⟨⟨⟨⟨rfl,rfl⟩,rfl⟩,rfl⟩,rfl⟩:=h
   exact Or.inl rfl
  ·rintro (h | h)
   ·cases h;rfl
   ·have h1:(1:Int)≤0:=h.st.1
    omega
 ·rw[if_neg h]
  simp only[Bool.and_eq_true,Bool.or_eq_true,decide_eq_true_iff,Bool.not_eq_true',List.isEmpty_iff]
  constructor
  ·rintro⟨⟨⟨⟨⟨⟨⟨h1,h2⟩,h3⟩,h4⟩,h5⟩,h6⟩,h7⟩,h8⟩
   exact Or.inr ⟨h1,h2,h3,h4,fun e=>h5.resolve_left (fun h=>h e),fun e=>h6.resolve_left e,h7,h8⟩
  ·rintro (e | F)
   ·cases e;exact absurd rfl h
   ·refine⟨⟨⟨⟨⟨⟨⟨F.st,F.ops⟩,F.first⟩,F.deps⟩,?_⟩,?_⟩,F.ats⟩,F.vals⟩
    ·by_cases e:st=1
     ·exact Or.inr (F.asked e)
     ·exact Or.inl e
    ·by_cases e:st=3
     ·exact Or.inl e
     ·exact Or.inr (F.told e)
theorem DG {s:aA}:gY s=true↔bQ s:=by
 unfold gY
 simp only[Bool.and_eq_true,List.all_eq_true,List.mem_range,decide_eq_true_iff,I5]
 exact⟨fun h=>⟨fun n hn=>(h.1 n hn).1,fun n hn=>(h.1 n hn).2,h.2⟩,fun h=>⟨fun n hn=>⟨h.ent n hn,h.cnt n hn⟩,h.lt⟩⟩
def aJ (s:aA) (who:Int) (f:aD):aA × List aD × Int:=
 if gY s=false∨who<0∨5<who∨f.node≠who then (s,[],2)
 else if aL f≠0 then (s,[],aL f)
 else if f.kind=1 then
  if bO f.ops (ofL who)=false then (s,[],4)
  else (s.asked (ofL who) f,[⟨2,who,f.id,[],((s.asked (ofL who) f).ent f.id.toNat).first,[],[]⟩],0)
 else if f.kind=3 then (s.commit (ofL who) f,(s.commit (ofL who) f).answers (ofL who) who f.id,0)
 else (s,[],3)
theorem dK (s:aA) (who:Int) (f:aD):
    ((aJ s who f).2.2≠0∧(aJ s who f).1=s∧(aJ s who f).2.1=[])∨
    (bQ s∧aL f=0∧(aJ s who f).2.2=0∧f.node=who∧0≤who∧who≤5∧
      ((f.kind=1∧bO f.ops (ofL who)=true∧aJ s who f=(s.asked (ofL who) f,[⟨2,who,f.id,[],((s.asked (ofL who) f).ent f.id.toNat).first,[],[]⟩],0))∨
       (f.kind=3∧aJ s who f=(s.commit (ofL who) f,(s.commit (ofL who) f).answers (ofL who) who f.id,0)))):=by
  by_cases h1:gY s=false∨who<0∨5<who∨f.node≠who
  ·left
   have e:aJ s who f=(s,[],2):=by unfold aJ;rw[if_pos h1]
   rw[e]
   exact⟨(show (2:Int)≠0 by decide),rfl,rfl⟩
  ·by_cases h2:aL f≠0
   ·left
    have e:aJ s who f=(s,[],aL f):=by unfold aJ;rw[if_neg h1,if_pos h2]
    rw[e]
    exact⟨h2,rfl,rfl⟩
   ·have hg:bQ s:=DG.1 (by
       cases h:gY s
       ·exact absurd (Or.inl h) h1
       ·rfl)
    have hn:f.node=who∧0≤who∧who≤5:=by
      refine⟨?_,?_,?_⟩
      ·by_cases e:f.node=who
       ·exact e
       ·exact absurd (Or.inr (Or.inr (Or.inr e))) h1
      ·by_cases e:who<0
       ·exact absurd (Or.inr (Or.inl e)) h1
       ·omega
      ·by_cases e:5<who
       ·exact absurd (Or.inr (Or.inr (Or.inl e))) h1
       ·omega
    have h2':aL f=0:=by omega
    by_cases h3:f.kind=1
    ·by_cases h4:bO f.ops (ofL who)=false
     ·left
      have e:aJ s who f=(s,[],4):=by unfold aJ;rw[if_neg h1,if_neg h2,if_pos h3,if_pos h4]
      rw[e]
      exact⟨(show (4:Int)≠0 by decide),rfl,rfl⟩
     ·right
      have e:aJ s who f=(s.asked (ofL who) f,[⟨2,who,f.id,[],((s.asked (ofL who) f).ent f.id.toNat).first,[],[]⟩],0):=by unfold aJ;rw[if_neg h1,if_neg h2,if_pos h3,if_neg h4]
      exact⟨hg,h2',by rw[e],hn.1,hn.2.1,hn.2.2,Or.inl ⟨h3,by simpa using h4,e⟩⟩
    ·by_cases h5:f.kind=3
     ·right
      have e:aJ s who f=(s.commit (ofL who) f,(s.commit (ofL who) f).answers (ofL who) who f.id,0):=by unfold aJ;rw[if_neg h1,if_neg h2,if_neg h3,if_pos h5]
      exact⟨hg,h2',by rw[e],hn.1,hn.2.1,hn.2.2,Or.inr ⟨h5,e⟩⟩
     ·left
      have e:aJ s who f=(s,[],3):=by unfold aJ;rw[if_neg h1,if_neg h2,if_neg h3,if_neg h5]
      rw[e]
      exact⟨(show (3:Int)≠0 by decide),rfl,rfl⟩
theorem xT {s:aA} {who:Int} {f:aD} (h:(aJ s who f).2.2=0):bQ (aJ s who f).1:=by
 rcases dK s who f with ⟨h1,_⟩ | ⟨hg,hf,_,_,_,_,⟨hk,_,e⟩ | ⟨hk,e⟩⟩
 ·exact absurd h h1
 ·rw[e];exact DI hg _ hf hk
 ·rw[e];exact s6 hg _ hf hk
theorem IG {s:aA} {who:Int} {f:aD} (S:iF s):iF (aJ s who f).1:=by
 rcases dK s who f with ⟨_,h1,_⟩ | ⟨hg,hf,_,_,_,_,⟨hk,_,e⟩ | ⟨hk,e⟩⟩
 ·rw[h1];exact S
 ·rw[e];exact EM hg S _ hf
 ·rw[e];exact CA hg S _ hf hk
theorem mR (s:aA) (who:Int) (f:aD) (h0:∀n,0≤(s.ent n).state):fY s (aJ s who f).1:=by
 rcases dK s who f with ⟨_,h1,_⟩ | ⟨_,_,_,_,_,_,⟨_,_,e⟩ | ⟨_,e⟩⟩
 ·rw[h1];exact fY.refl s
 ·rw[e];exact tD s _ f
 ·rw[e];exact zQ s _ f h0
structure iK (ok:Nat→Prop) (w:World) (nv:Nat→Value) (o:Nat) (e:cW):Prop where
 state:nv o= .int .i64 e.state
 ops:IsO ok w (nv (o+1)) e.ops
 first:IsI ok w (nv (o+2)) e.first
 deps:IsI ok w (nv (o+3)) e.deps
 ats:IsI ok w (nv (o+4)) e.ats
 vals:IsI ok w (nv (o+5)) e.vals
theorem iK.later {ok:Nat→Prop} {w w':World} {nv:Nat→Value} {o:Nat} {e:cW} (h:iK ok w nv o e) (hB:bI ok w w'):iK ok w' nv o e:=
 ⟨h.state,h.ops.later hB,h.first.later hB,h.deps.later hB,h.ats.later hB,h.vals.later hB⟩
theorem iK.mono {ok ok':Nat→Prop} {w:World} {nv:Nat→Value} {o:Nat} {e:cW} (h:iK ok w nv o e) (hk:∀k,k<w.heap.size→ok k→ok' k):iK ok' w nv o e:=
 ⟨h.state,h.ops.mono hk,h.first.mono hk,h.deps.mono hk,h.ats.mono hk,h.vals.mono hk⟩
theorem iK.same {ok:Nat→Prop} {w:World} {nv nv':Nat→Value} {o o':Nat} {e:cW} (h:iK ok w nv o e) (hn:∀j,j<6→nv' (o'+j)=nv (o+j)):iK ok w nv' o' e:=
 ⟨by have:=hn 0 (by omega);simp only[Nat.add_zero] at this;rw[this];exact h.state,by rw[hn 1 (by omega)];exact h.ops,by rw[hn 2 (by omega)];exact h.first,by rw[hn 3 (by omega)];exact h.deps,by rw[hn 4 (by omega)];exact h.ats,by rw[hn 5 (by omega)];exact h.vals⟩
theorem iK.one {ok:Nat→Prop} {w:World} {nv:Nat→Value} {o:Nat} {e:cW} (h:iK ok w nv o e):∀j,j<6→(nv (o+j)).oneCell'=true:=by
 intro j hj
 match j,hj with
 | 0,_=>rw[Nat.add_zero,h.state];rfl
 | 1,_=>exact h.ops.one
 | 2,_=>exact h.first.one
 | 3,_=>exact h.deps.one
 | 4,_=>exact h.ats.one
 | 5,_=>exact h.vals.one
structure i5 (ok:Nat→Prop) (w:World) (nv:Nat→Value) (s:aA):Prop where
 ent:∀i,i<32→iK ok w nv (i*6) (s.ent i)
 vals:∀k,k<8→nv (193+k)= .int .i64 (s.vals k)
structure bG (ok:Nat→Prop) (w:World) (nv:Nat→Value) (s:aA):Prop where
 es:i5 ok w nv s
 order:IsI ok w (nv 192) s.order
theorem i5.later {ok:Nat→Prop} {w w':World} {nv:Nat→Value} {s:aA} (h:i5 ok w nv s) (hB:bI ok w w'):i5 ok w' nv s:=⟨fun i hi=>(h.ent i hi).later hB,h.vals⟩
theorem i5.mono {ok ok':Nat→Prop} {w:World} {nv:Nat→Value} {s:aA} (h:i5 ok w nv s) (hk:∀k,k<w.heap.size→ok k→ok' k):i5 ok' w nv s:=⟨fun i hi=>(h.ent i hi).mono hk,h.vals⟩
theorem bG.later {ok:Nat→Prop} {w w':World} {nv:Nat→Value} {s:aA} (h:bG ok w nv s) (hB:bI ok w w'):bG ok w' nv s:=⟨h.es.later hB,h.order.later hB⟩
theorem bG.mono {ok ok':Nat→Prop} {w:World} {nv:Nat→Value} {s:aA} (h:bG ok w nv s) (hk:∀k,k<w.heap.size→ok k→ok' k):bG ok' w nv s:=⟨h.es.mono hk,h.order.mono hk⟩
theorem bG.below {w w':World} {nv:Nat→Value} {s:aA} (h:bG (· <w.heap.size) w nv s) (hb:Below w.heap.size w w'):bG (· <w'.heap.size) w' nv s:=
 (h.later (bI.of_size hb)).mono (fun k _ (h:k<w.heap.size)=>by have:=hb.size;show k<_;omega)
theorem bG.any {ok:Nat→Prop} {w:World} {nv:Nat→Value} {s:aA} (h:bG ok w nv s):bG (· <w.heap.size) w nv s:=h.mono (fun _ h _=>h)
theorem bG.one {ok:Nat→Prop} {w:World} {nv:Nat→Value} {s:aA} (h:bG ok w nv s):∀i,i<201→(nv i).oneCell'=true:=by
 intro i hi
 by_cases h1:i<192
 ·have:=(h.es.ent (i / 6) (by omega)).one (i % 6) (by omega)
  rw[show i / 6*6+i % 6=i by omega] at this
  exact this
 ·by_cases h2:i=192
  ·subst h2;exact h.order.one
  ·have:=h.es.vals (i-193) (by omega)
   rw[show 193+(i-193)=i by omega] at this
   rw[this];rfl
def cW.nums (e:cW) (f:Nat):List Int:=if f=2 then e.first else if f=3 then e.deps else if f=4 then e.ats else e.vals
def cX (ok:Nat→Prop) (w:World) (e:cW) (f:Nat) (v:Value):Prop:=if f=0 then v= .int .i64 e.state else if f=1 then IsO ok w v e.ops else IsI ok w v (e.nums f)
theorem iK.get {ok:Nat→Prop} {w:World} {nv:Nat→Value} {o:Nat} {e:cW} (h:iK ok w nv o e):∀f,f<6→cX ok w e f (nv (o+f)):=by
 intro f hf
 match f,hf with
 | 0,_=>exact h.state
 | 1,_=>exact h.ops
 | 2,_=>exact h.first
 | 3,_=>exact h.deps
 | 4,_=>exact h.ats
 | 5,_=>exact h.vals
theorem iK.of {ok:Nat→Prop} {w:World} {nv:Nat→Value} {o:Nat} {e:cW} (h:∀f,f<6→cX ok w e f (nv (o+f))):iK ok w nv o e:=
 ⟨h 0 (by omega),h 1 (by omega),h 2 (by omega),h 3 (by omega),h 4 (by omega),h 5 (by omega)⟩
theorem i5.change {ok:Nat→Prop} {w:World} {nv nv':Nat→Value} {s:aA} (h:i5 ok w nv s) {k:Nat} {e':cW} (he:∀f,f<6→cX ok w e' f (nv' (k*6+f)))
  (ho:∀i,i<201→(i<k*6∨k*6+6≤i)→i≠192→nv' i=nv i) (hk:k<32) (o:List Int):i5 ok w nv' ⟨upd s.ent k e',o,s.vals⟩:=by
 refine⟨fun i hi=>?_,fun j hj=>?_⟩
 ·by_cases e:i=k
  ·subst e
   show iK ok w nv' (i*6) (upd s.ent i e' i)
   rw[aT]
   exact iK.of he
  ·show iK ok w nv' (i*6) (upd s.ent k e' i)
   rw[aN _ _ e]
   exact (h.ent i hi).same (fun j hj=>ho _ (by omega) (by omega) (by omega))
 ·rw[ho _ (by omega) (by omega) (by omega)]
  exact h.vals j hj
theorem bG.put {ok:Nat→Prop} {w:World} {nv:Nat→Value} {s:aA} (h:bG ok w nv s) {k f:Nat} (hk:k<32) (hf:f<6) {v:Value} (hv:cX ok w (s.ent k) f v):bG ok w (fun i=>if i=k*6+f then v else nv i) s:=by
 refine⟨⟨fun i hi=>iK.of fun g hg=>?_,fun j hj=>?_⟩,?_⟩
 ·show cX ok w (s.ent i) g (if i*6+g=k*6+f then v else nv (i*6+g))
  by_cases e:i*6+g=k*6+f
  ·obtain rfl:i=k:=by omega
   obtain rfl:g=f:=by omega
   rw[if_pos rfl]
   exact hv
  ·rw[if_neg e]
   exact (h.es.ent i hi).get g hg
 ·show (if 193+j=k*6+f then v else nv (193+j))=_
  rw[if_neg (by omega)]
  exact h.es.vals j hj
 ·show IsI ok w (if 192=k*6+f then v else nv 192) _
  rw[if_neg (by omega)]
  exact h.order
theorem Tryz.infoNode:(Tryz.prog.info? 42).map (·.size)=some 201:=by kernel_rfl
theorem Tryz.infoEnts:(Tryz.prog.info? 39).map (·.size)=some 192:=by kernel_rfl
theorem Tryz.infoEntry:(Tryz.prog.info? 38).map (·.size)=some 6:=by kernel_rfl
structure aE where
 begun:Bool
 fixed:Bool
 ops:List OpL
 told:Nat→Bool
 known:Nat→Bool
 deps:List Int
 has:Nat→Bool
 vals:Nat→Int
def cA:aE:=⟨false,false,[],fun _=>false,fun _=>false,[],fun _=>false,fun _=>0⟩
def yT (n:Nat) (p:Nat→Bool):Bool:=(List.range n).all fun i=>!p i
def dW (c:aE):Bool:=
 if c.begun then bN c.ops && bC (-1) c.deps
 else !c.fixed && c.ops.isEmpty && yT 6 c.told && yT 6 c.known && c.deps.isEmpty && yT 4 c.has && (List.range 4).all fun i=>c.vals i == 0
def gX (a b:List Int):List Int:=cK (fun i=>a.contains (i:Int) || b.contains (i:Int)) 32
def aE.lacks (c:aE) (sh:Int):Bool:=(List.range c.ops.length).any fun i=>lE sh (c.ops.getD i (0,0,0)) && !c.has i
def aE.send (c:aE) (id:Int) (n:Nat):List aD:=
 if c.fixed then (if !c.known n || c.lacks (ofL n) then [⟨3,n,id,c.ops,c.deps,[],[]⟩] else [])
 else if bO c.ops (ofL n) && !c.told n then [⟨1,n,id,c.ops,[],[],[]⟩] else []
def cQ (c:aE) (id:Int):List aD:=
 if dW c=false∨c.begun=false∨id<0∨32≤id∨d9 c.deps id=true then [] else (List.range 6).flatMap (c.send id)
def bE (id:Int) (ops:List OpL):aE × List aD × Int:=
 if id<0∨32≤id then (cA,[],2) else if bN ops=false then (cA,[],1)
 else ({ cA with begun:=true,ops:=ops },cQ { cA with begun:=true,ops:=ops } id,0)
def nK (t:Nat→Bool) (sh:Nat):Nat:=((List.range 3).filter fun k=>t (sh*3+k)).length
def eG (ops:List OpL) (t:Nat→Bool):Bool:=(!bO ops 0 || decide (2≤nK t 0)) && (!bO ops 1 || decide (2≤nK t 1))
def aE.hear (c:aE) (f:aD):aE:=
 { c with told:=upd c.told f.node.toNat true,deps:=gX c.deps f.deps,fixed:=eG c.ops (upd c.told f.node.toNat true) }
def aE.done1 (sh:Int) (c:aE) (p:Int × Int):aE:=
 if p.1<c.ops.length∧lE sh (c.ops.getD p.1.toNat (0,0,0))=true∧c.has p.1.toNat=false then { c with has:=upd c.has p.1.toNat true,vals:=upd c.vals p.1.toNat p.2 } else c
def aE.dones (c:aE) (sh:Int) (l:List (Int × Int)):aE:=l.foldl (aE.done1 sh) c
def aO (c:aE) (id:Int) (f:aD):aE × List aD × Int:=
 if dW c=false∨c.begun=false∨f.id≠id∨d9 c.deps id=true then (c,[],2)
 else if aL f≠0 then (c,[],aL f)
 else if f.kind=1∨f.kind=3 then (c,[],3)
 else if f.kind=2 then
  if c.fixed=true∨c.told f.node.toNat=true∨bO c.ops (ofL f.node)=false then (c,[],0)
  else (c.hear f,if (c.hear f).fixed then cQ (c.hear f) id else [],0)
 else if c.fixed=false then (c,[],0)
 else if f.kind=4 then ({ c with known:=upd c.known f.node.toNat true },[],0)
 else (c.dones (ofL f.node) (f.ats.zip f.vals),[],0)
def cP (c:aE):List Int × Bool:=
 if c.begun=false∨dW c=false∨c.lacks 0=true∨c.lacks 1=true then ([],false) else ((List.range c.ops.length).map c.vals,true)
structure lI (c d:aE):Prop where
 begun:d.begun=c.begun
 fixed:d.fixed=c.fixed
 ops:d.ops=c.ops
 told:d.told=c.told
 deps:d.deps=c.deps
theorem lI.refl (c:aE):lI c c:=⟨rfl,rfl,rfl,rfl,rfl⟩
theorem lI.trans {a b c:aE} (h:lI a b) (k:lI b c):lI a c:=⟨k.begun.trans h.begun,k.fixed.trans h.fixed,k.ops.trans h.ops,k.told.trans h.told,k.deps.trans h.deps⟩
def jU (c d:aE):Prop:=∀i,c.has i=true→d.has i=true∧d.vals i=c.vals i
theorem jU.refl (c:aE):jU c c:=fun _ h=>⟨h,rfl⟩
theorem jU.trans {a b c:aE} (h:jU a b) (k:jU b c):jU a c:=fun i hi=>⟨(k i (h i hi).1).1,((k i (h i hi).1).2).trans (h i hi).2⟩
theorem A8 (sh:Int) (c:aE) (p:Int × Int):lI c (aE.done1 sh c p)∧jU c (aE.done1 sh c p):=by
 unfold aE.done1
 split
 ·rename_i h
  refine⟨⟨rfl,rfl,rfl,rfl,rfl⟩,fun i hi=>?_⟩
  have hne:i≠p.1.toNat:=fun e=>by rw[e,h.2.2] at hi;cases hi
  exact⟨by show upd _ _ _ i=true;rw[aN _ _ hne];exact hi,aN _ _ hne⟩
 ·exact⟨lI.refl c,jU.refl c⟩
theorem oX (sh:Int):∀(l:List (Int × Int)) (c:aE),lI c (c.dones sh l)∧jU c (c.dones sh l)
 | [],c=>⟨lI.refl c,jU.refl c⟩
 | p::l,c=>by
  have h1:=A8 sh c p
  have h2:=oX sh l (aE.done1 sh c p)
  exact⟨h1.1.trans h2.1,h1.2.trans h2.2⟩
theorem gE (c:aE) (id:Int) (f:aD):
  ((aO c id f).2.2≠0∧(aO c id f).1=c∧(aO c id f).2.1=[])∨
  ((aO c id f).2.2=0∧aL f=0∧f.kind=2∧c.fixed=false∧c.told f.node.toNat=false∧bO c.ops (ofL f.node)=true∧(aO c id f).1=c.hear f∧((aO c id f).2.1≠[]→(c.hear f).fixed=true))∨
  ((aO c id f).2.2=0∧(aO c id f).2.1=[]∧(f.kind=2→c.fixed=true∨c.told f.node.toNat=true∨bO c.ops (ofL f.node)=false)∧lI c (aO c id f).1∧jU c (aO c id f).1∧(c.fixed=false→(aO c id f).1=c)):=by
 unfold aO
 split
 ·left;exact⟨(show (2:Int)≠0 by decide),rfl,rfl⟩
 ·split
  ·rename_i h;left;exact⟨h,rfl,rfl⟩
  ·rename_i hg
   have hg:aL f=0:=by
    by_cases e:aL f=0
    ·exact e
    ·exact absurd e hg
   split
   ·left;exact⟨(show (3:Int)≠0 by decide),rfl,rfl⟩
   ·split
    ·rename_i hk
     split
     ·rename_i h
      right;right
      exact⟨rfl,rfl,fun _=>h,lI.refl c,jU.refl c,fun _=>rfl⟩
     ·rename_i h
      right;left
      have h1:c.fixed=false:=by cases e:c.fixed;rfl;exact absurd (Or.inl e) h
      have h2:c.told f.node.toNat=false:=by cases e:c.told f.node.toNat;rfl;exact absurd (Or.inr (Or.inl e)) h
      have h3:bO c.ops (ofL f.node)=true:=by cases e:bO c.ops (ofL f.node);exact absurd (Or.inr (Or.inr e)) h;rfl
      refine⟨rfl,hg,hk,h1,h2,h3,rfl,fun hn=>?_⟩
      cases e:(c.hear f).fixed
      ·exact absurd (by show (if (c.hear f).fixed=true then _ else _)=_;rw[e];rfl) hn
      ·rfl
    ·rename_i hk
     split
     ·right;right
      exact⟨rfl,rfl,fun e=>absurd e hk,lI.refl c,jU.refl c,fun _=>rfl⟩
     ·rename_i hf
      split
      ·right;right
       exact⟨rfl,rfl,fun e=>absurd e hk,⟨rfl,rfl,rfl,rfl,rfl⟩,jU.refl c,fun e=>absurd e hf⟩
      ·right;right
       have h1:=oX (ofL f.node) (f.ats.zip f.vals) c
       exact⟨rfl,rfl,fun e=>absurd e hk,h1.1,h1.2,fun e=>absurd e hf⟩
structure L5 (ops:List OpL) (c:aE) (t:Nat→Bool) (d:List Int):Prop where
 begun:c.begun=true
 eops:c.ops=ops
 told:c.told=t
 deps:c.deps=d
 most:c.fixed=true→eG ops t=true
theorem xB {id:Int} {ops:List OpL} (h:(bE id ops).2.2=0):L5 ops (bE id ops).1 (fun _=>false) []∧bN ops=true∧0≤id∧id<32:=by
 unfold bE at *
 split at h
 ·exact absurd h (show (2:Int)≠0 by decide)
 ·rename_i h1
  split at h
  ·exact absurd h (show (1:Int)≠0 by decide)
  ·rename_i h2
   rw[if_neg h1,if_neg h2]
   refine⟨⟨rfl,rfl,rfl,rfl,fun e=>(by cases e)⟩,?_,?_,?_⟩
   ·cases e:bN ops
    ·exact absurd e h2
    ·rfl
   ·by_cases e:id<0
    ·exact absurd (Or.inl e) h1
    ·omega
   ·by_cases e:32≤id
    ·exact absurd (Or.inr e) h1
    ·omega
structure nY (ops:List OpL) (c:aE):Prop where
 begun:c.begun=true
 eops:c.ops=ops
 good:dW c=true
 none:c.fixed=false→∀i,c.has i=false
theorem xH {c:aE} (h0:c.lacks 0=false) (h1:c.lacks 1=false) {i:Nat} (hi:i<c.ops.length):c.has i=true:=by
 unfold aE.lacks at h0 h1
 rw[List.any_eq_false] at h0 h1
 have g0:=h0 i (List.mem_range.2 hi)
 have g1:=h1 i (List.mem_range.2 hi)
 cases e:c.has i
 ·rw[e] at g0 g1
  simp[lE] at g0 g1
  omega
 ·rfl
theorem xF {c:aE} (h:∀i,i<c.ops.length→c.has i=true) (sh:Int):c.lacks sh=false:=by
 unfold aE.lacks
 rw[List.any_eq_false]
 intro i hi
 rw[h i (List.mem_range.1 hi)]
 simp
theorem MJ {ops:List OpL} {c:aE} (h:nY ops c) (hr:(cP c).2=true):(∀i,i<ops.length→c.has i=true)∧(cP c).1=(List.range ops.length).map c.vals:=by
 unfold cP at *
 split at hr
 ·cases hr
 ·rename_i hn
  rw[if_neg hn,h.eops]
  refine⟨fun i hi=>xH ?_ ?_ (by rw[h.eops];exact hi),rfl⟩
  ·cases e:c.lacks 0
   ·rfl
   ·exact absurd (Or.inr (Or.inr (Or.inl e))) hn
  ·cases e:c.lacks 1
   ·rfl
   ·exact absurd (Or.inr (Or.inr (Or.inr e))) hn
theorem J7 (xs:List Nat):∀(l:Int),(∀x∈xs,l<(x:Int)∧x<32)→xs.Pairwise (· < ·)→bC l (xs.map Int.ofNat)=true:=by
 induction xs with
 | nil=>intros;rfl
 | cons x r ih=>
  intro l h hp
  have hx:=h x (by simp)
  obtain⟨h1,h2⟩:=List.pairwise_cons.1 hp
  rw[List.map_cons,bC,ih (Int.ofNat x) (fun y hy=>⟨by have:=h1 y hy;simp;omega,(h y (by simp[hy])).2⟩) h2]
  have e1:decide (Int.ofNat x≤l)=false:=by simp;omega
  have e2:decide (32≤Int.ofNat x)=false:=by simp;omega
  rw[e1,e2]
  rfl
theorem DO (a b:List Int):bC (-1) (gX a b)=true:=by
 refine J7 _ _ (fun x hx=>?_) (List.Pairwise.filter _ List.pairwise_lt_range)
 have:=List.mem_range.1 (List.mem_filter.1 hx).1
 omega
theorem xO {id:Int} {ops:List OpL} (h:(bE id ops).2.2=0):nY ops (bE id ops).1:=by
 obtain⟨hf,hg,_⟩:=xB h
 have e:(bE id ops).1={ cA with begun:=true,ops:=ops }:=by
  unfold bE at *
  split at h
  ·exact absurd h (show (2:Int)≠0 by decide)
  ·rename_i h1
   split at h
   ·exact absurd h (show (1:Int)≠0 by decide)
   ·rename_i h2
    rw[if_neg h1,if_neg h2]
 rw[e]
 refine⟨rfl,rfl,?_,fun _ _=>rfl⟩
 unfold dW
 rw[if_pos rfl]
 show (bN ops && bC (-1) [])=true
 rw[hg]
 rfl
theorem kC {c:aE} (hb:c.begun=true):dW c=(bN c.ops && bC (-1) c.deps):=by unfold dW;rw[if_pos hb]
theorem AH {ops:List OpL} {c:aE} {id:Int} {f:aD} (h:nY ops c):nY ops (aO c id f).1∧jU c (aO c id f).1:=by
 have hg:=h.good
 rw[kC h.begun,Bool.and_eq_true] at hg
 rcases gE c id f with ⟨_,h1,_⟩ | ⟨_,_,_,hf,_,_,he,_⟩ | ⟨_,_,_,hs,hk,hc⟩
 ·rw[h1];exact⟨h,jU.refl c⟩
 ·rw[he]
  refine⟨⟨h.begun,h.eops,?_,fun _ i=>h.none hf i⟩,fun i hi=>⟨hi,rfl⟩⟩
  rw[kC (c:=c.hear f) h.begun,Bool.and_eq_true]
  exact⟨hg.1,DO _ _⟩
 ·refine⟨⟨hs.begun.trans h.begun,hs.ops.trans h.eops,?_,fun e i=>?_⟩,hk⟩
  ·rw[kC (hs.begun.trans h.begun),hs.ops,hs.deps,Bool.and_eq_true];exact hg
  ·have e1:c.fixed=false:=by rw[←hs.fixed];exact e
   rw[hc e1];exact h.none e1 i
structure bT (ok:Nat→Prop) (w:World) (nv:Nat→Value) (c:aE):Prop where
 begun:nv 0= .bool c.begun
 fixed:nv 1= .bool c.fixed
 ops:IsO ok w (nv 2) c.ops
 told:∀i,i<6→nv (3+i)= .bool (c.told i)
 known:∀i,i<6→nv (9+i)= .bool (c.known i)
 deps:IsI ok w (nv 15) c.deps
 has:∀i,i<4→nv (16+i)= .bool (c.has i)
 vals:∀i,i<4→nv (20+i)= .int .i64 (c.vals i)
theorem bT.later {ok:Nat→Prop} {w w':World} {nv:Nat→Value} {c:aE} (h:bT ok w nv c) (hB:bI ok w w'):bT ok w' nv c:=
 ⟨h.begun,h.fixed,h.ops.later hB,h.told,h.known,h.deps.later hB,h.has,h.vals⟩
theorem bT.mono {ok ok':Nat→Prop} {w:World} {nv:Nat→Value} {c:aE} (h:bT ok w nv c) (hk:∀k,k<w.heap.size→ok k→ok' k):bT ok' w nv c:=
 ⟨h.begun,h.fixed,h.ops.mono hk,h.told,h.known,h.deps.mono hk,h.has,h.vals⟩
theorem bT.below {w w':World} {nv:Nat→Value} {c:aE} (h:bT (· <w.heap.size) w nv c) (hb:Below w.heap.size w w'):bT (· <w'.heap.size) w' nv c:=
 (h.later (bI.of_size hb)).mono (fun k _ (h:k<w.heap.size)=>by have:=hb.size;show k<_;omega)
theorem bT.any {ok:Nat→Prop} {w:World} {nv:Nat→Value} {c:aE} (h:bT ok w nv c):bT (· <w.heap.size) w nv c:=h.mono (fun _ h _=>h)
theorem bT.one {ok:Nat→Prop} {w:World} {nv:Nat→Value} {c:aE} (h:bT ok w nv c):∀i,i<24→(nv i).oneCell'=true:=by
 intro i hi
 by_cases h0:i=0
 ·subst h0;rw[h.begun];rfl
 by_cases h1:i=1
 ·subst h1;rw[h.fixed];rfl
 by_cases h2:i=2
 ·subst h2;exact h.ops.one
 by_cases h3:i<9
 ·have:=h.told (i-3) (by omega)
  rw[show 3+(i-3)=i by omega] at this
  rw[this];rfl
 by_cases h4:i<15
 ·have:=h.known (i-9) (by omega)
  rw[show 9+(i-9)=i by omega] at this
  rw[this];rfl
 by_cases h5:i=15
 ·subst h5;exact h.deps.one
 by_cases h6:i<20
 ·have:=h.has (i-16) (by omega)
  rw[show 16+(i-16)=i by omega] at this
  rw[this];rfl
 ·have:=h.vals (i-20) (by omega)
  rw[show 20+(i-20)=i by omega] at this
  rw[this];rfl
def zcv (i:Nat):Value:=if i=2∨i=15 then .slice none 0 0 else if 20≤i then .int .i64 0 else .bool false
theorem oF (ok:Nat→Prop) (w:World):bT ok w zcv cA:=
 ⟨rfl,rfl,IsO.nil ok w,fun i hi=>by
   unfold zcv;rw[if_neg (by omega),if_neg (by omega)];rfl,fun i hi=>by
   unfold zcv;rw[if_neg (by omega),if_neg (by omega)];rfl,IsI.nil ok w,fun i hi=>by
   unfold zcv;rw[if_neg (by omega),if_neg (by omega)];rfl,fun i hi=>by
   unfold zcv;rw[if_neg (by omega),if_pos (by omega)];rfl⟩
theorem Tryz.infoCase:(Tryz.prog.info? 51).map (·.size)=some 24:=by kernel_rfl
theorem Tryz.zeroCase:(Tryz.prog.info? 51).map (·.zero)=some (some (.agg (aB 24 zcv))):=by kernel_rfl
def fM (e:cW):List OpL × List Int × List Int × Bool × Bool:=(e.ops,e.first,e.deps,decide (1≤e.state),decide (2≤e.state))
theorem xA (s:aA) (sh:Int) {n:Nat} (h:(s.ent n).state=2) (i:Nat):fM ((s.exec sh n).ent i)=fM (s.ent i):=by
 by_cases e:i=n
 ·subst e
  have:(s.exec sh i).ent i=⟨3,(s.ent i).ops,(s.ent i).first,(s.ent i).deps,_,_⟩:=aT _ _ _
  rw[this]
  unfold fM
  rw[h]
  rfl
 ·have:(s.exec sh n).ent i=s.ent i:=aN _ _ e
  rw[this]
theorem BA (s:aA) (sh:Int) (n i:Nat):fM ((aA.execIf sh s n).ent i)=fM (s.ent i):=by
 unfold aA.execIf
 split
 ·rename_i h;exact xA s sh h i
 ·rfl
theorem uP (sh:Int) (i:Nat):∀(l:List Nat) (s:aA),fM ((s.execs sh l).ent i)=fM (s.ent i)
 | [],_=>rfl
 | n::l,s=>(uP sh i l (aA.execIf sh s n)).trans (BA s sh n i)
theorem vK (g:bH) (sh:Int) (i:Nat):∀(l:List Nat) (s:aA),fM ((l.foldl (aA.round g sh) s).ent i)=fM (s.ent i)
 | [],_=>rfl
 | n::l,s=>by
  refine (vK g sh i l (aA.round g sh s n)).trans ?_
  unfold aA.round
  split
  ·exact uP sh i _ s
  ·rfl
theorem tL (s:aA) (sh:Int) (i:Nat):fM ((s.settle sh).ent i)=fM (s.ent i):=vK _ sh i _ s
theorem mQ {s:aA} {who:Int} {f:aD} {i:Nat} (hi:i≠f.id.toNat):fM ((aJ s who f).1.ent i)=fM (s.ent i):=by
 rcases dK s who f with ⟨_,h1,_⟩ | ⟨_,_,_,_,_,_,⟨_,_,e⟩ | ⟨_,e⟩⟩
 ·rw[h1]
 ·rw[e]
  show fM ((s.asked _ f).ent i)=_
  unfold aA.asked
  split
  ·rw[e7 s _ f hi]
  ·rfl
 ·rw[e]
  show fM ((s.commit _ f).ent i)=_
  unfold aA.commit
  split
  ·rw[tL]
   have:(s.placed (ofL who) f).ent i=s.ent i:=aN _ _ hi
   rw[this]
  ·rfl
theorem nO {s:aA} {who:Int} {f:aD} (h0:(aJ s who f).2.2=0) (hk:f.kind=1):
  (aJ s who f).1.ent f.id.toNat=if (s.ent f.id.toNat).state=0 then ⟨1,f.ops,s.ahead f.id.toNat f.ops (ofL who),[],[],[]⟩ else s.ent f.id.toNat:=by
 rcases dK s who f with ⟨h1,_⟩ | ⟨_,_,_,_,_,_,⟨_,_,e⟩ | ⟨hk3,_⟩⟩
 ·exact absurd h0 h1
 ·rw[e]
  show (s.asked _ f).ent _=_
  unfold aA.asked
  split
  ·exact jI s _ f
  ·rfl
 ·omega
theorem lY {s:aA} {who:Int} {f:aD} (h0:(aJ s who f).2.2=0) (hk:f.kind=3):
  fM ((aJ s who f).1.ent f.id.toNat)=if (s.ent f.id.toNat).state<2 then (f.ops,(if (s.ent f.id.toNat).state=0 then s.ahead f.id.toNat f.ops (ofL who) else (s.ent f.id.toNat).first),f.deps,true,true) else fM (s.ent f.id.toNat):=by
 rcases dK s who f with ⟨h1,_⟩ | ⟨_,_,_,_,_,_,⟨hk1,_,_⟩ | ⟨_,e⟩⟩
 ·exact absurd h0 h1
 ·omega
 ·rw[e]
  show fM ((s.commit _ f).ent _)=_
  unfold aA.commit
  split
  ·rw[tL,kP]
   rfl
  ·rfl
theorem C5 {e:cW} {a:List OpL} {b c:List Int} {d g:Bool} (h:fM e=(a,b,c,d,g)):e.ops=a∧e.first=b∧e.deps=c∧decide (1≤e.state)=d∧decide (2≤e.state)=g:=by
 unfold fM at h
 simp only[Prod.mk.injEq] at h
 exact h
theorem l8 {e e':cW} (h:fM e=fM e'):e.ops=e'.ops∧e.first=e'.first∧e.deps=e'.deps∧((1≤e.state)↔(1≤e'.state))∧((2≤e.state)↔(2≤e'.state)):=by
 unfold fM at h
 simp only[Prod.mk.injEq,decide_eq_decide] at h
 exact h
theorem oK {s:aA} {id:Nat} {ops:List OpL} {sh:Int} {x:Nat}:(x:Int)∈s.ahead id ops sh↔x<32∧x≠id∧0<(s.ent x).state∧eA (s.ent x).ops ops sh=true:=by
 unfold aA.ahead cK
 simp[and_assoc]
 constructor
 ·rintro⟨a,h1,h2,h3,h4,e⟩
  obtain rfl:a=x:=by omega
  exact⟨h1,h2,h3,h4⟩
 ·rintro⟨h1,h2,h3,h4⟩
  exact⟨x,h1,h2,h3,h4,rfl⟩
theorem vC (o p:OpL):nR o p=nR p o:=by
 unfold nR
 rw[Bool.or_comm (o.1 !=1)]
 have:(o.2.1 == p.2.1)=(p.2.1 == o.2.1):=by
  rw[Bool.eq_iff_iff,beq_iff_eq,beq_iff_eq]
  exact eq_comm
 rw[this]
theorem qZ (a b:List OpL) (s:Int):eA a b s=true↔∃o∈a,∃p∈b,o.2.1 % 2=s∧nR o p=true:=by
 simp only[eA,oI,rJ,List.any_eq_true,Bool.and_eq_true,beq_iff_eq]
 constructor
 ·rintro⟨o,ho,hs,p,hp,hm⟩
  exact⟨o,ho,p,hp,hs,hm⟩
 ·rintro⟨o,ho,p,hp,hs,hm⟩
  exact⟨o,ho,hs,p,hp,hm⟩
theorem zZ {o p:OpL} (h:nR o p=true):o.2.1=p.2.1:=by
 unfold nR at h
 simp at h
 exact h.1
theorem qM (a b:List OpL) (s:Int):eA a b s=eA b a s:=by
 rw[Bool.eq_iff_iff,qZ,qZ]
 constructor
 ·rintro⟨o,ho,p,hp,hs,hm⟩
  exact⟨p,hp,o,ho,by rw[←zZ hm];exact hs,by rw[vC];exact hm⟩
 ·rintro⟨o,ho,p,hp,hs,hm⟩
  exact⟨p,hp,o,ho,by rw[←zZ hm];exact hs,by rw[vC];exact hm⟩
end Go.Proofs.YtkoefoccbjhoiadGreat
