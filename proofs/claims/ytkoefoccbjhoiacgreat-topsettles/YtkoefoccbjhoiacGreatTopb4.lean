/-
squeezed by tools/squeeze.py from: CluN Confl CluS CluT CluU CluV CluW CluX CluY CluZ CluG CluE CluH CluI
-/
import Derived.Test.YtkoefoccbjhoiacGreatTopb3
set_option linter.unusedVariables false
set_option linter.unusedSimpArgs false
set_option maxRecDepth 100000
set_option maxHeartbeats 16000000
namespace Go.Proofs.YtkoefoccbjhoiacGreat
open Go.RowKit
def fW (e:cZ):List OpL × List Int × List Int × Bool × Bool:=(e.ops,e.first,e.deps,decide (1≤e.state),decide (2≤e.state))
theorem yN (s:aA) (sh:Int) {n:Nat} (h:(s.ent n).state=2) (i:Nat):fW ((s.exec sh n).ent i)=fW (s.ent i):=by
 by_cases e:i=n
 ·subst e
  have:(s.exec sh i).ent i=⟨3,(s.ent i).ops,(s.ent i).first,(s.ent i).deps,_,_⟩:=aR _ _ _
  rw[this]
  unfold fW
  rw[h]
  rfl
 ·have:(s.exec sh n).ent i=s.ent i:=aM _ _ e
  rw[this]
theorem CL (s:aA) (sh:Int) (n i:Nat):fW ((aA.execIf sh s n).ent i)=fW (s.ent i):=by
 unfold aA.execIf
 split
 ·rename_i h;exact yN s sh h i
 ·rfl
theorem vT (sh:Int) (i:Nat):∀(l:List Nat) (s:aA),fW ((s.execs sh l).ent i)=fW (s.ent i)
 | [],_=>rfl
 | n::l,s=>(vT sh i l (aA.execIf sh s n)).trans (CL s sh n i)
theorem wR (g:bD) (sh:Int) (i:Nat):∀(l:List Nat) (s:aA),fW ((l.foldl (aA.round g sh) s).ent i)=fW (s.ent i)
 | [],_=>rfl
 | n::l,s=>by
  refine (wR g sh i l (aA.round g sh s n)).trans ?_
  unfold aA.round
  split
  ·exact vT sh i _ s
  ·rfl
theorem uO (s:aA) (sh:Int) (i:Nat):fW ((s.settle sh).ent i)=fW (s.ent i):=wR _ sh i _ s
theorem m5 {s:aA} {who:Int} {f:aC} {i:Nat} (hi:i≠f.id.toNat):fW ((aO s who f).1.ent i)=fW (s.ent i):=by
 rcases dE s who f with ⟨_,h1,_⟩ | ⟨_,_,_,_,_,_,⟨_,_,e⟩ | ⟨_,e⟩⟩
 ·rw[h1]
 ·rw[e]
  show fW ((s.asked _ f).ent i)=_
  unfold aA.asked
  split
  ·rw[fE s _ f hi]
  ·rfl
 ·rw[e]
  show fW ((s.commit _ f).ent i)=_
  unfold aA.commit
  split
  ·rw[uO]
   have:(s.placed (ofL who) f).ent i=s.ent i:=aM _ _ hi
   rw[this]
  ·rfl
theorem n9 {s:aA} {who:Int} {f:aC} (h0:(aO s who f).2.2=0) (hk:f.kind=1):
  (aO s who f).1.ent f.id.toNat=if (s.ent f.id.toNat).state=0 then ⟨1,f.ops,s.ahead f.id.toNat f.ops (ofL who),[],[],[]⟩ else s.ent f.id.toNat:=by
 rcases dE s who f with ⟨h1,_⟩ | ⟨_,_,_,_,_,_,⟨_,_,e⟩ | ⟨hk3,_⟩⟩
 ·exact absurd h0 h1
 ·rw[e]
  show (s.asked _ f).ent _=_
  unfold aA.asked
  split
  ·exact jQ s _ f
  ·rfl
 ·omega
theorem mC {s:aA} {who:Int} {f:aC} (h0:(aO s who f).2.2=0) (hk:f.kind=3):
  fW ((aO s who f).1.ent f.id.toNat)=if (s.ent f.id.toNat).state<2 then (f.ops,(if (s.ent f.id.toNat).state=0 then s.ahead f.id.toNat f.ops (ofL who) else (s.ent f.id.toNat).first),f.deps,true,true) else fW (s.ent f.id.toNat):=by
 rcases dE s who f with ⟨h1,_⟩ | ⟨_,_,_,_,_,_,⟨hk1,_,_⟩ | ⟨_,e⟩⟩
 ·exact absurd h0 h1
 ·omega
 ·rw[e]
  show fW ((s.commit _ f).ent _)=_
  unfold aA.commit
  split
  ·rw[uO,kW]
   rfl
  ·rfl
theorem EG {e:cZ} {a:List OpL} {b c:List Int} {d g:Bool} (h:fW e=(a,b,c,d,g)):e.ops=a∧e.first=b∧e.deps=c∧decide (1≤e.state)=d∧decide (2≤e.state)=g:=by
 unfold fW at h
 simp only[Prod.mk.injEq] at h
 exact h
theorem mF {e e':cZ} (h:fW e=fW e'):e.ops=e'.ops∧e.first=e'.first∧e.deps=e'.deps∧((1≤e.state)↔(1≤e'.state))∧((2≤e.state)↔(2≤e'.state)):=by
 unfold fW at h
 simp only[Prod.mk.injEq,decide_eq_decide] at h
 exact h
theorem pA {s:aA} {id:Nat} {ops:List OpL} {sh:Int} {x:Nat}:(x:Int)∈s.ahead id ops sh↔x<32∧x≠id∧0<(s.ent x).state∧dM (s.ent x).ops ops sh=true:=by
 unfold aA.ahead cR
 simp[and_assoc]
 constructor
 ·rintro⟨a,h1,h2,h3,h4,e⟩
  obtain rfl:a=x:=by omega
  exact⟨h1,h2,h3,h4⟩
 ·rintro⟨h1,h2,h3,h4⟩
  exact⟨x,h1,h2,h3,h4,rfl⟩
theorem wI (o p:OpL):nQ o p=nQ p o:=by
 unfold nQ
 rw[Bool.or_comm (o.1 !=1)]
 have:(o.2.1 == p.2.1)=(p.2.1 == o.2.1):=by
  rw[Bool.eq_iff_iff,beq_iff_eq,beq_iff_eq]
  exact eq_comm
 rw[this]
theorem mS (a b:List OpL) (s:Int):dM a b s=true↔∃o∈a,∃p∈b,o.2.1 % 2=s∧nQ o p=true:=by
 simp only[dM,oZ,sR,List.any_eq_true,Bool.and_eq_true,beq_iff_eq]
 constructor
 ·rintro⟨o,ho,hs,p,hp,hm⟩
  exact⟨o,ho,p,hp,hs,hm⟩
 ·rintro⟨o,ho,p,hp,hs,hm⟩
  exact⟨o,ho,hs,p,hp,hm⟩
theorem vA {o p:OpL} (h:nQ o p=true):o.2.1=p.2.1:=by
 unfold nQ at h
 simp at h
 exact h.1
theorem rN (a b:List OpL) (s:Int):dM a b s=dM b a s:=by
 rw[Bool.eq_iff_iff,mS,mS]
 constructor
 ·rintro⟨o,ho,p,hp,hs,hm⟩
  exact⟨p,hp,o,ho,by rw[←vA hm];exact hs,by rw[wI];exact hm⟩
 ·rintro⟨o,ho,p,hp,hs,hm⟩
  exact⟨p,hp,o,ho,by rw[←vA hm];exact hs,by rw[wI];exact hm⟩
theorem uS {a b:List OpL} {s:Int} (h:dM a b s=true):aZ a s=true∧aZ b s=true:=by
 obtain⟨o,ho,p,hp,hs,hm⟩:=(mS a b s).1 h
 constructor
 ·exact List.any_eq_true.2 ⟨o,ho,by simp[fL,hs]⟩
 ·exact List.any_eq_true.2 ⟨p,hp,by simp[fL,←vA hm,hs]⟩
structure Sys where
 B:Nat→aA
 C:Nat→aF
 M:aC→Prop
def tI (f:aC):Prop:=(0≤f.node∧f.node<6)∧0≤f.id∧f.id<32
structure gK (S:Sys):Prop where
 good:∀n,n<6→bT (S.B n)
 rng:∀f,S.M f→tI f
 ask:∀f,S.M f→f.kind=1→(S.C f.id.toNat).begun=true∧f.ops=(S.C f.id.toNat).ops
 com:∀f,S.M f→f.kind=3→((S.C f.id.toNat).begun=true∧(S.C f.id.toNat).fixed=true)∧f.ops=(S.C f.id.toNat).ops∧f.deps=(S.C f.id.toNat).deps
 tel:∀f,S.M f→f.kind=2→1≤((S.B f.node.toNat).ent f.id.toNat).state∧f.deps=((S.B f.node.toNat).ent f.id.toNat).first
 don:∀f,S.M f→f.kind=5→((S.B f.node.toNat).ent f.id.toNat).state=3∧f.ats=((S.B f.node.toNat).ent f.id.toNat).ats∧f.vals=((S.B f.node.toNat).ent f.id.toNat).vals
 ent1:∀n,n<6→∀i,i<32→1≤((S.B n).ent i).state→(S.C i).begun=true∧((S.B n).ent i).ops=(S.C i).ops
 ent2:∀n,n<6→∀i,i<32→2≤((S.B n).ent i).state→(S.C i).fixed=true∧((S.B n).ent i).deps=(S.C i).deps
 told:∀i,i<32→∀n,n<6→(S.C i).told n=true→1≤((S.B n).ent i).state∧∀d∈((S.B n).ent i).first,d∈(S.C i).deps
 conf:∀n,n<6→∀x y,x<32→y<32→x≠y→1≤((S.B n).ent x).state→1≤((S.B n).ent y).state→dM (S.C x).ops (S.C y).ops (ofL n)=true→(y:Int)∈((S.B n).ent x).first∨(x:Int)∈((S.B n).ent y).first
 most:∀i,i<32→(S.C i).fixed=true→(S.C i).begun=true∧dT (S.C i).ops (S.C i).told=true
theorem qT {a b:List Int} {x:Nat}:(x:Int)∈hJ a b↔x<32∧((x:Int)∈a∨(x:Int)∈b):=by
 unfold hJ cR
 simp
 constructor
 ·rintro⟨y,⟨h1,h2⟩,e⟩
  obtain rfl:y=x:=by omega
  exact⟨h1,h2⟩
 ·rintro⟨h1,h2⟩
  exact⟨x,⟨h1,h2⟩,rfl⟩
theorem IF {a b:List Int} {d:Int} (h:d∈a) (h0:0≤d∧d<32):d∈hJ a b:=by
 obtain⟨x,rfl⟩:=Int.eq_ofNat_of_zero_le h0.1
 exact qT.2 ⟨by omega,Or.inl h⟩
theorem E8 {a b:List Int} {d:Int} (h:d∈b) (h0:0≤d∧d<32):d∈hJ a b:=by
 obtain⟨x,rfl⟩:=Int.eq_ofNat_of_zero_le h0.1
 exact qT.2 ⟨by omega,Or.inr h⟩
theorem AZ {s:aA} (h:bT s) {i:Nat} (hi:i<32):∀d∈(s.ent i).first,0≤d∧d<32:=by
 intro d hd
 rcases h.ent i hi with e | F
 ·rw[e] at hd;simp[kJ] at hd
 ·have:=(s4 _ _ F.first.1).1 d hd
  omega
theorem DW (n:Nat):ofL (n:Int)=if n<3 then 0 else 1:=by
 unfold ofL
 by_cases h:n<3
 ·rw[if_pos h,if_pos (by omega)]
 ·rw[if_neg h,if_neg (by omega)]
theorem gK.node {S:Sys} (h:gK S) {f:aC} (hM:S.M f) (hk:f.kind=1∨f.kind=3) (h0:(aO (S.B f.node.toNat) f.node f).2.2=0):
  gK ⟨upd S.B f.node.toNat (aO (S.B f.node.toNat) f.node f).1,S.C,fun g=>S.M g∨g∈(aO (S.B f.node.toNat) f.node f).2.1⟩:=by
 obtain⟨hr1,hr2⟩:=h.rng f hM
 have hn6:f.node.toNat<6:=by omega
 have hi32:f.id.toNat<32:=by omega
 have hnat:(f.node.toNat:Int)=f.node:=by omega
 have hG:=h.good _ hn6
 obtain⟨s,hs⟩:∃s,s=S.B f.node.toNat:=⟨_,rfl⟩
 obtain⟨T,hT⟩:∃T,T=aO (S.B f.node.toNat) f.node f:=⟨_,rfl⟩
 rw[←hT] at h0 ⊢
 have hT':T=aO s f.node f:=by rw[hs];exact hT
 rw[←hs] at hG
 have h00:(aO s f.node f).2.2=0:=by rw[←hT'];exact h0
 have hst0:∀i,i<32→0≤(s.ent i).state:=fun i hi=>(hG.state hi).1
 have hG':bT T.1:=by rw[hT'];exact zH h00
 have hops:f.ops=(S.C f.id.toNat).ops∧(S.C f.id.toNat).begun=true:=by
  rcases hk with e | e
  ·exact⟨(h.ask f hM e).2,(h.ask f hM e).1⟩
  ·exact⟨(h.com f hM e).2.1,(h.com f hM e).1.1⟩
 have other:∀i,i≠f.id.toNat→fW (T.1.ent i)=fW (s.ent i):=fun i hi=>by rw[hT'];exact m5 hi
 have mine:((s.ent f.id.toNat).state=0→(T.1.ent f.id.toNat).first=s.ahead f.id.toNat f.ops (ofL f.node))∧((s.ent f.id.toNat).state≠0→(T.1.ent f.id.toNat).first=(s.ent f.id.toNat).first)∧
   (T.1.ent f.id.toNat).ops=(S.C f.id.toNat).ops∧1≤(T.1.ent f.id.toNat).state∧(2≤(T.1.ent f.id.toNat).state→(S.C f.id.toNat).fixed=true∧(T.1.ent f.id.toNat).deps=(S.C f.id.toNat).deps):=by
  have hold1:(s.ent f.id.toNat).state≠0→(s.ent f.id.toNat).ops=(S.C f.id.toNat).ops:=fun e=>by
   have:=h.ent1 _ hn6 _ hi32 (by rw[←hs];have:=hst0 _ hi32;omega)
   rw[←hs] at this
   exact this.2
  have hold2:2≤(s.ent f.id.toNat).state→(S.C f.id.toNat).fixed=true∧(s.ent f.id.toNat).deps=(S.C f.id.toNat).deps:=fun e=>by
   have:=h.ent2 _ hn6 _ hi32 (by rw[←hs];exact e)
   rw[←hs] at this
   exact this
  rcases hk with hk | hk
  ·have e:=n9 h00 hk
   rw[←hT'] at e
   by_cases z:(s.ent f.id.toNat).state=0
   ·rw[if_pos z] at e
    rw[e]
    exact⟨fun _=>rfl,fun c=>absurd z c,hops.1,by simp,fun c=>absurd c (by simp)⟩
   ·rw[if_neg z] at e
    rw[e]
    exact⟨fun c=>absurd c z,fun _=>rfl,hold1 z,by have:=hst0 _ hi32;omega,hold2⟩
  ·have e:=mC h00 hk
   rw[←hT'] at e
   by_cases l:(s.ent f.id.toNat).state<2
   ·rw[if_pos l] at e
    obtain⟨e1,e2,e3,e4,e5⟩:=EG e
    refine⟨fun z=>by rw[e2,if_pos z],fun z=>by rw[e2,if_neg z],by rw[e1];exact hops.1,of_decide_eq_true e4,fun _=>⟨(h.com f hM hk).1.2,by rw[e3];exact (h.com f hM hk).2.2⟩⟩
   ·rw[if_neg l] at e
    obtain⟨e1,e2,e3,e4,e5⟩:=mF e
    exact⟨fun z=>by omega,fun _=>e2,by rw[e1];exact hold1 (by omega),by rw[e4];omega,fun c=>by rw[e3];exact hold2 (e5.1 c)⟩
 have keep1:∀i,i<32→1≤(s.ent i).state→1≤(T.1.ent i).state∧(T.1.ent i).first=(s.ent i).first:=fun i hi h1=>by
  by_cases e:i=f.id.toNat
  ·subst e
   exact⟨mine.2.2.2.1,mine.2.1 (by omega)⟩
  ·obtain⟨_,e2,_,e4,_⟩:=mF (other i e)
   exact⟨e4.2 h1,e2⟩
 have hdone:∀i,(s.ent i).state=3→T.1.ent i=s.ent i:=fun i hi=>by
  rcases dE s f.node f with ⟨_,e1,_⟩ | ⟨_,_,_,_,_,_,⟨_,_,e⟩ | ⟨_,e⟩⟩
  ·rw[hT',e1]
  ·rw[hT',e];exact (uJ s _ f).done i hi
  ·rw[hT',e]
   show (s.commit _ f).ent i=_
   unfold aA.commit
   split
   ·rename_i l
    have p1:=sP s (ofL f.node) f l
    have hp:(s.placed (ofL f.node) f).ent i=s.ent i:=p1.done i hi
    have:∀(l:List Nat) (t:aA) (g:bD),(t.ent i).state=3→(l.foldl (aA.round g (ofL f.node)) t).ent i=t.ent i:=by
     intro l
     induction l with
     | nil=>intros;rfl
     | cons a l ih=>
      intro t g ht
      have h2:(aA.round g (ofL f.node) t a).ent i=t.ent i:=by
       unfold aA.round
       split
       ·have:∀(l:List Nat) (t:aA),(t.ent i).state=3→(l.foldl (aA.execIf (ofL f.node)) t).ent i=t.ent i:=by
         intro l
         induction l with
         | nil=>intros;rfl
         | cons b l ih2=>
          intro t ht
          have h3:=(sO t (ofL f.node) b).done i ht
          show (l.foldl _ (aA.execIf _ t b)).ent i=_
          rw[ih2 _ (by rw[h3];exact ht),h3]
        exact this _ t ht
       ·rfl
      show (l.foldl _ (aA.round g _ t a)).ent i=_
      rw[ih _ g (by rw[h2];exact ht),h2]
    unfold aA.settle
    rw[this _ _ _ (by rw[hp];exact hi),hp]
   ·rfl
 have at_:∀m,upd S.B f.node.toNat T.1 m=if m=f.node.toNat then T.1 else S.B m:=fun m=>rfl
 have hans:∀g∈T.2.1,g.node=f.node∧g.id=f.id∧(g.kind=2→g.deps=(T.1.ent f.id.toNat).first)∧(g.kind=5→(T.1.ent f.id.toNat).state=3∧g.ats=(T.1.ent f.id.toNat).ats∧g.vals=(T.1.ent f.id.toNat).vals)∧g.kind≠1∧g.kind≠3:=by
  intro g hg
  rcases dE s f.node f with ⟨_,_,e1⟩ | ⟨_,_,_,_,_,_,⟨_,_,e⟩ | ⟨_,e⟩⟩
  ·rw[hT',e1] at hg;simp at hg
  ·rw[hT',e] at hg ⊢
   simp at hg
   subst hg
   exact⟨rfl,rfl,fun _=>rfl,fun c=>absurd c (by simp),by simp,by simp⟩
  ·rw[hT',e] at hg ⊢
   have hg:g∈(s.commit (ofL f.node) f).answers (ofL f.node) f.node f.id:=hg
   unfold aA.answers at hg
   rcases List.mem_cons.1 hg with rfl | hg
   ·exact⟨rfl,rfl,fun c=>absurd c (by simp),fun c=>absurd c (by simp),by simp,by simp⟩
   ·split at hg
    ·rename_i hc
     simp at hg
     subst hg
     exact⟨rfl,rfl,fun c=>absurd c (by simp),fun _=>⟨hc.1,rfl,rfl⟩,by simp,by simp⟩
    ·simp at hg
 refine⟨fun m hm=>?_,fun g hg=>?_,fun g hg hk=>?_,fun g hg hk=>?_,fun g hg hk=>?_,fun g hg hk=>?_,fun m hm i hi h1=>?_,fun m hm i hi h2=>?_,fun i hi m hm ht=>?_,fun m hm x y hx hy hxy h1 h2 hc=>?_,h.most⟩
 ·show bT (upd S.B f.node.toNat T.1 m)
  rw[at_]
  split
  ·exact hG'
  ·exact h.good m hm
 ·rcases hg with hg | hg
  ·exact h.rng g hg
  ·obtain⟨a1,a2,_⟩:=hans g hg
   unfold tI
   rw[a1,a2]
   exact⟨hr1,hr2⟩
 ·rcases hg with hg | hg
  ·exact h.ask g hg hk
  ·exact absurd hk (hans g hg).2.2.2.2.1
 ·rcases hg with hg | hg
  ·exact h.com g hg hk
  ·exact absurd hk (hans g hg).2.2.2.2.2
 ·show 1≤((upd S.B f.node.toNat T.1 g.node.toNat).ent g.id.toNat).state∧g.deps=((upd S.B f.node.toNat T.1 g.node.toNat).ent g.id.toNat).first
  rw[at_]
  rcases hg with hg | hg
  ·obtain⟨t1,t2⟩:=h.tel g hg hk
   have hgr:=h.rng g hg
   split
   ·rename_i e
    rw[e,←hs] at t1 t2
    obtain⟨k1,k2⟩:=keep1 g.id.toNat (by have:=hgr.2;omega) t1
    exact⟨k1,by rw[k2];exact t2⟩
   ·exact⟨t1,t2⟩
  ·obtain⟨a1,a2,a3,_⟩:=hans g hg
   rw[a1,a2,if_pos rfl]
   exact⟨mine.2.2.2.1,a3 hk⟩
 ·show ((upd S.B f.node.toNat T.1 g.node.toNat).ent g.id.toNat).state=3∧g.ats=((upd S.B f.node.toNat T.1 g.node.toNat).ent g.id.toNat).ats∧g.vals=((upd S.B f.node.toNat T.1 g.node.toNat).ent g.id.toNat).vals
  rw[at_]
  rcases hg with hg | hg
  ·obtain⟨t1,t2⟩:=h.don g hg hk
   split
   ·rename_i e
    rw[e,←hs] at t1 t2
    rw[hdone _ t1]
    exact⟨t1,t2⟩
   ·exact⟨t1,t2⟩
  ·obtain⟨a1,a2,_,a4,_⟩:=hans g hg
   rw[a1,a2,if_pos rfl]
   exact a4 hk
 ·have h1:1≤((upd S.B f.node.toNat T.1 m).ent i).state:=h1
  show (S.C i).begun=true∧((upd S.B f.node.toNat T.1 m).ent i).ops=(S.C i).ops
  rw[at_] at h1 ⊢
  split
  ·rename_i e
   rw[if_pos e] at h1
   by_cases ei:i=f.id.toNat
   ·subst ei
    exact⟨hops.2,mine.2.2.1⟩
   ·obtain⟨e1,_,_,e4,_⟩:=mF (other i ei)
    rw[e1]
    have:=h.ent1 m hm i hi (by rw[e,←hs];exact e4.1 h1)
    rw[e,←hs] at this
    exact this
  ·rename_i e
   rw[if_neg e] at h1
   exact h.ent1 m hm i hi h1
 ·have h2:2≤((upd S.B f.node.toNat T.1 m).ent i).state:=h2
  show (S.C i).fixed=true∧((upd S.B f.node.toNat T.1 m).ent i).deps=(S.C i).deps
  rw[at_] at h2 ⊢
  split
  ·rename_i e
   rw[if_pos e] at h2
   by_cases ei:i=f.id.toNat
   ·subst ei
    exact mine.2.2.2.2 h2
   ·obtain⟨_,_,e3,_,e5⟩:=mF (other i ei)
    rw[e3]
    have:=h.ent2 m hm i hi (by rw[e,←hs];exact e5.1 h2)
    rw[e,←hs] at this
    exact this
  ·rename_i e
   rw[if_neg e] at h2
   exact h.ent2 m hm i hi h2
 ·obtain⟨t1,t2⟩:=h.told i hi m hm ht
  show 1≤((upd S.B f.node.toNat T.1 m).ent i).state∧∀d∈((upd S.B f.node.toNat T.1 m).ent i).first,d∈(S.C i).deps
  rw[at_]
  split
  ·rename_i e
   rw[e,←hs] at t1 t2
   obtain⟨k1,k2⟩:=keep1 i hi t1
   exact⟨k1,by rw[k2];exact t2⟩
  ·exact⟨t1,t2⟩
 ·have g1:1≤((upd S.B f.node.toNat T.1 m).ent x).state:=h1
  have g2:1≤((upd S.B f.node.toNat T.1 m).ent y).state:=h2
  clear h1 h2
  have hc:dM (S.C x).ops (S.C y).ops (ofL m)=true:=hc
  show (y:Int)∈((upd S.B f.node.toNat T.1 m).ent x).first∨(x:Int)∈((upd S.B f.node.toNat T.1 m).ent y).first
  rw[at_] at g1 g2 ⊢
  by_cases e:m=f.node.toNat
  ·rw[if_pos e] at g1 g2 ⊢
   subst e
   rw[hnat] at hc
   have old:1≤(s.ent x).state→1≤(s.ent y).state→(y:Int)∈(T.1.ent x).first∨(x:Int)∈(T.1.ent y).first:=fun o1 o2=>by
    rw[(keep1 x hx o1).2,(keep1 y hy o2).2]
    have:=h.conf _ hn6 x y hx hy hxy (by rw[←hs];exact o1) (by rw[←hs];exact o2) (by rw[hnat];exact hc)
    rw[←hs] at this
    exact this
   by_cases ex:x=f.id.toNat
   ·subst ex
    have hy1:1≤(s.ent y).state:=(mF (other y (Ne.symm hxy))).2.2.2.1.1 g2
    by_cases z:(s.ent f.id.toNat).state=0
    ·left
     rw[mine.1 z]
     refine pA.2 ⟨hy,Ne.symm hxy,by omega,?_⟩
     have hyo:=h.ent1 _ hn6 y hy (by rw[←hs];exact hy1)
     rw[←hs] at hyo
     rw[hyo.2,hops.1,rN]
     exact hc
    ·exact old (by have:=hst0 _ hi32;omega) hy1
   ·by_cases ey:y=f.id.toNat
    ·subst ey
     have hx1:1≤(s.ent x).state:=(mF (other x ex)).2.2.2.1.1 g1
     by_cases z:(s.ent f.id.toNat).state=0
     ·right
      rw[mine.1 z]
      refine pA.2 ⟨hx,ex,by omega,?_⟩
      have hxo:=h.ent1 _ hn6 x hx (by rw[←hs];exact hx1)
      rw[←hs] at hxo
      rw[hxo.2,hops.1]
      exact hc
     ·exact old hx1 (by have:=hst0 _ hi32;omega)
    ·exact old ((mF (other x ex)).2.2.2.1.1 g1) ((mF (other y ey)).2.2.2.1.1 g2)
  ·rw[if_neg e] at g1 g2 ⊢
   exact h.conf m hm x y hx hy hxy g1 g2 hc
theorem mL {c:aF} {id:Int} {g:aC} (h:g∈bU c id):c.begun=true∧(0≤id∧id<32)∧(0≤g.node∧g.node<6)∧g.id=id∧g.ops=c.ops∧((c.fixed=true∧g.kind=3∧g.deps=c.deps)∨(c.fixed=false∧g.kind=1)):=by
 unfold bU at h
 split at h
 ·simp at h
 ·rename_i hn
  obtain⟨n,hn6,hg⟩:=List.mem_flatMap.1 h
  have hn6:=List.mem_range.1 hn6
  have hb:c.begun=true:=by
   cases e:c.begun
   ·exact absurd (Or.inr (Or.inl e)) hn
   ·rfl
  have hi0:0≤id:=by
   by_cases e:id<0
   ·exact absurd (Or.inr (Or.inr (Or.inl e))) hn
   ·omega
  have hi1:id<32:=by
   by_cases e:32≤id
   ·exact absurd (Or.inr (Or.inr (Or.inr (Or.inl e)))) hn
   ·omega
  unfold aF.send at hg
  cases hf:c.fixed
  ·rw[hf] at hg
   simp only[Bool.false_eq_true,if_false] at hg
   split at hg
   ·simp at hg
    subst hg
    exact⟨hb,⟨hi0,hi1⟩,⟨by show (0:Int)≤(n:Int);omega,by show (n:Int)<6;omega⟩,rfl,rfl,Or.inr ⟨rfl,rfl⟩⟩
   ·simp at hg
  ·rw[hf] at hg
   simp only[if_true] at hg
   split at hg
   ·simp at hg
    subst hg
    exact⟨hb,⟨hi0,hi1⟩,⟨by show (0:Int)≤(n:Int);omega,by show (n:Int)<6;omega⟩,rfl,rfl,Or.inl ⟨rfl,rfl,rfl⟩⟩
   ·simp at hg
theorem jZ {c:aF} {id:Int} {f g:aC} (hg:g∈(aN c id f).2.1):g∈bU (aN c id f).1 id∧(aN c id f).1.fixed=true:=by
 unfold aN at *
 split at hg
 ·simp at hg
 ·rename_i h1
  rw[if_neg h1]
  split at hg
  ·simp at hg
  ·rename_i h2
   rw[if_neg h2]
   split at hg
   ·simp at hg
   ·rename_i h3
    rw[if_neg h3]
    split at hg
    ·rename_i h4
     rw[if_pos h4]
     split at hg
     ·simp at hg
     ·rename_i h5
      rw[if_neg h5]
      have hg:g∈if (c.hear f).fixed=true then bU (c.hear f) id else []:=hg
      split at hg
      ·rename_i h6;exact⟨hg,h6⟩
      ·simp at hg
    ·split at hg
     ·simp at hg
     ·split at hg<;>simp at hg
theorem pT {c:aF} {id:Int} {f:aC} (h:(aN c id f).2.2=0):c.begun=true∧f.id=id:=by
 unfold aN at h
 split at h
 ·exact absurd h (show (2:Int)≠0 by decide)
 ·rename_i h1
  constructor
  ·cases e:c.begun
   ·exact absurd (Or.inr (Or.inl e)) h1
   ·rfl
  ·by_cases e:f.id=id
   ·exact e
   ·exact absurd (Or.inr (Or.inr (Or.inl e))) h1
theorem gK.setC {S:Sys} (h:gK S) {i:Nat} (_hi:i<32) (c:aF) (N:aC→Prop)
  (hb:(S.C i).begun=true→c.begun=true∧c.ops=(S.C i).ops) (hf:(S.C i).fixed=true→c.fixed=true∧c.deps=(S.C i).deps)
  (ht:∀n,n<6→c.told n=true→1≤((S.B n).ent i).state∧∀d∈((S.B n).ent i).first,d∈c.deps) (hm:c.fixed=true→c.begun=true∧dT c.ops c.told=true)
  (hN:∀g,N g→tI g∧g.id.toNat=i∧c.begun=true∧g.ops=c.ops∧((c.fixed=true∧g.kind=3∧g.deps=c.deps)∨g.kind=1)):
  gK ⟨S.B,upd S.C i c,fun g=>S.M g∨N g⟩:=by
 have at_:∀m,upd S.C i c m=if m=i then c else S.C m:=fun m=>rfl
 refine⟨h.good,fun g hg=>?_,fun g hg hk=>?_,fun g hg hk=>?_,fun g hg hk=>?_,fun g hg hk=>?_,fun n hn j hj h1=>?_,fun n hn j hj h2=>?_,fun j hj n hn htl=>?_,fun n hn x y hx hy hxy h1 h2 hc=>?_,fun j hj hfx=>?_⟩
 ·rcases hg with hg | hg
  ·exact h.rng g hg
  ·exact (hN g hg).1
 ·show (upd S.C i c g.id.toNat).begun=true∧g.ops=(upd S.C i c g.id.toNat).ops
  rw[at_]
  rcases hg with hg | hg
  ·obtain⟨a1,a2⟩:=h.ask g hg hk
   split
   ·rename_i e
    rw[e] at a1 a2
    obtain⟨b1,b2⟩:=hb a1
    exact⟨b1,by rw[b2];exact a2⟩
   ·exact⟨a1,a2⟩
  ·obtain⟨_,e,b1,b2,_⟩:=hN g hg
   rw[if_pos e]
   exact⟨b1,b2⟩
 ·show ((upd S.C i c g.id.toNat).begun=true∧(upd S.C i c g.id.toNat).fixed=true)∧g.ops=(upd S.C i c g.id.toNat).ops∧g.deps=(upd S.C i c g.id.toNat).deps
  rw[at_]
  rcases hg with hg | hg
  ·obtain⟨⟨a1,a2⟩,a3,a4⟩:=h.com g hg hk
   split
   ·rename_i e
    rw[e] at a1 a2 a3 a4
    obtain⟨b1,b2⟩:=hb a1
    obtain⟨b3,b4⟩:=hf a2
    exact⟨⟨b1,b3⟩,by rw[b2];exact a3,by rw[b4];exact a4⟩
   ·exact⟨⟨a1,a2⟩,a3,a4⟩
  ·obtain⟨_,e,b1,b2,b3⟩:=hN g hg
   rw[if_pos e]
   rcases b3 with ⟨b3,_,b4⟩ | b3
   ·exact⟨⟨b1,b3⟩,b2,b4⟩
   ·omega
 ·rcases hg with hg | hg
  ·exact h.tel g hg hk
  ·obtain⟨_,_,_,_,b⟩:=hN g hg
   rcases b with ⟨_,b,_⟩ | b<;>omega
 ·rcases hg with hg | hg
  ·exact h.don g hg hk
  ·obtain⟨_,_,_,_,b⟩:=hN g hg
   rcases b with ⟨_,b,_⟩ | b<;>omega
 ·obtain⟨a1,a2⟩:=h.ent1 n hn j hj h1
  show (upd S.C i c j).begun=true∧((S.B n).ent j).ops=(upd S.C i c j).ops
  rw[at_]
  split
  ·rename_i e
   rw[e] at a1 a2 ⊢
   obtain⟨b1,b2⟩:=hb a1
   exact⟨b1,by rw[b2];exact a2⟩
  ·exact⟨a1,a2⟩
 ·obtain⟨a1,a2⟩:=h.ent2 n hn j hj h2
  show (upd S.C i c j).fixed=true∧((S.B n).ent j).deps=(upd S.C i c j).deps
  rw[at_]
  split
  ·rename_i e
   rw[e] at a1 a2 ⊢
   obtain⟨b1,b2⟩:=hf a1
   exact⟨b1,by rw[b2];exact a2⟩
  ·exact⟨a1,a2⟩
 ·have htl:(upd S.C i c j).told n=true:=htl
  show 1≤((S.B n).ent j).state∧∀d∈((S.B n).ent j).first,d∈(upd S.C i c j).deps
  rw[at_] at htl ⊢
  split
  ·rename_i e
   rw[if_pos e] at htl
   rw[e]
   exact ht n hn htl
  ·rename_i e
   rw[if_neg e] at htl
   exact h.told j hj n hn htl
 ·have hops:∀z,z<32→1≤((S.B n).ent z).state→(upd S.C i c z).ops=(S.C z).ops:=fun z hz hz1=>by
   rw[at_]
   split
   ·rename_i e
    rw[e]
    exact (hb (by rw[←e];exact (h.ent1 n hn z hz hz1).1)).2
   ·rfl
  have hc:dM (upd S.C i c x).ops (upd S.C i c y).ops (ofL n)=true:=hc
  rw[hops x hx h1,hops y hy h2] at hc
  exact h.conf n hn x y hx hy hxy h1 h2 hc
 ·have hfx:(upd S.C i c j).fixed=true:=hfx
  show (upd S.C i c j).begun=true∧dT (upd S.C i c j).ops (upd S.C i c j).told=true
  rw[at_] at hfx ⊢
  split
  ·rename_i e
   rw[if_pos e] at hfx
   exact hm hfx
  ·rename_i e
   rw[if_neg e] at hfx
   exact h.most j hj hfx
theorem gK.case {S:Sys} (h:gK S) {f:aC} (hM:S.M f) (h0:(aN (S.C f.id.toNat) f.id f).2.2=0):
  gK ⟨S.B,upd S.C f.id.toNat (aN (S.C f.id.toNat) f.id f).1,fun g=>S.M g∨g∈(aN (S.C f.id.toNat) f.id f).2.1⟩:=by
 obtain⟨hr1,hr2⟩:=h.rng f hM
 have hi32:f.id.toNat<32:=by omega
 have hn6:f.node.toNat<6:=by omega
 have hsend:∀g,g∈(aN (S.C f.id.toNat) f.id f).2.1→tI g∧g.id.toNat=f.id.toNat∧(aN (S.C f.id.toNat) f.id f).1.begun=true∧g.ops=(aN (S.C f.id.toNat) f.id f).1.ops∧
   (((aN (S.C f.id.toNat) f.id f).1.fixed=true∧g.kind=3∧g.deps=(aN (S.C f.id.toNat) f.id f).1.deps)∨g.kind=1):=fun g hg=>by
  obtain⟨h1,h2⟩:=jZ hg
  obtain⟨b1,b2,b3,b4,b5,b6⟩:=mL h1
  refine⟨⟨b3,by rw[b4];exact b2⟩,by rw[b4],b1,b5,?_⟩
  rcases b6 with b6 | b6
  ·exact Or.inl b6
  ·exact Or.inr b6.2
 rcases fF (S.C f.id.toNat) f.id f with ⟨h1,_⟩ | ⟨_,_,hk,hf,_,_,he,_⟩ | ⟨_,_,_,hs,_,_⟩
 ·exact absurd h0 h1
 ·refine h.setC hi32 _ _ ?_ ?_ ?_ ?_ hsend
  ·rw[he];exact fun e=>⟨e,rfl⟩
  ·intro e;rw[hf] at e;cases e
  ·rw[he]
   intro n hn ht
   have ht:upd (S.C f.id.toNat).told f.node.toNat true n=true:=ht
   show _∧∀d∈((S.B n).ent f.id.toNat).first,d∈hJ (S.C f.id.toNat).deps f.deps
   by_cases e:n=f.node.toNat
   ·subst e
    obtain⟨t1,t2⟩:=h.tel f hM hk
    refine⟨t1,fun d hd=>E8 (by rw[t2];exact hd) (AZ (h.good _ hn) hi32 d hd)⟩
   ·rw[aM _ _ e] at ht
    obtain⟨t1,t2⟩:=h.told _ hi32 n hn ht
    exact⟨t1,fun d hd=>IF (t2 d hd) (AZ (h.good _ hn) hi32 d hd)⟩
  ·rw[he]
   intro e
   exact⟨(pT h0).1,e⟩
 ·refine h.setC hi32 _ _ ?_ ?_ ?_ ?_ hsend
  ·exact fun e=>⟨by rw[hs.begun];exact e,hs.ops⟩
  ·exact fun e=>⟨by rw[hs.fixed];exact e,hs.deps⟩
  ·intro n hn ht
   rw[hs.told] at ht
   rw[hs.deps]
   exact h.told _ hi32 n hn ht
  ·intro e
   rw[hs.fixed] at e
   obtain⟨m1,m2⟩:=h.most _ hi32 e
   exact⟨by rw[hs.begun];exact m1,by rw[hs.ops,hs.told];exact m2⟩
theorem gK.again {S:Sys} (h:gK S) {i:Nat} (hi:i<32):gK ⟨S.B,S.C,fun g=>S.M g∨g∈bU (S.C i) (i:Int)⟩:=by
  have e:upd S.C i (S.C i)=S.C:=by
    funext j
    unfold upd
    split
    ·rename_i e;rw[e]
    ·rfl
  have:=h.setC hi (S.C i) (fun g=>g∈bU (S.C i) (i:Int)) (fun e=>⟨e,rfl⟩) (fun e=>⟨e,rfl⟩) (fun n hn ht=>h.told i hi n hn ht) (fun e=>h.most i hi e) (fun g hg=>by
    obtain⟨b1,b2,b3,b4,b5,b6⟩:=mL hg
    refine⟨⟨b3,by rw[b4];exact b2⟩,by rw[b4];omega,b1,b5,?_⟩
    rcases b6 with b6 | b6
    ·exact Or.inl b6
    ·exact Or.inr b6.2)
  rw[e] at this
  exact this
theorem gK.begin {S:Sys} (h:gK S) {i:Nat} (hi:i<32) (hz:S.C i=cF) (ops:List OpL):
  gK ⟨S.B,upd S.C i { cF with begun:=true,ops:=ops },fun g=>S.M g∨g∈bU { cF with begun:=true,ops:=ops } (i:Int)⟩:=by
 refine h.setC hi _ _ (fun e=>?_) (fun e=>?_) (fun n hn ht=>?_) (fun e=>?_) (fun g hg=>?_)
 ·rw[hz] at e;cases e
 ·rw[hz] at e;cases e
 ·cases ht
 ·cases e
 ·obtain⟨b1,b2,b3,b4,b5,b6⟩:=mL hg
  refine⟨⟨b3,by rw[b4];exact b2⟩,by rw[b4];omega,b1,b5,?_⟩
  rcases b6 with b6 | b6
  ·exact Or.inl b6
  ·exact Or.inr b6.2
theorem gK.zero:gK ⟨fun _=>dU,fun _=>cF,fun _=>False⟩:=by
 refine⟨fun _ _=>H9,fun _ h=>h.elim,fun _ h=>h.elim,fun _ h=>h.elim,fun _ h=>h.elim,fun _ h=>h.elim,fun n _ i _ h=>?_,fun n _ i _ h=>?_,fun i _ n _ h=>?_,fun n _ x y _ _ _ h=>?_,fun i _ h=>?_⟩
 ·exact absurd h (show ¬ (1:Int)≤0 by decide)
 ·exact absurd h (show ¬ (2:Int)≤0 by decide)
 ·cases h
 ·exact absurd h (show ¬ (1:Int)≤0 by decide)
 ·cases h
theorem vG (t:Nat→Bool) (sh:Nat):kA t sh=(t (sh*3+0)).toNat+(t (sh*3+1)).toNat+(t (sh*3+2)).toNat:=by
 unfold kA
 rw[show List.range 3=[0,1,2] from rfl]
 simp only[List.filter_cons,List.filter_nil]
 generalize t (sh*3+0)=a
 generalize t (sh*3+1)=b
 generalize t (sh*3+2)=c
 cases a<;>cases b<;>cases c<;>rfl
theorem IM {t u:Nat→Bool} {sh:Nat} (h1:2≤kA t sh) (h2:2≤kA u sh):∃k,k<3∧t (sh*3+k)=true∧u (sh*3+k)=true:=by
 rw[vG] at h1 h2
 by_cases e0:t (sh*3+0)=true∧u (sh*3+0)=true
 ·exact⟨0,by omega,e0⟩
 by_cases e1:t (sh*3+1)=true∧u (sh*3+1)=true
 ·exact⟨1,by omega,e1⟩
 by_cases e2:t (sh*3+2)=true∧u (sh*3+2)=true
 ·exact⟨2,by omega,e2⟩
 exfalso
 generalize t (sh*3+0)=a0 at *
 generalize t (sh*3+1)=a1 at *
 generalize t (sh*3+2)=a2 at *
 generalize u (sh*3+0)=b0 at *
 generalize u (sh*3+1)=b1 at *
 generalize u (sh*3+2)=b2 at *
 cases a0<;>cases a1<;>cases a2<;>cases b0<;>cases b1<;>cases b2<;>simp_all
theorem yW {ops:List OpL} {t:Nat→Bool} (h:dT ops t=true) {sh:Nat} (hs:sh<2) (ht:aZ ops (sh:Int)=true):2≤kA t sh:=by
 unfold dT at h
 simp only[Bool.and_eq_true,Bool.or_eq_true,Bool.not_eq_true',decide_eq_true_iff] at h
 match sh,hs with
 | 0,_=>
  rcases h.1 with e | e
  ·have ht:aZ ops 0=true:=ht
   rw[e] at ht;cases ht
  ·exact e
 | 1,_=>
  rcases h.2 with e | e
  ·have ht:aZ ops 1=true:=ht
   rw[e] at ht;cases ht
  ·exact e
theorem gK.ahead {S:Sys} (h:gK S) {x y sh:Nat} (hx:x<32) (hy:y<32) (hxy:x≠y) (fx:(S.C x).fixed=true) (fy:(S.C y).fixed=true) (hs:sh<2) (hc:dM (S.C x).ops (S.C y).ops (sh:Int)=true):
  (y:Int)∈(S.C x).deps∨(x:Int)∈(S.C y).deps:=by
 obtain⟨t1,t2⟩:=uS hc
 obtain⟨k,hk,a,b⟩:=IM (yW (h.most x hx fx).2 hs t1) (yW (h.most y hy fy).2 hs t2)
 have hn:sh*3+k<6:=by omega
 obtain⟨a1,a2⟩:=h.told x hx _ hn a
 obtain⟨b1,b2⟩:=h.told y hy _ hn b
 have ho:ofL ((sh*3+k:Nat):Int)=(sh:Int):=by
  rw[DW]
  split
  ·rename_i e
   have:sh=0:=by omega
   subst this;rfl
  ·rename_i e
   have:sh=1:=by omega
   subst this;rfl
 rcases h.conf _ hn x y hx hy hxy a1 b1 (by rw[ho];exact hc) with e | e
 ·exact Or.inl (a2 _ e)
 ·exact Or.inr (b2 _ e)
def Sys.graph (S:Sys):bD:=⟨fun i=>(S.C i).fixed,fun i=>(S.C i).deps⟩
theorem wC {A A':Nat→Nat→Bool} {P:Nat→Prop} (hs:∀x,P x→∀y,A x y=A' x y) (hc:∀x y,P x→A x y=true→P y) {x y:Nat} (h:cE A x y):P x→cE A' x y:=by
 induction h using cE.ind with
 | refl x=>exact fun _=> .refl x
 | step a h ih=>exact fun hx=> .step (by rw[←hs _ hx];exact a) (ih (hc _ _ hx a))
theorem qR {g g':bD} {P:Nat→Prop} (h32:∀x,P x→x<32) (hs:∀x,P x→∀y,g.adj x y=g'.adj x y) (hc:∀x y,P x→g.adj x y=true→P y) {x:Nat} (hx:P x) (y:Nat):cG g x y=cG g' x y:=by
 rw[Bool.eq_iff_iff,cH g (h32 x hx),cH g' (h32 x hx)]
 exact⟨fun h=>wC hs hc h hx,fun h=>wC (fun x hx y=>(hs x hx y).symm) (fun x y hx a=>hc x y hx (by rw[hs x hx];exact a)) h hx⟩
theorem gK.sorted {S:Sys} (h:gK S) {n:Nat} (hn:n<6) (hS:iI (S.B n)):j1 (cG S.graph) (S.B n).did:=by
 refine hS.sorted.later fun x hx y _=>?_
 refine qR (P:=fun x=>x∈(S.B n).did) hS.sorted.lt (fun x hx y=>?_) (fun x y hx a=>?_) hx y
 ·have hx32:=hS.sorted.lt x hx
  have h3:=(j5 (h.good n hn) hx32).1 hx
  obtain⟨e1,e2⟩:=h.ent2 n hn x hx32 (by rw[h3];decide)
  have k:(S.B n).graph.known x=S.graph.known x:=by
   show decide (2≤((S.B n).ent x).state)=(S.C x).fixed
   rw[h3,e1];rfl
  have d:(S.B n).graph.deps x=S.graph.deps x:=e2
  unfold bD.adj
  rw[k,d]
 ·exact hS.sorted.closed x hx y (bD.adj_lt _ x y a) ((cH _ (hS.sorted.lt x hx) y).2 (.one a))
theorem MW {pre post:List Nat} {x y:Nat}:y∈pre↔(pre++x::post).idxOf y<pre.length:=by
 rw[List.idxOf_append]
 split
 ·rename_i h
  exact⟨fun _=>List.idxOf_lt_length_of_mem h,fun _=>h⟩
 ·rename_i h
  exact⟨fun k=>absurd k h,fun k=>by omega⟩
theorem NN {pre post:List Nat} {x:Nat} (h:x ∉ pre):(pre++x::post).idxOf x=pre.length:=by
 rw[List.idxOf_append,if_neg h]
 simp
theorem B0 {L:List Nat} (hd:L.Nodup) {x:Nat} (hx:x∈L):∃pre post,L=pre++x::post∧x ∉ pre:=by
 obtain⟨pre,post,e⟩:=List.append_of_mem hx
 refine⟨pre,post,e,fun hp=>?_⟩
 rw[e,List.nodup_append] at hd
 exact hd.2.2 x hp x (by simp) rfl
theorem j1.place {H:Nat→Nat→Bool} {L:List Nat} (h:j1 H L) {x y:Nat} (hx:x∈L) (hy:y<32) (hxy:x≠y) (hH:H x y=true):L.idxOf y<L.idxOf x↔(H y x=false∨y<x):=by
 obtain⟨pre,post,e,hn⟩:=B0 h.nodup hx
 have e1:L.idxOf x=pre.length:=by rw[e];exact NN hn
 have e2:y∈pre↔L.idxOf y<L.idxOf x:=by rw[e1,e];exact MW
 rw[←e2]
 cases hb:H y x
 ·exact⟨fun _=>Or.inl rfl,fun _=>h.behind pre x post e y hy hH hb⟩
 ·rw[h.ring pre x post e y hy hH hb (fun e=>hxy e.symm)]
  exact⟨fun k=>Or.inr k,fun k=>k.resolve_left (by simp)⟩
theorem ID {L:List Nat} {x y:Nat} (hx:x∈L) (hy:y∈L) (hxy:x≠y):L.idxOf x≠L.idxOf y:=by
 intro e
 have h1:=List.getElem_idxOf (List.idxOf_lt_length_of_mem hx)
 have h2:=List.getElem_idxOf (List.idxOf_lt_length_of_mem hy)
 apply hxy
 rw[←h1,←h2]
 congr 1
theorem j1.alike {H:Nat→Nat→Bool} {L L':List Nat} (h:j1 H L) (h':j1 H L') {x y:Nat} (hx:x∈L) (hy:y∈L) (hx':x∈L') (hy':y∈L') (hxy:x≠y) (hH:H x y=true∨H y x=true):L.idxOf y<L.idxOf x↔L'.idxOf y<L'.idxOf x:=by
 rcases hH with e | e
 ·rw[h.place hx (h.lt y hy) hxy e,h'.place hx' (h.lt y hy) hxy e]
 ·have a:=h.place hy (h.lt x hx) (Ne.symm hxy) e
  have b:=h'.place hy' (h.lt x hx) (Ne.symm hxy) e
  have n1:=ID hx hy hxy
  have n2:=ID hx' hy' hxy
  have:L.idxOf x<L.idxOf y↔L'.idxOf x<L'.idxOf y:=by rw[a,b]
  omega
theorem A9 {g:bD} {x y:Nat} (hx:x<32) (hy:y<32) (hk:g.known x=true) (hd:(y:Int)∈g.deps x):cG g x y=true:=by
 rw[cH g hx]
 refine .one ?_
 unfold bD.adj
 simp[hx,hy,hk,hd]
theorem gK.hang {S:Sys} (h:gK S) {x y sh:Nat} (hx:x<32) (hy:y<32) (hxy:x≠y) (fx:(S.C x).fixed=true) (fy:(S.C y).fixed=true) (hs:sh<2) (hc:dM (S.C x).ops (S.C y).ops (sh:Int)=true):cG S.graph x y=true∨cG S.graph y x=true:=by
 rcases h.ahead hx hy hxy fx fy hs hc with e | e
 ·exact Or.inl (A9 hx hy fx e)
 ·exact Or.inr (A9 hy hx fy e)
theorem gK.did_fixed {S:Sys} (h:gK S) {n:Nat} (hn:n<6) {x:Nat} (hx:x<32) (hd:x∈(S.B n).did):(S.C x).fixed=true:=
 (h.ent2 n hn x hx (by rw[(j5 (h.good n hn) hx).1 hd];decide)).1
def after (sh:Int) (ops:Nat→List OpL):List Nat→(Nat→Int)→(Nat→Int)
 | [],v=>v
 | x::l,v=>after sh ops l (cD sh 0 (ops x) v).1
theorem sC (sh:Int) (ops:Nat→List OpL):∀(l m:List Nat) (v:Nat→Int),after sh ops (l++m) v=after sh ops m (after sh ops l v)
 | [],_,_=>rfl
 | x::l,m,v=>sC sh ops l m (cD sh 0 (ops x) v).1
theorem lX (sh:Int) {ops ops':Nat→List OpL}:∀(l:List Nat) (v:Nat→Int),(∀x∈l,ops x=ops' x)→after sh ops l v=after sh ops' l v
 | [],_,_=>rfl
 | x::l,v,h=>by
  show after sh ops l (cD sh 0 (ops x) v).1=after sh ops' l (cD sh 0 (ops' x) v).1
  rw[h x (by simp),lX sh l _ fun y hy=>h y (by simp[hy])]
structure j4 (sh:Int) (s:aA):Prop where
 all:s.vals=after sh (fun x=>(s.ent x).ops) s.did fun _=>0
 each:∀pre x post,s.did=pre++x::post→(s.ent x).ats=(cD sh 0 (s.ent x).ops (after sh (fun x=>(s.ent x).ops) pre fun _=>0)).2.1∧(s.ent x).vals=(cD sh 0 (s.ent x).ops (after sh (fun x=>(s.ent x).ops) pre fun _=>0)).2.2
theorem MA (sh:Int):j4 sh dU:=⟨rfl,by intro pre x post e;simp[dU,aA.did] at e⟩
theorem j4.same {sh:Int} {s t:aA} (V:j4 sh s) (hd:t.did=s.did) (hv:t.vals=s.vals) (he:∀x∈s.did,t.ent x=s.ent x):j4 sh t:=by
 refine⟨?_,fun pre x post e=>?_⟩
 ·rw[hv,hd,V.all]
  exact lX sh _ _ fun x hx=>by rw[he x hx]
 ·rw[hd] at e
  have hx:x∈s.did:=by rw[e];simp
  rw[he x hx]
  have:after sh (fun x=>(t.ent x).ops) pre (fun _=>0)=after sh (fun x=>(s.ent x).ops) pre (fun _=>0):=lX sh _ _ fun y hy=>by rw[he y (by rw[e];simp[hy])]
  rw[this]
  exact V.each pre x post e
theorem L8 {sh:Int} {s:aA} (h:bT s) (V:j4 sh s) {n:Nat} (hn:n<32) (hs:(s.ent n).state=2):j4 sh (s.exec sh n):=by
 have ops:(fun x=>((s.exec sh n).ent x).ops)=fun x=>(s.ent x).ops:=by
  funext x
  exact congrArg Prod.fst (yN s sh hs x)
 have did:(s.exec sh n).did=s.did++[n]:=by unfold aA.did aA.exec;simp
 have no:n ∉ s.did:=fun e=>by
  have:=(j5 h hn).1 e
  omega
 have same:(s.exec sh n).ent n=⟨3,(s.ent n).ops,(s.ent n).first,(s.ent n).deps,(cD sh 0 (s.ent n).ops s.vals).2.1,(cD sh 0 (s.ent n).ops s.vals).2.2⟩:=aR _ _ _
 refine⟨?_,fun pre x post e=>?_⟩
 ·rw[ops,did,sC]
  show (cD sh 0 (s.ent n).ops s.vals).1=(cD sh 0 (s.ent n).ops (after sh (fun x=>(s.ent x).ops) s.did fun _=>0)).1
  rw[←V.all]
 ·rw[ops]
  rw[did] at e
  rw[List.append_eq_append_iff] at e
  have last:∀p q,[n]=p++x::q→s.did++p=pre→((s.exec sh n).ent x).ats=(cD sh 0 ((s.exec sh n).ent x).ops (after sh (fun x=>(s.ent x).ops) pre fun _=>0)).2.1∧((s.exec sh n).ent x).vals=(cD sh 0 ((s.exec sh n).ent x).ops (after sh (fun x=>(s.ent x).ops) pre fun _=>0)).2.2:=by
   intro p q e1 e2
   cases p with
   | nil=>
    simp at e1 e2
    obtain⟨rfl,_⟩:=e1
    rw[same,←e2,←V.all]
    exact⟨rfl,rfl⟩
   | cons a p=>simp at e1
  rcases e with ⟨qs,e1,e2⟩ | ⟨bs,e1,e2⟩
  ·exact last qs post e2 e1.symm
  ·cases bs with
   | nil=>exact last [] post (by simpa using e2.symm) (by simpa using e1)
   | cons b bs=>
    simp only[List.cons_append,List.cons.injEq] at e2
    obtain⟨rfl,_⟩:=e2
    have hx:x∈s.did:=by rw[e1];simp
    have:(s.exec sh n).ent x=s.ent x:=aM _ _ (fun e=>no (e ▸ hx))
    rw[this]
    exact V.each pre x bs e1
theorem zL (sh:Int):∀(l:List Nat) {s:aA},(∀x∈l,x<32)→bT s→j4 sh s→j4 sh (s.execs sh l)
 | [],_,_,_,V=>V
 | a::l,s,hl,h,V=>by
  have h1:bT (aA.execIf sh s a)∧j4 sh (aA.execIf sh s a):=by
   unfold aA.execIf
   split
   ·rename_i e;exact⟨yR h sh (hl a (by simp)) e,L8 h V (hl a (by simp)) e⟩
   ·exact⟨h,V⟩
  exact zL (s:=aA.execIf sh s a) sh l (fun x hx=>hl x (by simp[hx])) h1.1 h1.2
theorem GJ {sh:Int} {s:aA} (h:bT s) (V:j4 sh s):j4 sh (s.settle sh):=by
 have:∀(l:List Nat) (t:aA),bT t→j4 sh t→j4 sh (l.foldl (aA.round s.graph sh) t):=by
  intro l
  induction l with
  | nil=>exact fun t _ ht=>ht
  | cons a l ih=>
   intro t ht hv
   have h1:bT (aA.round s.graph sh t a)∧j4 sh (aA.round s.graph sh t a):=by
    unfold aA.round
    split
    ·exact⟨lR (s:=t) sh _ (kU _ _) ht,zL (s:=t) sh _ (kU _ _) ht hv⟩
    ·exact⟨ht,hv⟩
   exact ih _ h1.1 h1.2
 exact this _ s h V
theorem L9 {s:aA} {who:Int} {f:aC} (V:j4 (ofL who) s):j4 (ofL who) (aO s who f).1:=by
 rcases dE s who f with ⟨_,h1,_⟩ | ⟨hg,hf,_,_,_,_,⟨hk,_,e⟩ | ⟨hk,e⟩⟩
 ·rw[h1];exact V
 ·rw[e]
  obtain⟨i1,i2,_⟩:=kD hf
  show j4 _ (s.asked (ofL who) f)
  unfold aA.asked
  split
  ·rename_i h0
   refine V.same rfl rfl fun x hx=>fE s _ f fun e=>?_
   subst e
   have:=(j5 hg (by omega)).1 hx
   omega
  ·exact V
 ·rw[e]
  obtain⟨i1,i2,_⟩:=kD hf
  show j4 _ (s.commit (ofL who) f)
  unfold aA.commit
  split
  ·rename_i h0
   refine GJ (lY hg _ hf hk h0) (V.same rfl rfl fun x hx=>aM _ _ fun e=>?_)
   subst e
   have:=(j5 hg (by omega)).1 hx
   omega
  ·exact V
def kK (a:Int):Prop:= -1099511627776≤a∧a≤1099511627776
theorem IN {a:Int} (h:kK a):near a=a:=by
 unfold near
 rw[if_neg (by have:=h.1;omega),if_neg (by have:=h.2;omega)]
theorem yL (v kind n:Int):kK (doL v kind n):=by
 unfold doL
 split
 ·exact⟨tN _,tM _⟩
 ·split<;>exact⟨tN _,tM _⟩
theorem MR {v:Int} (h:kK v) (n:Int):doL v 1 n=v:=by
 unfold doL
 rw[if_neg (by decide),if_neg (by decide),IN h]
def mW (k:Nat):List OpL→Int→Int
 | [],a=>a
 | o::r,a=>mW k r (if o.2.1.toNat=k then doL a o.1 o.2.2 else a)
def kZ (k:Nat) (ops:List OpL):Bool:=ops.any fun o=>o.2.1.toNat == k && o.1 !=1
theorem rS (k:Nat):∀(ops:List OpL) (a:Int),kK a→kK (mW k ops a)
 | [],_,h=>h
 | o::r,a,h=>by
  refine rS k r _ ?_
  split
  ·exact yL _ _ _
  ·exact h
theorem sQ (k:Nat):∀(ops:List OpL) (a:Int),kZ k ops=false→kK a→mW k ops a=a
 | [],_,_,_=>rfl
 | o::r,a,h,ha=>by
  unfold kZ at h
  rw[List.any_cons,Bool.or_eq_false_iff] at h
  have h2:kZ k r=false:=h.2
  show mW k r (if o.2.1.toNat=k then doL a o.1 o.2.2 else a)=a
  have e:(if o.2.1.toNat=k then doL a o.1 o.2.2 else a)=a:=by
   split
   ·rename_i hk
    have:o.1=1:=by
     have h1:=h.1
     rw[hk] at h1
     simpa using h1
    rw[this]
    exact MR ha _
   ·rfl
  rw[e]
  exact sQ k r a h2 ha
theorem rE (sh:Int) (k:Nat) (hk:(k:Int) % 2=sh):∀(ops:List OpL) (i:Nat) (v:Nat→Int),(∀o∈ops,0≤o.2.1)→(cD sh i ops v).1 k=mW k ops (v k)
 | [],_,_,_=>rfl
 | o::r,i,v,h=>by
  have h0:=h o (by simp)
  have hr:∀p∈r,0≤p.2.1:=fun p hp=>h p (by simp[hp])
  show _=mW k r (if o.2.1.toNat=k then doL (v k) o.1 o.2.2 else v k)
  unfold cD
  split
  ·rw[rE sh k hk r (i+1) _ hr]
   congr 1
   by_cases e:o.2.1.toNat=k
   ·rw[if_pos e,←e,aR]
   ·rw[if_neg e,aM _ _ (fun h=>e h.symm)]
  ·rename_i hs
   rw[rE sh k hk r (i+1) _ hr]
   congr 1
   rw[if_neg]
   intro e
   apply hs
   have:o.2.1=(k:Int):=by omega
   rw[this,hk]
   simp
def oJ (k:Nat) (ops:Nat→List OpL):List Nat→Int→Int
 | [],a=>a
 | x::l,a=>oJ k ops l (mW k (ops x) a)
theorem lT (k:Nat) (ops:Nat→List OpL):∀(l:List Nat) (a:Int),kK a→oJ k ops l a=oJ k ops (l.filter fun x=>kZ k (ops x)) a
 | [],_,_=>rfl
 | x::l,a,h=>by
  show oJ k ops l (mW k (ops x) a)=_
  cases hw:kZ k (ops x)
  ·rw[List.filter_cons_of_neg (by simp[hw]),sQ k _ a hw h]
   exact lT k ops l a h
  ·rw[List.filter_cons_of_pos (p:=fun x=>kZ k (ops x)) hw]
   exact lT k ops l _ (rS k _ a h)
theorem sD (sh:Int) (k:Nat) (hk:(k:Int) % 2=sh) (ops:Nat→List OpL):∀(l:List Nat) (v:Nat→Int),(∀x∈l,∀o∈ops x,0≤o.2.1)→after sh ops l v k=oJ k ops l (v k)
 | [],_,_=>rfl
 | x::l,v,h=>by
  show after sh ops l (cD sh 0 (ops x) v).1 k=oJ k ops l (mW k (ops x) (v k))
  rw[sD sh k hk ops l _ (fun y hy=>h y (by simp[hy])),rE sh k hk _ 0 v (h x (by simp))]
theorem gZ {a y:Nat} {l:List Nat} (h:y≠a):(a::l).idxOf y=l.idxOf y+1:=by
 rw[List.idxOf_cons]
 have:(a == y)=false:=by simpa using fun e=>h e.symm
 rw[this]
 rfl
theorem nC (a:Nat) (l:List Nat):(a::l).idxOf a=0:=by simp
theorem zD:∀{l m:List Nat},l.Nodup→m.Nodup→(∀x,x∈l↔x∈m)→(∀x∈l,∀y∈l,x≠y→(l.idxOf y<l.idxOf x↔m.idxOf y<m.idxOf x))→l=m
 | [],[],_,_,_,_=>rfl
 | [],b::m,_,_,h,_=>by have:=(h b).2 (by simp);simp at this
 | a::l,[],_,_,h,_=>by have:=(h a).1 (by simp);simp at this
 | a::l,b::m,h1,h2,h,ho=>by
  have hab:a=b:=by
   cases Classical.em (a=b) with
   | inl e=>exact e
   | inr e=>
    have hb:b∈a::l:=(h b).2 (by simp)
    have:=(ho b hb a (by simp) (fun k=>e k.symm)).1 (by rw[nC,gZ (fun k=>e k.symm)];omega)
    rw[nC] at this
    omega
  subst hab
  rw[List.nodup_cons] at h1 h2
  have na:∀x∈l,x≠a:=fun x hx e=>h1.1 (e ▸ hx)
  have:l=m:=by
   refine zD h1.2 h2.2 (fun x=>?_) (fun x hx y hy hxy=>?_)
   ·constructor
    ·intro hx
     have:=(h x).1 (by simp[hx])
     rcases List.mem_cons.1 this with e | e
     ·exact absurd e (na x hx)
     ·exact e
    ·intro hx
     have:=(h x).2 (by simp[hx])
     rcases List.mem_cons.1 this with e | e
     ·exact absurd (e ▸ hx) h2.1
     ·exact e
   ·have:=ho x (by simp[hx]) y (by simp[hy]) hxy
    rw[gZ (na x hx),gZ (na y hy),gZ (na x hx),gZ (na y hy)] at this
    omega
  rw[this]
theorem oD {p:Nat→Bool}:∀{l:List Nat} {x y:Nat},x∈l.filter p→y∈l.filter p→((l.filter p).idxOf y<(l.filter p).idxOf x↔l.idxOf y<l.idxOf x)
 | [],x,y,hx,_=>by simp at hx
 | a::l,x,y,hx,hy=>by
  cases hp:p a
  ·rw[List.filter_cons_of_neg (by simp[hp])] at hx hy ⊢
   have nx:x≠a:=fun e=>by
    have:=(List.mem_filter.1 hx).2
    rw[e,hp] at this;cases this
   have ny:y≠a:=fun e=>by
    have:=(List.mem_filter.1 hy).2
    rw[e,hp] at this;cases this
   rw[oD hx hy,gZ nx,gZ ny]
   omega
  ·rw[List.filter_cons_of_pos hp] at hx hy ⊢
   by_cases ex:x=a
   ·subst ex
    rw[nC,nC]
    omega
   ·by_cases ey:y=a
    ·subst ey
     rw[nC,nC,gZ ex,gZ ex]
     omega
    ·rw[gZ ex,gZ ey,gZ ex,gZ ey]
     have:=oD (p:=p) (l:=l) (x:=x) (y:=y) ((List.mem_cons.1 hx).resolve_left ex) ((List.mem_cons.1 hy).resolve_left ey)
     omega
theorem K9 {a b:List OpL} {o:OpL} (ho:o∈a) (h0:0≤o.2.1) (hb:∀p∈b,0≤p.2.1) (hw:kZ o.2.1.toNat b=true):dM a b (o.2.1 % 2)=true:=by
 unfold kZ at hw
 obtain⟨p,hp,h⟩:=List.any_eq_true.1 hw
 simp at h
 have:=hb p hp
 refine (mS _ _ _).2 ⟨o,ho,p,hp,rfl,?_⟩
 have e:o.2.1=p.2.1:=by omega
 unfold nQ
 simp[e,h.2]
theorem JX {k:Nat} {b:List OpL} (hw:kZ k b=true):∃p∈b,p.2.1.toNat=k:=by
 unfold kZ at hw
 obtain⟨p,hp,h⟩:=List.any_eq_true.1 hw
 simp at h
 exact⟨p,hp,h.1⟩
theorem I6 {g:bD} {n:Nat} (hn:n<32):jB g (n:Int)=true↔∀d,d<32→cG g n d=true→g.known d=true:=by
 unfold jB
 have:jF (n:Int)=true:=by unfold jF;simp;omega
 rw[this,Bool.true_and]
 exact wE
theorem CY {g:bD} {n:Nat} (hn:n<32):eE g (n:Int)=if jB g (n:Int)=true then dV (cG g) (cG g n) 32 else []:=by
 cases hr:jB g (n:Int)
 ·rw[if_neg (by simp)]
  unfold eE
  rw[hr]
  rfl
 ·rw[if_pos rfl,←wJ g hn]
  unfold eE
  rw[hr]
  rfl
structure gG (S:Sys) (a b:Nat):Prop where
 fixed:∀d,d<32→cG S.graph b d=true→(S.C d).fixed=true∧d≠a
 begun:(S.C a).begun=true
 first:∀n,n<6→(S.C b).told n=true→1≤((S.B n).ent a).state→dM (S.C a).ops (S.C b).ops (ofL n)=true→(b:Int)∈((S.B n).ent a).first
theorem gG.self {S:Sys} {a b:Nat} (hb:b<32) (h:gG S a b):(S.C b).fixed=true∧b≠a:=h.fixed b hb ((cH _ hb b).2 (.refl b))
theorem gG.new {S:Sys} {a b:Nat} (hI:gK S) (ha:a<32) (hz:(S.C a).begun=false) {m:Nat} (hm:m<6) (sm:iI (S.B m)) (hd:b∈(S.B m).did) (c:aF) (hc:c.begun=true) (N:aC→Prop):
  gG ⟨S.B,upd S.C a c,N⟩ a b:=by
 have hD:=hI.sorted hm sm
 have hb:=hD.lt b hd
 have na:∀d,d<32→(S.C d).fixed=true→d≠a:=fun d hd32 hf e=>by
  subst e
  rw[(hI.most d hd32 hf).1] at hz;cases hz
 have fixedD:∀d∈(S.B m).did,(S.C d).fixed=true:=fun d hdd=>hI.did_fixed hm (hD.lt d hdd) hdd
 have same:∀d,cG S.graph b d=cG (Sys.graph ⟨S.B,upd S.C a c,N⟩) b d:=by
  intro d
  refine qR (P:=fun x=>x∈(S.B m).did) hD.lt (fun x hx y=>?_) (fun x y hx e=>hD.closed x hx y (bD.adj_lt _ x y e) ((cH _ (hD.lt x hx) y).2 (.one e))) hd d
  have hne:=na x (hD.lt x hx) (fixedD x hx)
  have e:upd S.C a c x=S.C x:=aM _ _ hne
  unfold bD.adj Sys.graph
  simp only[e]
 refine⟨fun d hd32 hbd=>?_,by show (upd S.C a c a).begun=true;rw[aR];exact hc,fun n hn _ h1 _=>?_⟩
 ·rw[←same] at hbd
  have hdd:=hD.closed b hd d hd32 hbd
  have hne:=na d hd32 (fixedD d hdd)
  refine⟨?_,hne⟩
  show (upd S.C a c d).fixed=true
  rw[aM _ _ hne]
  exact fixedD d hdd
 ·exfalso
  have:=(hI.ent1 n hn a ha h1).1
  rw[hz] at this;cases this
theorem gG.later {S T:Sys} {a b:Nat} (hI:gK S) (ha:a<32) (hb:b<32) (h:gG S a b)
  (hf:∀d,d<32→(S.C d).fixed=true→(T.C d).fixed=true∧(T.C d).deps=(S.C d).deps∧(T.C d).told=(S.C d).told)
  (hbg:∀d,d<32→(S.C d).begun=true→(T.C d).begun=true∧(T.C d).ops=(S.C d).ops)
  (hB:∀n,n<6→1≤((S.B n).ent a).state→((T.B n).ent a).first=((S.B n).ent a).first)
  (hN:∀n,n<6→((S.B n).ent a).state<1→1≤((T.B n).ent a).state→1≤((S.B n).ent b).state→dM (S.C b).ops (S.C a).ops (ofL n)=true→(b:Int)∈((T.B n).ent a).first):gG T a b:=by
 obtain⟨fb,hne⟩:=h.self hb
 have same:∀d,cG S.graph b d=cG T.graph b d:=by
  intro d
  refine qR (P:=fun x=>x<32∧cG S.graph b x=true) (fun x hx=>hx.1) (fun x hx y=>?_) (fun x y hx e=>?_) ⟨hb,(cH _ hb b).2 (.refl b)⟩ d
  ·obtain⟨fx,_⟩:=h.fixed x hx.1 hx.2
   obtain⟨e1,e2,_⟩:=hf x hx.1 fx
   unfold bD.adj Sys.graph
   simp only[fx,e1,e2]
  ·have hy:=bD.adj_lt _ x y e
   exact⟨hy,(cH _ hb y).2 (((cH _ hb x).1 hx.2).trans (.one e))⟩
 have opsa:=(hbg a ha h.begun)
 have opsb:=(hbg b hb (hI.most b hb fb).1)
 refine⟨fun d hd hbd=>?_,opsa.1,fun n hn ht h1 hc=>?_⟩
 ·rw[←same] at hbd
  obtain⟨fd,hda⟩:=h.fixed d hd hbd
  exact⟨(hf d hd fd).1,hda⟩
 ·rw[(hf b hb fb).2.2] at ht
  rw[opsa.2,opsb.2] at hc
  by_cases h0:1≤((S.B n).ent a).state
  ·rw[hB n hn h0]
   exact h.first n hn ht h0 hc
  ·exact hN n hn (by omega) h1 (hI.told b hb n hn ht).1 (by rw[rN];exact hc)
theorem yM (sh:Int):∀(l:List (Int × Int)) (c:aF) (k:Nat),(c.dones sh l).has k=true→c.has k=true∨∃p∈l,p.1.toNat=k∧(c.dones sh l).vals k=p.2
 | [],_,_,h=>Or.inl h
 | p::l,c,k,h=>by
  have e:c.dones sh (p::l)=(aF.done1 sh c p).dones sh l:=rfl
  rw[e] at h ⊢
  rcases yM sh l (aF.done1 sh c p) k h with h1 | ⟨q,hq,h1,h2⟩
  ·by_cases hc:c.has k=true
   ·exact Or.inl hc
   ·right
    refine⟨p,by simp,?_⟩
    have kv:=((nP sh l (aF.done1 sh c p)).2 k h1).2
    rw[kv]
    unfold aF.done1 at h1 ⊢
    split at h1
    ·rename_i hp
     rw[if_pos hp]
     have h1:upd c.has p.1.toNat true k=true:=h1
     by_cases ek:k=p.1.toNat
     ·refine⟨ek.symm,?_⟩
      show upd c.vals p.1.toNat p.2 k=p.2
      rw[ek,aR]
     ·rw[aM _ _ ek] at h1
      exact absurd h1 hc
    ·exact absurd h1 hc
  ·exact Or.inr ⟨q,by simp[hq],h1,h2⟩
theorem AK:∀(l:Int) (n:Nat) (zs:List Int),dQ l n zs=true→∀z∈zs,l<z
 | _,_,[],_=>by simp
 | l,n,k::r,h=>by
  unfold dQ at h
  simp only[Bool.and_eq_true,decide_eq_true_iff] at h
  intro z hz
  rcases List.mem_cons.1 hz with e | e
  ·rw[e];exact h.1.1
  ·have:=AK k n r h.2 z e
   omega
theorem JI {c:aF} {id:Int} {f:aC} {k:Nat} (h:(aN c id f).1.has k=true):c.has k=true∨(f.kind=5∧∃p∈f.ats.zip f.vals,p.1.toNat=k∧(aN c id f).1.vals k=p.2):=by
 unfold aN at *
 split
 ·rename_i h1;rw[if_pos h1] at h;exact Or.inl h
 ·rename_i h1
  rw[if_neg h1] at h
  split
  ·rename_i h2;rw[if_pos h2] at h;exact Or.inl h
  ·rename_i h2
   rw[if_neg h2] at h
   split
   ·rename_i h3;rw[if_pos h3] at h;exact Or.inl h
   ·rename_i h3
    rw[if_neg h3] at h
    split
    ·rename_i h4
     rw[if_pos h4] at h
     split at h<;>exact Or.inl h
    ·rename_i h4
     rw[if_neg h4] at h
     split
     ·rename_i h5;rw[if_pos h5] at h;exact Or.inl h
     ·rename_i h5
      rw[if_neg h5] at h
      split
      ·rename_i h6;rw[if_pos h6] at h;exact Or.inl h
      ·rename_i h6
       rw[if_neg h6] at h
       have hk:f.kind=5:=by
        have hg:aP f=0:=by
         by_cases e:aP f=0
         ·exact e
         ·exact absurd e h2
        unfold aP at hg
        split at hg
        ·exact absurd hg (by decide)
        ·rename_i hk
         omega
       rcases yM (ofL f.node) _ c k h with e | e
       ·exact Or.inl e
       ·exact Or.inr ⟨hk,e⟩
structure fB (S:Sys):Prop where
 s:gK S
 sort:∀n,n<6→iI (S.B n)
 val:∀n:Nat,n<6→j4 (ofL (n:Int)) (S.B n)
 state:∀n,n<6→∀j,0≤((S.B n).ent j).state
 case:∀i,i<32→(S.C i).begun=true→oL (S.C i).ops (S.C i)
 zero:∀i,i<32→(S.C i).begun=false→S.C i=cF
 has:∀i,i<32→∀k,(S.C i).has k=true→∃m,m<6∧((S.B m).ent i).state=3∧((k:Int),(S.C i).vals k)∈((S.B m).ent i).ats.zip ((S.B m).ent i).vals
theorem fB.start:fB ⟨fun _=>dU,fun _=>cF,fun _=>False⟩:=
 ⟨gK.zero,fun _ _=>JG,fun _ _=>MA _,fun _ _ _=>Int.le_refl _,fun i _ h=>(by cases h),fun _ _ _=>rfl,fun i _ k h=>(by cases h)⟩
theorem fB.node {S:Sys} (h:fB S) {f:aC} (hM:S.M f) (hk:f.kind=1∨f.kind=3) (h0:(aO (S.B f.node.toNat) f.node f).2.2=0):
  fB ⟨upd S.B f.node.toNat (aO (S.B f.node.toNat) f.node f).1,S.C,fun g=>S.M g∨g∈(aO (S.B f.node.toNat) f.node f).2.1⟩:=by
 obtain⟨hr1,hr2⟩:=h.s.rng f hM
 have hn6:f.node.toNat<6:=by omega
 have hnat:(f.node.toNat:Int)=f.node:=by omega
 have K:=m6 (S.B f.node.toNat) f.node f (h.state _ hn6)
 refine⟨h.s.node hM hk h0,fun n hn=>?_,fun n hn=>?_,fun n hn j=>?_,h.case,h.zero,fun i hi k hh=>?_⟩
 ·show iI (upd S.B f.node.toNat _ n)
  by_cases e:n=f.node.toNat
  ·rw[e,aR];exact JM (h.sort _ hn6)
  ·rw[aM _ _ e];exact h.sort n hn
 ·show j4 (ofL (n:Int)) (upd S.B f.node.toNat _ n)
  by_cases e:n=f.node.toNat
  ·rw[e,aR,hnat]
   have:=h.val _ hn6
   rw[hnat] at this
   exact L9 this
  ·rw[aM _ _ e];exact h.val n hn
 ·show 0≤((upd S.B f.node.toNat _ n).ent j).state
  by_cases e:n=f.node.toNat
  ·rw[e,aR]
   exact Int.le_trans (h.state _ hn6 j) (K.state j)
  ·rw[aM _ _ e];exact h.state n hn j
 ·obtain⟨m,hm,h3,hz⟩:=h.has i hi k hh
  refine⟨m,hm,?_⟩
  show ((upd S.B f.node.toNat (aO (S.B f.node.toNat) f.node f).1 m).ent i).state=3∧_∈((upd S.B f.node.toNat (aO (S.B f.node.toNat) f.node f).1 m).ent i).ats.zip ((upd S.B f.node.toNat (aO (S.B f.node.toNat) f.node f).1 m).ent i).vals
  by_cases e:m=f.node.toNat
  ·subst e
   rw[aR]
   have same:=K.done i h3
   rw[same]
   exact⟨h3,hz⟩
  ·rw[aM _ _ e]
   exact⟨h3,hz⟩
theorem eY (C:Nat→aF) (i:Nat) (c:aF):∀j,(j=i∧upd C i c j=c)∨(j≠i∧upd C i c j=C j):=by
 intro j
 by_cases e:j=i
 ·exact Or.inl ⟨e,by rw[e,aR]⟩
 ·exact Or.inr ⟨e,aM _ _ e⟩
theorem fB.answer {S:Sys} (h:fB S) {f:aC} (hM:S.M f) (h0:(aN (S.C f.id.toNat) f.id f).2.2=0):
  fB ⟨S.B,upd S.C f.id.toNat (aN (S.C f.id.toNat) f.id f).1,fun g=>S.M g∨g∈(aN (S.C f.id.toNat) f.id f).2.1⟩:=by
 obtain⟨hr1,hr2⟩:=h.s.rng f hM
 have hi32:f.id.toNat<32:=by omega
 have hn6:f.node.toNat<6:=by omega
 obtain⟨hb,_⟩:=pT h0
 obtain⟨rs,kv⟩:=vE (id:=f.id) (f:=f) (h.case _ hi32 hb)
 refine⟨h.s.case hM h0,h.sort,h.val,h.state,fun i hi e=>?_,fun i hi e=>?_,fun i hi k hh=>?_⟩
 ·have e:(upd S.C f.id.toNat (aN (S.C f.id.toNat) f.id f).1 i).begun=true:=e
  show oL (upd S.C f.id.toNat (aN (S.C f.id.toNat) f.id f).1 i).ops (upd S.C f.id.toNat (aN (S.C f.id.toNat) f.id f).1 i)
  rcases eY S.C f.id.toNat (aN (S.C f.id.toNat) f.id f).1 i with ⟨_,e2⟩ | ⟨_,e2⟩
  ·rw[e2,rs.eops];exact rs
  ·rw[e2] at e ⊢;exact h.case i hi e
 ·have e:(upd S.C f.id.toNat (aN (S.C f.id.toNat) f.id f).1 i).begun=false:=e
  show upd S.C f.id.toNat (aN (S.C f.id.toNat) f.id f).1 i=cF
  rcases eY S.C f.id.toNat (aN (S.C f.id.toNat) f.id f).1 i with ⟨_,e2⟩ | ⟨_,e2⟩
  ·rw[e2,rs.begun] at e;cases e
  ·rw[e2] at e ⊢;exact h.zero i hi e
 ·have hh:(upd S.C f.id.toNat (aN (S.C f.id.toNat) f.id f).1 i).has k=true:=hh
  show ∃m,m<6∧((S.B m).ent i).state=3∧((k:Int),(upd S.C f.id.toNat (aN (S.C f.id.toNat) f.id f).1 i).vals k)∈((S.B m).ent i).ats.zip ((S.B m).ent i).vals
  rcases eY S.C f.id.toNat (aN (S.C f.id.toNat) f.id f).1 i with ⟨e1,e2⟩ | ⟨_,e2⟩
  ·rw[e2] at hh ⊢
   clear e2
   subst e1
   rename (aN (S.C f.id.toNat) f.id f).1.has k=true=>hh2
   rcases JI hh2 with e | ⟨hk,p,hp,h1,h2⟩
   ·rw[(kv k e).2]
    exact h.has _ hi32 k e
   ·obtain⟨d1,d2,d3⟩:=h.s.don f hM hk
    refine⟨f.node.toNat,hn6,d1,?_⟩
    rw[←d2,←d3,h2]
    have F:=(h.s.good _ hn6).fine hi32 (by rw[d1];decide)
    have hz:p.1∈f.ats:=(List.of_mem_zip (a:=p.1) (b:=p.2) hp).1
    rw[d2] at hz
    have:=AK _ _ _ F.ats _ hz
    have e:(k:Int)=p.1:=by omega
    rw[e]
    exact hp
  ·rw[e2] at hh ⊢;exact h.has i hi k hh
theorem fB.again {S:Sys} (h:fB S) {i:Nat} (hi:i<32):fB ⟨S.B,S.C,fun g=>S.M g∨g∈bU (S.C i) (i:Int)⟩:=
 ⟨h.s.again hi,h.sort,h.val,h.state,h.case,h.zero,h.has⟩
theorem fB.begin {S:Sys} (h:fB S) {i:Nat} (hi:i<32) (hb:(S.C i).begun=false) {ops:List OpL} (h0:(bK (i:Int) ops).2.2=0):
  fB ⟨S.B,upd S.C i (bK (i:Int) ops).1,fun g=>S.M g∨g∈(bK (i:Int) ops).2.1⟩:=by
 have rs:=y8 h0
 have hz:=h.zero i hi hb
 have e:bK (i:Int) ops=({ cF with begun:=true,ops:=ops },bU { cF with begun:=true,ops:=ops } (i:Int),0):=by
  unfold bK at *
  split at h0
  ·exact absurd h0 (show (2:Int)≠0 by decide)
  ·rename_i h1
   rw[if_neg h1]
   split at h0
   ·exact absurd h0 (show (1:Int)≠0 by decide)
   ·rename_i h2
    rw[if_neg h2]
 rw[e] at rs ⊢
 refine⟨h.s.begin hi hz ops,h.sort,h.val,h.state,fun j hj eb=>?_,fun j hj eb=>?_,fun j hj k hh=>?_⟩
 ·have eb:(upd S.C i { cF with begun:=true,ops:=ops } j).begun=true:=eb
  show oL (upd S.C i { cF with begun:=true,ops:=ops } j).ops (upd S.C i { cF with begun:=true,ops:=ops } j)
  rcases eY S.C i { cF with begun:=true,ops:=ops } j with ⟨_,e2⟩ | ⟨_,e2⟩
  ·rw[e2];exact rs
  ·rw[e2] at eb ⊢;exact h.case j hj eb
 ·have eb:(upd S.C i { cF with begun:=true,ops:=ops } j).begun=false:=eb
  show upd S.C i { cF with begun:=true,ops:=ops } j=cF
  rcases eY S.C i { cF with begun:=true,ops:=ops } j with ⟨_,e2⟩ | ⟨_,e2⟩
  ·rw[e2] at eb;cases eb
  ·rw[e2] at eb ⊢;exact h.zero j hj eb
 ·have hh:(upd S.C i { cF with begun:=true,ops:=ops } j).has k=true:=hh
  show ∃m,m<6∧((S.B m).ent j).state=3∧((k:Int),(upd S.C i { cF with begun:=true,ops:=ops } j).vals k)∈((S.B m).ent j).ats.zip ((S.B m).ent j).vals
  rcases eY S.C i { cF with begun:=true,ops:=ops } j with ⟨_,e2⟩ | ⟨_,e2⟩
  ·rw[e2] at hh;cases hh
  ·rw[e2] at hh ⊢;exact h.has j hj k hh
theorem sL {zs:List OpL} (h:bQ zs=true):∀o∈zs,0≤o.2.1∧o.2.1<8:=by
 intro o ho
 unfold bQ at h
 rw[Bool.and_eq_true] at h
 obtain⟨i,hi,e⟩:=List.getElem_of_mem ho
 have:=List.all_eq_true.1 h.2 i (List.mem_range.2 hi)
 unfold jO at this
 rw[Bool.and_eq_true] at this
 have g:=this.1
 rw[List.getD_eq_getElem?_getD,List.getElem?_eq_getElem hi,Option.getD_some,e] at g
 unfold fP at g
 have:=of_decide_eq_true g
 exact⟨this.1,this.2.1⟩
theorem fB.ops {S:Sys} (h:fB S) {i:Nat} (hi:i<32) (hb:(S.C i).begun=true):bQ (S.C i).ops=true:=by
 have g:=(h.case i hi hb).good
 rw[kI hb,Bool.and_eq_true] at g
 exact g.1
theorem fB.keys {S:Sys} (h:fB S):∀y,y<32→(S.C y).fixed=true→∀o∈(S.C y).ops,0≤o.2.1:=
 fun y hy fy o ho=>(sL (h.ops hy (h.s.most y hy fy).1) o ho).1
theorem fB.somewhere {S:Sys} (h:fB S) {x:Nat} (hx:x<32) (hb:(S.C x).begun=true) (hr:(cN (S.C x)).2=true):∃m,m<6∧x∈(S.B m).did:=by
 have hg:=h.ops hx hb
 have hp:0<(S.C x).ops.length:=by
  unfold bQ at hg
  simp at hg
  omega
 obtain⟨m,hm,h3,_⟩:=h.has x hx 0 ((N0 (h.case x hx hb) hr).1 0 hp)
 exact⟨m,hm,(j5 (h.s.good m hm) hx).2 h3⟩
theorem gG.node {S:Sys} (h:fB S) {a b:Nat} (ha:a<32) (hb:b<32) (L:gG S a b) {f:aC} (hM:S.M f) (hk:f.kind=1∨f.kind=3) (h0:(aO (S.B f.node.toNat) f.node f).2.2=0) (N:aC→Prop):
  gG ⟨upd S.B f.node.toNat (aO (S.B f.node.toNat) f.node f).1,S.C,N⟩ a b:=by
 obtain⟨hr1,hr2⟩:=h.s.rng f hM
 have hn6:f.node.toNat<6:=by omega
 have hnat:(f.node.toNat:Int)=f.node:=by omega
 have K:=m6 (S.B f.node.toNat) f.node f (h.state _ hn6)
 obtain⟨fb,hne⟩:=L.self hb
 refine L.later h.s ha hb (fun d _ hf=>⟨hf,rfl,rfl⟩) (fun d _ hf=>⟨hf,rfl⟩) (fun n hn h1=>?_) (fun n hn h1 h2 h3 hc=>?_)
 ·show ((upd S.B f.node.toNat _ n).ent a).first=_
  by_cases e:n=f.node.toNat
  ·rw[e] at h1 ⊢
   rw[aR]
   exact K.first a (by omega)
  ·rw[aM _ _ e]
 ·have h2:1≤((upd S.B f.node.toNat (aO (S.B f.node.toNat) f.node f).1 n).ent a).state:=h2
  show (b:Int)∈((upd S.B f.node.toNat (aO (S.B f.node.toNat) f.node f).1 n).ent a).first
  by_cases e:n=f.node.toNat
  ·rw[e] at h1 h2 h3 hc ⊢
   rw[aR] at h2 ⊢
   rw[hnat] at hc
   have ea:a=f.id.toNat:=by
    by_cases ea:a=f.id.toNat
    ·exact ea
    ·have:=congrArg (fun c=>c.2.2.2.1) (m5 (s:=S.B f.node.toNat) (who:=f.node) (f:=f) ea)
     have this:decide (1≤((aO (S.B f.node.toNat) f.node f).1.ent a).state)=decide (1≤((S.B f.node.toNat).ent a).state):=this
     rw[decide_eq_true h2,decide_eq_false (by omega)] at this
     cases this
   have hs0:=h.state _ hn6 a
   have first:((aO (S.B f.node.toNat) f.node f).1.ent a).first=(S.B f.node.toNat).ahead a f.ops (ofL f.node)∧f.ops=(S.C a).ops:=by
    rw[ea] at h1 hs0 ⊢
    rcases hk with hk | hk
    ·refine⟨?_,(h.s.ask f hM hk).2⟩
     rw[n9 h0 hk,if_pos (by omega)]
    ·refine⟨?_,(h.s.com f hM hk).2.1⟩
     have:=mC h0 hk
     rw[if_pos (by omega),if_pos (by omega)] at this
     exact congrArg (fun c=>c.2.1) this
   rw[first.1,first.2]
   exact pA.2 ⟨hb,hne,by omega,by rw[(h.s.ent1 _ hn6 b hb h3).2];exact hc⟩
  ·rw[aM _ _ e] at h2
   omega
theorem gG.setC {S:Sys} (h:fB S) {a b:Nat} (ha:a<32) (hb:b<32) (L:gG S a b) {i:Nat} (c:aF) (hf:(S.C i).fixed=true→c.fixed=true∧c.deps=(S.C i).deps∧c.told=(S.C i).told) (hg:(S.C i).begun=true→c.begun=true∧c.ops=(S.C i).ops) (N:aC→Prop):
  gG ⟨S.B,upd S.C i c,N⟩ a b:=by
 refine L.later h.s ha hb (fun d _ e=>?_) (fun d _ e=>?_) (fun n hn h1=>rfl) (fun n hn h1 h2 h3 hc=>absurd h2 (by show ¬ 1≤((S.B n).ent a).state;omega))
 ·show (upd S.C i c d).fixed=true∧(upd S.C i c d).deps=_∧(upd S.C i c d).told=_
  rcases eY S.C i c d with ⟨e1,e2⟩ | ⟨_,e2⟩
  ·rw[e2]
   subst e1
   exact hf e
  ·rw[e2]
   exact⟨e,rfl,rfl⟩
 ·show (upd S.C i c d).begun=true∧(upd S.C i c d).ops=_
  rcases eY S.C i c d with ⟨e1,e2⟩ | ⟨_,e2⟩
  ·rw[e2]
   subst e1
   exact hg e
  ·rw[e2]
   exact⟨e,rfl⟩
theorem gG.answer {S:Sys} (h:fB S) {a b:Nat} (ha:a<32) (hb:b<32) (L:gG S a b) (f:aC) (N:aC→Prop):gG ⟨S.B,upd S.C f.id.toNat (aN (S.C f.id.toNat) f.id f).1,N⟩ a b:=by
 refine L.setC h ha hb _ (fun e=>?_) (fun e=>?_) N
 ·rcases fF (S.C f.id.toNat) f.id f with ⟨_,h1,_⟩ | ⟨_,_,_,hf,_⟩ | ⟨_,_,_,hs,_⟩
  ·rw[h1];exact⟨e,rfl,rfl⟩
  ·rw[hf] at e;cases e
  ·exact⟨by rw[hs.fixed];exact e,hs.deps,hs.told⟩
 ·rcases fF (S.C f.id.toNat) f.id f with ⟨_,h1,_⟩ | ⟨_,_,_,_,_,_,he,_⟩ | ⟨_,_,_,hs,_⟩
  ·rw[h1];exact⟨e,rfl⟩
  ·rw[he];exact⟨e,rfl⟩
  ·exact⟨by rw[hs.begun];exact e,hs.ops⟩
theorem gG.begin {S:Sys} (h:fB S) {a b:Nat} (ha:a<32) (hb:b<32) (L:gG S a b) {i:Nat} (hi:i<32) (hz:(S.C i).begun=false) (c:aF) (N:aC→Prop):gG ⟨S.B,upd S.C i c,N⟩ a b:=
 L.setC h ha hb c (fun e=>by rw[(h.s.most i hi e).1] at hz;cases hz) (fun e=>by rw[e] at hz;cases hz) N
theorem gG.sent {S:Sys} {a b:Nat} (L:gG S a b) (N:aC→Prop):gG ⟨S.B,S.C,N⟩ a b:=⟨L.fixed,L.begun,L.first⟩
theorem fB.late {S:Sys} (h:fB S) {a b:Nat} (ha:a<32) (hb:b<32) (hz:(S.C a).begun=false) (hbb:(S.C b).begun=true) (hr:(cN (S.C b)).2=true) (c:aF) (hc:c.begun=true) (N:aC→Prop):gG ⟨S.B,upd S.C a c,N⟩ a b:=by
 obtain⟨m,hm,hd⟩:=h.somewhere hb hbb hr
 exact gG.new h.s ha hz hm (h.sort m hm) hd c hc N
def iJ (s:aA):Prop:=∀i,∀v∈(s.ent i).vals,kK v
theorem rI (sh:Int):∀(ops:List OpL) (i:Nat) (v:Nat→Int),∀w∈(cD sh i ops v).2.2,kK w
 | [],_,_,w,h=>by simp[cD] at h
 | o::r,i,v,w,h=>by
  unfold cD at h
  split at h
  ·rcases List.mem_cons.1 h with e | e
   ·rw[e];exact yL _ _ _
   ·exact rI sh r (i+1) _ w e
  ·exact rI sh r (i+1) _ w h
theorem JU:iJ dU:=by intro i v h;simp[dU,kJ] at h
theorem JT {s:aA} (h:iJ s) (sh:Int) (n:Nat):iJ (s.exec sh n):=by
 intro i v hv
 by_cases e:i=n
 ·subst e
  have:((s.exec sh i).ent i).vals=(cD sh 0 (s.ent i).ops s.vals).2.2:=congrArg cZ.vals (aR _ _ _)
  rw[this] at hv
  exact rI _ _ _ _ v hv
 ·have:(s.exec sh n).ent i=s.ent i:=aM _ _ e
  rw[this] at hv
  exact h i v hv
theorem wZ (sh:Int):∀(l:List Nat) {s:aA},iJ s→iJ (s.execs sh l)
 | [],_,h=>h
 | a::l,s,h=>by
  have h1:iJ (aA.execIf sh s a):=by
   unfold aA.execIf
   split
   ·exact JT h sh a
   ·exact h
  exact wZ (s:=aA.execIf sh s a) sh l h1
theorem DQ {s:aA} (h:iJ s) (sh:Int):iJ (s.settle sh):=by
 have:∀(l:List Nat) (t:aA),iJ t→iJ (l.foldl (aA.round s.graph sh) t):=by
  intro l
  induction l with
  | nil=>exact fun t ht=>ht
  | cons a l ih=>
   intro t ht
   refine ih _ ?_
   unfold aA.round
   split
   ·exact wZ (s:=t) sh _ ht
   ·exact ht
 exact this _ s h
theorem tH {s:aA} {who:Int} {f:aC} (h:iJ s):iJ (aO s who f).1:=by
 rcases dE s who f with ⟨_,h1,_⟩ | ⟨_,_,_,_,_,_,⟨_,_,e⟩ | ⟨_,e⟩⟩
 ·rw[h1];exact h
 ·rw[e]
  show iJ (s.asked (ofL who) f)
  unfold aA.asked
  split
  ·intro i v hv
   by_cases ei:i=f.id.toNat
   ·rw[ei,jQ] at hv
    simp at hv
   ·rw[fE s _ f ei] at hv
    exact h i v hv
  ·exact h
 ·rw[e]
  show iJ (s.commit (ofL who) f)
  unfold aA.commit
  split
  ·refine DQ (fun i v hv=>?_) _
   by_cases ei:i=f.id.toNat
   ·rw[ei,kW] at hv
    exact h _ v hv
   ·have:(s.placed (ofL who) f).ent i=s.ent i:=aM _ _ ei
    rw[this] at hv
    exact h i v hv
  ·exact h
theorem zJ:∀(xs vs:List Int) (l:Int) (n:Nat),n≤4→dQ l n xs=true→(∀v∈vs,kK v)→cL l xs vs=true
 | [],_,_,_,_,_,_=>by unfold cL;rfl
 | _::_,[],_,_,_,_,_=>by unfold cL;rfl
 | a::xs,v::vs,l,n,hn,ha,hv=>by
  unfold dQ at ha
  simp only[Bool.and_eq_true,decide_eq_true_iff] at ha
  unfold cL
  have hw:=hv v (by simp)
  rw[zJ xs vs a n hn ha.2 (fun w h=>hv w (by simp[h])),show decide (-1099511627776≤v∧v≤1099511627776)=true from decide_eq_true hw]
  have:(decide (a≤l) || decide (4≤a))=false:=by
   rw[Bool.or_eq_false_iff]
   exact⟨decide_eq_false (by omega),decide_eq_false (by omega)⟩
  rw[this]
  rfl
theorem H7 {zs:List OpL} (h:bQ zs=true):zs.length≤4:=(IS h).1
theorem m7 {s:aA} {who:Int} {f:aC} (hw:iJ s):∀g∈(aO s who f).2.1,aP g=0∧g.kind≠1∧g.kind≠3:=by
 intro g hg
 have hw':=tH (who:=who) (f:=f) hw
 have hgood:(aO s who f).2.2=0→bT (aO s who f).1:=zH
 rcases dE s who f with ⟨_,_,h1⟩ | ⟨_,hf,h0,hn,w0,w5,⟨_,_,e⟩ | ⟨_,e⟩⟩
 ·rw[h1] at hg;simp at hg
 ·have G:=hgood h0
  obtain⟨i1,i2,_⟩:=kD hf
  rw[e] at hg G
  have hg:g∈[(⟨2,who,f.id,[],((s.asked (ofL who) f).ent f.id.toNat).first,[],[]⟩:aC)]:=hg
  rw[List.mem_singleton] at hg
  subst hg
  have G:bT (s.asked (ofL who) f):=G
  have hfi:bF (-1) ((s.asked (ofL who) f).ent f.id.toNat).first=true∧dO ((s.asked (ofL who) f).ent f.id.toNat).first f.id=false:=by
   rcases G.ent f.id.toNat (by omega) with e | F
   ·rw[e];exact⟨rfl,rfl⟩
   ·have:=F.first
    rw[show ((f.id.toNat:Nat):Int)=f.id by omega] at this
    exact this
  refine⟨?_,(show (2:Int)≠1 by decide),(show (2:Int)≠3 by decide)⟩
  unfold aP eO dS dZ
  simp only[hfi.1,hfi.2]
  rw[if_neg (by decide),if_neg (by omega)]
  rfl
 ·have G:=hgood h0
  obtain⟨i1,i2,_⟩:=kD hf
  rw[e] at hg G hw'
  have hg:g∈(s.commit (ofL who) f).answers (ofL who) who f.id:=hg
  have G:bT (s.commit (ofL who) f):=G
  have hw':iJ (s.commit (ofL who) f):=hw'
  unfold aA.answers at hg
  rcases List.mem_cons.1 hg with hg | hg
  ·subst hg
   refine⟨?_,(show (4:Int)≠1 by decide),(show (4:Int)≠3 by decide)⟩
   unfold aP eO dS dZ
   simp only
   rw[if_neg (by decide),if_neg (by omega)]
   rfl
  ·split at hg
   ·rename_i h3
    rw[List.mem_singleton] at hg
    subst hg
    refine⟨?_,(show (5:Int)≠1 by decide),(show (5:Int)≠3 by decide)⟩
    have F:=G.fine (n:=f.id.toNat) (by omega) (by rw[h3.1];decide)
    have t:=zJ _ ((s.commit (ofL who) f).ent f.id.toNat).vals (-1) _ (H7 F.ops) F.ats (hw' _)
    unfold aP eO dS dZ
    simp only[t,F.vals]
    rw[if_neg (by decide),if_neg (by omega)]
    simp
   ·simp at hg
theorem jM {c:aF} {id:Int} {g:aC} (h:g∈bU c id):aP g=0:=by
 obtain⟨hb,hid,hn,eid,eops,_⟩:=mL h
 unfold bU at h
 split at h
 ·simp at h
 ·rename_i hno
  have hg:dK c=true:=by
   cases e:dK c
   ·exact absurd (Or.inl e) hno
   ·rfl
  have hd:dO c.deps id=false:=by
   cases e:dO c.deps id
   ·rfl
   ·exact absurd (Or.inr (Or.inr (Or.inr (Or.inr e)))) hno
  rw[kI hb,Bool.and_eq_true] at hg
  obtain⟨n,hn6,hg1⟩:=List.mem_flatMap.1 h
  have hn6:=List.mem_range.1 hn6
  unfold aF.send at hg1
  split at hg1
  ·split at hg1
   ·rw[List.mem_singleton] at hg1
    subst hg1
    unfold aP eO dS dZ
    simp only[hg.1,hg.2,hd]
    rw[if_neg (by decide),if_neg (by omega)]
    rfl
   ·simp at hg1
  ·split at hg1
   ·rw[List.mem_singleton] at hg1
    subst hg1
    unfold aP eO dS dZ
    simp only[hg.1]
    rw[if_neg (by decide),if_neg (by omega)]
    rfl
   ·simp at hg1
def jV (s:aA):Prop:=∀i,i<32→(s.ent i).state=2→jB s.graph (i:Int)=false
theorem BW:jV dU:=fun i _ h=>absurd h (show (0:Int)≠2 by decide)
theorem AY (s:aA) (sh:Int) (n:Nat):(aA.execIf sh s n).graph=s.graph:=by
 unfold aA.execIf
 split
 ·rename_i h;exact vZ s sh n h
 ·rfl
theorem uD (sh:Int):∀(l:List Nat) (s:aA),(s.execs sh l).graph=s.graph
 | [],_=>rfl
 | a::l,s=>(uD sh l (aA.execIf sh s a)).trans (AY s sh a)
theorem EL {s:aA} {sh:Int} {n i:Nat} (h:((aA.execIf sh s n).ent i).state=2):(s.ent i).state=2∧i≠n:=by
 unfold aA.execIf at h
 split at h
 ·rename_i e
  by_cases ei:i=n
  ·subst ei
   have:((s.exec sh i).ent i).state=3:=congrArg cZ.state (aR _ _ _)
   rw[this] at h
   exact absurd h (by decide)
  ·have:(s.exec sh n).ent i=s.ent i:=aM _ _ ei
   rw[this] at h
   exact⟨h,ei⟩
 ·rename_i e
  exact⟨h,fun k=>e (k ▸ h)⟩
theorem sJ (sh:Int):∀(l:List Nat) {s:aA} {i:Nat},((s.execs sh l).ent i).state=2→(s.ent i).state=2∧i ∉ l
 | [],_,_,h=>⟨h,by simp⟩
 | a::l,s,i,h=>by
  obtain⟨h1,h2⟩:=sJ sh l (s:=aA.execIf sh s a) h
  obtain⟨h3,h4⟩:=EL h1
  exact⟨h3,by simp[h2,h4]⟩
theorem DC (g:bD) (sh:Int) (t:aA) (n:Nat):(aA.round g sh t n).graph=t.graph:=by
 unfold aA.round
 split
 ·exact uD sh _ t
 ·rfl
theorem zB {g:bD} {sh:Int} {t:aA} {n i:Nat} (h:((aA.round g sh t n).ent i).state=2):(t.ent i).state=2:=by
 unfold aA.round at h
 split at h
 ·exact (sJ sh _ h).1
 ·exact h
theorem FH {g:bD} {n:Nat} (hn:n<32) (hr:jB g (n:Int)=true):n∈eE g (n:Int):=by
 rw[CY hn,if_pos hr]
 exact (BM (AO g hn) n).2 ((cH g hn n).2 (.refl n))
theorem F9 {g:bD} {sh:Int} {t:aA} {n:Nat} (hn:n<32) (hr:jB g (n:Int)=true):((aA.round g sh t n).ent n).state≠2:=by
 intro h
 have h2:=zB h
 unfold aA.round at h
 rw[if_pos h2] at h
 exact (sJ sh _ h).2 (FH hn hr)
theorem BU (s:aA) (sh:Int):jV (s.settle sh)∧(s.settle sh).graph=s.graph:=by
 have:∀k,k≤32→(∀i,i<k→(((List.range k).foldl (aA.round s.graph sh) s).ent i).state=2→jB s.graph (i:Int)=false)∧((List.range k).foldl (aA.round s.graph sh) s).graph=s.graph:=by
  intro k
  induction k with
  | zero=>exact fun _=>⟨fun i hi=>absurd hi (Nat.not_lt_zero i),rfl⟩
  | succ k ih=>
   intro hk
   obtain⟨i1,i2⟩:=ih (by omega)
   rw[List.range_succ,List.foldl_append]
   refine⟨fun i hi h=>?_,?_⟩
   ·have h:((aA.round s.graph sh ((List.range k).foldl (aA.round s.graph sh) s) k).ent i).state=2:=h
    by_cases e:i<k
    ·exact i1 i e (zB h)
    ·obtain rfl:i=k:=by omega
     cases hr:jB s.graph (i:Int)
     ·rfl
     ·exact absurd h (F9 (by omega) hr)
   ·exact (DC s.graph sh _ k).trans i2
 obtain⟨h1,h2⟩:=this 32 (Nat.le_refl _)
 refine⟨fun i hi h=>?_,h2⟩
 have e:(s.settle sh).graph=s.graph:=h2
 rw[e]
 exact h1 i hi h
theorem BV {s:aA} {who:Int} {f:aC} (h:jV s):jV (aO s who f).1:=by
 rcases dE s who f with ⟨_,h1,_⟩ | ⟨hg,hf,_,_,_,_,⟨hk,_,e⟩ | ⟨hk,e⟩⟩
 ·rw[h1];exact h
 ·rw[e]
  show jV (s.asked (ofL who) f)
  intro i hi h2
  rw[pO hg (ofL who) hf]
  refine h i hi ?_
  unfold aA.asked at h2
  split at h2
  ·by_cases ei:i=f.id.toNat
   ·rw[ei,jQ] at h2
    exact absurd h2 (show (1:Int)≠2 by decide)
   ·rw[fE s _ f ei] at h2
    exact h2
  ·exact h2
 ·rw[e]
  show jV (s.commit (ofL who) f)
  unfold aA.commit
  split
  ·exact (BU _ _).1
  ·exact h
theorem jV.done {s:aA} (h:jV s) (hg:bT s) {i:Nat} (hi:i<32) (hc:∀d,d<32→cG s.graph i d=true→2≤(s.ent d).state):(s.ent i).state=3:=by
 have h2:=hc i hi ((cH _ hi i).2 (.refl i))
 have h3:=(hg.state hi).2
 by_cases e:(s.ent i).state=2
 ·have:=h i hi e
  rw[(I6 hi).2 fun d hd hid=>by simpa [aA.graph] using hc d hd hid] at this
  cases this
 ·omega
def Sys.took (S:Sys) (f:aC):Sys:=⟨upd S.B f.node.toNat (aO (S.B f.node.toNat) f.node f).1,S.C,fun g=>S.M g∨g∈(aO (S.B f.node.toNat) f.node f).2.1⟩
structure jG (S:Sys):Prop where
 own:∀i:Nat,i<32→dO (S.C i).deps (i:Int)=false
 most:∀i,i<32→(S.C i).begun=true→(S.C i).fixed=false→dT (S.C i).ops (S.C i).told=false
 kn:∀f,S.M f→f.kind=4→2≤((S.B f.node.toNat).ent f.id.toNat).state
 known:∀i,i<32→∀k,k<6→(S.C i).known k=true→2≤((S.B k).ent i).state
 settled:∀n,n<6→jV (S.B n)
 ask:∀f,S.M f→f.kind=1→aZ f.ops (ofL f.node)=true
 first:∀n,n<6→∀i,i<32→∀d:Nat,(d:Int)∈((S.B n).ent i).first→(S.C d).begun=true
 deps:∀i,i<32→∀d:Nat,(d:Int)∈(S.C i).deps→(S.C d).begun=true
theorem jG.start:jG ⟨fun _=>dU,fun _=>cF,fun _=>False⟩:=by
 refine⟨fun _ _=>rfl,fun i _ h=>?_,fun _ h=>h.elim,fun i _ k _ h=>?_,fun _ _=>BW,fun _ h=>h.elim,fun n _ i _ d h=>?_,fun i _ d h=>?_⟩
 ·cases h
 ·cases h
 ·have h:(d:Int)∈([]:List Int):=h
  simp at h
 ·have h:(d:Int)∈([]:List Int):=h
  simp at h
theorem wW {s:aA} {who:Int} {f:aC} (h0:∀n,0≤(s.ent n).state) (i:Nat):(s.ent i).state≤((aO s who f).1.ent i).state:=(m6 s who f h0).state i
theorem jG.node {S:Sys} (h:fB S) (u:jG S) {f:aC} (hM:S.M f) (hk:f.kind=1∨f.kind=3) (h0:(aO (S.B f.node.toNat) f.node f).2.2=0):jG (S.took f):=by
 obtain⟨hr1,hr2⟩:=h.s.rng f hM
 have hn6:f.node.toNat<6:=by omega
 have hnat:(f.node.toNat:Int)=f.node:=by omega
 have st:∀n,n<6→∀i,((S.B n).ent i).state≤(((S.took f).B n).ent i).state:=fun n hn i=>by
  show _≤((upd S.B f.node.toNat (aO (S.B f.node.toNat) f.node f).1 n).ent i).state
  by_cases e:n=f.node.toNat
  ·subst e
   rw[aR];exact wW (h.state _ hn6) i
  ·rw[aM _ _ e];exact Int.le_refl _
 have K:=m6 (S.B f.node.toNat) f.node f (h.state _ hn6)
 refine⟨u.own,u.most,fun g hg hg4=>?_,fun i hi k hk6 hkn=>Int.le_trans (u.known i hi k hk6 hkn) (st k hk6 i),fun n hn=>?_,fun g hg hg1=>?_,fun n hn i hi d hd=>?_,u.deps⟩
 ·rcases hg with hg | hg
  ·obtain⟨q1,q2⟩:=h.s.rng g hg
   exact Int.le_trans (u.kn g hg hg4) (st _ (by omega) _)
  ·rcases dE (S.B f.node.toNat) f.node f with ⟨hh,_⟩ | ⟨_,hf,_,_,_,_,⟨_,_,e⟩ | ⟨hk3,e⟩⟩
   ·exact absurd h0 hh
   ·rw[e] at hg
    have hg:g∈[(⟨2,f.node,f.id,[],_,[],[]⟩:aC)]:=hg
    rw[List.mem_singleton] at hg
    rw[hg] at hg4
    exact absurd hg4 (show (2:Int)≠4 by decide)
   ·have hgg:g.node=f.node∧g.id=f.id:=by
     rw[e] at hg
     have hg:g∈((S.B f.node.toNat).commit (ofL f.node) f).answers (ofL f.node) f.node f.id:=hg
     unfold aA.answers at hg
     rcases List.mem_cons.1 hg with hg | hg
     ·rw[hg];exact⟨rfl,rfl⟩
     ·split at hg
      ·rw[List.mem_singleton] at hg
       rw[hg];exact⟨rfl,rfl⟩
      ·simp at hg
    rw[hgg.1,hgg.2]
    show 2≤((upd S.B f.node.toNat (aO (S.B f.node.toNat) f.node f).1 f.node.toNat).ent f.id.toNat).state
    rw[aR]
    have:=congrArg (fun c=>c.2.2.2.2) (mC h0 hk3)
    have this:decide (2≤((aO (S.B f.node.toNat) f.node f).1.ent f.id.toNat).state)=_:=this
    by_cases hlt:((S.B f.node.toNat).ent f.id.toNat).state<2
    ·rw[if_pos hlt] at this
     exact of_decide_eq_true this
    ·exact Int.le_trans (by omega) (K.state f.id.toNat)
 ·show jV (upd S.B f.node.toNat _ n)
  by_cases e:n=f.node.toNat
  ·rw[e,aR];exact BV (u.settled _ hn6)
  ·rw[aM _ _ e];exact u.settled n hn
 ·rcases hg with hg | hg
  ·exact u.ask g hg hg1
  ·rcases dE (S.B f.node.toNat) f.node f with ⟨hh,_⟩ | ⟨_,hf,_,_,_,_,⟨_,_,e⟩ | ⟨hk3,e⟩⟩
   ·exact absurd h0 hh
   ·rw[e] at hg
    have hg:g∈[(⟨2,f.node,f.id,[],_,[],[]⟩:aC)]:=hg
    rw[List.mem_singleton] at hg
    rw[hg] at hg1
    exact absurd hg1 (show (2:Int)≠1 by decide)
   ·rw[e] at hg
    have hg:g∈((S.B f.node.toNat).commit (ofL f.node) f).answers (ofL f.node) f.node f.id:=hg
    unfold aA.answers at hg
    rcases List.mem_cons.1 hg with hg | hg
    ·rw[hg] at hg1
     exact absurd hg1 (show (4:Int)≠1 by decide)
    ·split at hg
     ·rw[List.mem_singleton] at hg
      rw[hg] at hg1
      exact absurd hg1 (show (5:Int)≠1 by decide)
     ·simp at hg
 ·have hd:(d:Int)∈((upd S.B f.node.toNat (aO (S.B f.node.toNat) f.node f).1 n).ent i).first:=hd
  show (S.C d).begun=true
  by_cases e:n=f.node.toNat
  ·rw[e,aR] at hd
   have old:(d:Int)∈((S.B f.node.toNat).ent i).first→(S.C d).begun=true:=fun h1=>u.first _ hn6 i hi d h1
   have new:∀ops sh,(d:Int)∈(S.B f.node.toNat).ahead i ops sh→(S.C d).begun=true:=fun ops sh h1=>by
    obtain⟨d32,_,ds,_⟩:=pA.1 h1
    exact (h.s.ent1 _ hn6 d d32 (by omega)).1
   by_cases ei:i=f.id.toNat
   ·subst ei
    rcases hk with hk | hk
    ·rw[n9 h0 hk] at hd
     split at hd
     ·exact new _ _ hd
     ·exact old hd
    ·have:=congrArg (fun c=>c.2.1) (mC h0 hk)
     have this:((aO (S.B f.node.toNat) f.node f).1.ent f.id.toNat).first=_:=this
     rw[this] at hd
     split at hd
     ·have hd:(d:Int)∈(if ((S.B f.node.toNat).ent f.id.toNat).state=0 then (S.B f.node.toNat).ahead f.id.toNat f.ops (ofL f.node) else ((S.B f.node.toNat).ent f.id.toNat).first):=hd
      split at hd
      ·exact new _ _ hd
      ·exact old hd
     ·exact old hd
   ·have:=congrArg (fun c=>c.2.1) (m5 (s:=S.B f.node.toNat) (who:=f.node) (f:=f) ei)
    have this:((aO (S.B f.node.toNat) f.node f).1.ent i).first=((S.B f.node.toNat).ent i).first:=this
    rw[this] at hd
    exact old hd
  ·rw[aM _ _ e] at hd
   exact u.first n hn i hi d hd
theorem pN (sh:Int):∀(l:List (Int × Int)) (c:aF),(c.dones sh l).known=c.known
 | [],_=>rfl
 | p::l,c=>by
  show ((aF.done1 sh c p).dones sh l).known=c.known
  rw[pN sh l]
  unfold aF.done1
  split<;>rfl
theorem DN {c:aF} {id:Int} {f:aC} {k:Nat} (h:(aN c id f).1.known k=true):c.known k=true∨(f.kind=4∧k=f.node.toNat):=by
 unfold aN at h
 split at h
 ·exact Or.inl h
 ·split at h
  ·exact Or.inl h
  ·split at h
   ·exact Or.inl h
   ·split at h
    ·split at h<;>exact Or.inl h
    ·split at h
     ·exact Or.inl h
     ·split at h
      ·rename_i h4
       have h:upd c.known f.node.toNat true k=true:=h
       by_cases e:k=f.node.toNat
       ·exact Or.inr ⟨h4,e⟩
       ·rw[aM _ _ e] at h;exact Or.inl h
      ·have h:(c.dones (ofL f.node) (f.ats.zip f.vals)).known k=true:=h
       rw[pN] at h
       exact Or.inl h
theorem jJ {c:aF} {id:Int} {g:aC} (h:g∈bU c id):(g.kind=1→aZ g.ops (ofL g.node)=true)∧g.kind≠4:=by
 unfold bU at h
 split at h
 ·simp at h
 ·obtain⟨n,_,hg⟩:=List.mem_flatMap.1 h
  unfold aF.send at hg
  split at hg
  ·split at hg
   ·rw[List.mem_singleton] at hg
    rw[hg]
    exact⟨fun e=>absurd e (show (3:Int)≠1 by decide),(show (3:Int)≠4 by decide)⟩
   ·simp at hg
  ·split at hg
   ·rename_i ht
    rw[List.mem_singleton] at hg
    rw[hg]
    rw[Bool.and_eq_true] at ht
    exact⟨fun _=>ht.1,(show (1:Int)≠4 by decide)⟩
   ·simp at hg
theorem oR (c:aF) (id:Int) (f:aC):(aN c id f).1.begun=c.begun:=by
 rcases fF c id f with ⟨_,h1,_⟩ | ⟨_,_,_,_,_,_,he,_⟩ | ⟨_,_,_,hs,_⟩
 ·rw[h1]
 ·rw[he];rfl
 ·exact hs.begun
theorem uU {zs:List Int} {n:Int}:dO zs n=true↔n∈zs:=by
 unfold dO eqB
 simp
theorem jG.answer {S:Sys} (h:fB S) (u:jG S) {f:aC} (hM:S.M f) (h0:(aN (S.C f.id.toNat) f.id f).2.2=0):
  jG ⟨S.B,upd S.C f.id.toNat (aN (S.C f.id.toNat) f.id f).1,fun g=>S.M g∨g∈(aN (S.C f.id.toNat) f.id f).2.1⟩:=by
 obtain⟨hr1,hr2⟩:=h.s.rng f hM
 have hi32:f.id.toNat<32:=by omega
 have hn6:f.node.toNat<6:=by omega
 have hnat:(f.id.toNat:Int)=f.id:=by omega
 have beg:∀d,(upd S.C f.id.toNat (aN (S.C f.id.toNat) f.id f).1 d).begun=(S.C d).begun:=fun d=>by
  rcases eY S.C f.id.toNat (aN (S.C f.id.toNat) f.id f).1 d with ⟨e1,e2⟩ | ⟨_,e2⟩
  ·rw[e2,oR,e1]
  ·rw[e2]
 have D:∀d:Nat,(d:Int)∈(aN (S.C f.id.toNat) f.id f).1.deps→(S.C d).begun=true:=by
  intro d hd
  rcases fF (S.C f.id.toNat) f.id f with ⟨h1,_⟩ | ⟨_,_,hk,_,_,_,he,_⟩ | ⟨_,_,_,hs,_⟩
  ·exact absurd h0 h1
  ·rw[he] at hd
   have hd:(d:Int)∈hJ (S.C f.id.toNat).deps f.deps:=hd
   rcases (qT.1 hd).2 with e | e
   ·exact u.deps _ hi32 d e
   ·rw[(h.s.tel f hM hk).2] at e
    exact u.first _ hn6 _ hi32 d e
  ·rw[hs.deps] at hd
   exact u.deps _ hi32 d hd
 have O:dO (aN (S.C f.id.toNat) f.id f).1.deps (f.id.toNat:Int)=false:=by
  have old:=u.own _ hi32
  rcases fF (S.C f.id.toNat) f.id f with ⟨h1,_⟩ | ⟨_,hg,hk,_,_,_,he,_⟩ | ⟨_,_,_,hs,_⟩
  ·exact absurd h0 h1
  ·rw[he]
   show dO (hJ (S.C f.id.toNat).deps f.deps) (f.id.toNat:Int)=false
   cases e:dO (hJ (S.C f.id.toNat).deps f.deps) (f.id.toNat:Int)
   ·rfl
   ·rcases (qT.1 (uU.1 e)).2 with e | e
    ·rw[uU.2 e] at old;cases old
    ·have F:=h.s.tel f hM hk
     rw[F.2] at e
     have:=((h.s.good _ hn6).fine hi32 (by have:=F.1;omega)).first.2
     rw[uU.2 e] at this;cases this
  ·rw[hs.deps];exact old
 refine⟨fun i hi=>?_,fun i hi hb hf=>?_,fun g hg hg4=>?_,fun i hi k hk hkn=>?_,u.settled,fun g hg hg1=>?_,fun n hn i hi d hd=>?_,fun i hi d hd=>?_⟩
 ·show dO (upd S.C f.id.toNat (aN (S.C f.id.toNat) f.id f).1 i).deps (i:Int)=false
  rcases eY S.C f.id.toNat (aN (S.C f.id.toNat) f.id f).1 i with ⟨e1,e2⟩ | ⟨_,e2⟩
  ·rw[e2,e1];exact O
  ·rw[e2];exact u.own i hi
 ·have hb:(upd S.C f.id.toNat (aN (S.C f.id.toNat) f.id f).1 i).begun=true:=hb
  have hf:(upd S.C f.id.toNat (aN (S.C f.id.toNat) f.id f).1 i).fixed=false:=hf
  show dT (upd S.C f.id.toNat (aN (S.C f.id.toNat) f.id f).1 i).ops (upd S.C f.id.toNat (aN (S.C f.id.toNat) f.id f).1 i).told=false
  rw[beg] at hb
  rcases eY S.C f.id.toNat (aN (S.C f.id.toNat) f.id f).1 i with ⟨e1,e2⟩ | ⟨_,e2⟩
  ·rw[e2] at hf ⊢
   rcases fF (S.C f.id.toNat) f.id f with ⟨h1,_⟩ | ⟨_,_,_,_,_,_,he,_⟩ | ⟨_,_,_,hs,_⟩
   ·exact absurd h0 h1
   ·rw[he] at hf ⊢
    exact hf
   ·rw[hs.ops,hs.told]
    rw[hs.fixed] at hf
    rw[e1] at hb
    exact u.most _ hi32 hb hf
  ·rw[e2] at hf ⊢
   exact u.most i hi hb hf
 ·rcases hg with hg | hg
  ·exact u.kn g hg hg4
  ·exact absurd hg4 (jJ (jZ hg).1).2
 ·have hkn:(upd S.C f.id.toNat (aN (S.C f.id.toNat) f.id f).1 i).known k=true:=hkn
  show 2≤((S.B k).ent i).state
  rcases eY S.C f.id.toNat (aN (S.C f.id.toNat) f.id f).1 i with ⟨e1,e2⟩ | ⟨_,e2⟩
  ·rw[e2] at hkn
   rw[e1]
   rcases DN hkn with e | ⟨e,ek⟩
   ·exact u.known _ hi32 k hk e
   ·rw[ek]
    exact u.kn f hM e
  ·rw[e2] at hkn
   exact u.known i hi k hk hkn
 ·rcases hg with hg | hg
  ·exact u.ask g hg hg1
  ·exact (jJ (jZ hg).1).1 hg1
 ·exact (beg d).trans (u.first n hn i hi d hd)
 ·have hd:(d:Int)∈(upd S.C f.id.toNat (aN (S.C f.id.toNat) f.id f).1 i).deps:=hd
  refine (beg d).trans ?_
  rcases eY S.C f.id.toNat (aN (S.C f.id.toNat) f.id f).1 i with ⟨e1,e2⟩ | ⟨_,e2⟩
  ·rw[e2] at hd;exact D d hd
  ·rw[e2] at hd;exact u.deps i hi d hd
theorem jG.again {S:Sys} (u:jG S) (i:Nat):jG ⟨S.B,S.C,fun g=>S.M g∨g∈bU (S.C i) (i:Int)⟩:=by
 refine⟨u.own,u.most,fun g hg hg4=>?_,u.known,u.settled,fun g hg hg1=>?_,u.first,u.deps⟩
 ·rcases hg with hg | hg
  ·exact u.kn g hg hg4
  ·exact absurd hg4 (jJ hg).2
 ·rcases hg with hg | hg
  ·exact u.ask g hg hg1
  ·exact (jJ hg).1 hg1
theorem IR {ops:List OpL} (h:bQ ops=true):dT ops (fun _=>false)=false:=by
 have hk:=sL h
 have e0:kA (fun _=>false) 0=0:=rfl
 have e1:kA (fun _=>false) 1=0:=rfl
 unfold dT
 rw[e0,e1]
 cases ops with
 | nil=>unfold bQ at h;simp at h
 | cons o r=>
  have:=hk o (by simp)
  by_cases ho:o.2.1 % 2=0
  ·have:aZ (o::r) 0=true:=List.any_eq_true.2 ⟨o,by simp,by simp[fL,ho]⟩
   rw[this]
   rfl
  ·have:aZ (o::r) 1=true:=List.any_eq_true.2 ⟨o,by simp,by simp[fL];omega⟩
   rw[this]
   simp
theorem jG.begin {S:Sys} (u:jG S) {i:Nat} {ops:List OpL} (h0:(bK (i:Int) ops).2.2=0):
  jG ⟨S.B,upd S.C i (bK (i:Int) ops).1,fun g=>S.M g∨g∈(bK (i:Int) ops).2.1⟩:=by
 have hgo:=(yO h0).2.1
 have e:bK (i:Int) ops=({ cF with begun:=true,ops:=ops },bU { cF with begun:=true,ops:=ops } (i:Int),0):=by
  unfold bK at *
  split at h0
  ·exact absurd h0 (show (2:Int)≠0 by decide)
  ·rename_i h1
   rw[if_neg h1]
   split at h0
   ·exact absurd h0 (show (1:Int)≠0 by decide)
   ·rename_i h2
    rw[if_neg h2]
 rw[e]
 obtain⟨c,hc⟩:∃c:aF,c={ cF with begun:=true,ops:=ops }:=⟨_,rfl⟩
 show jG ⟨S.B,upd S.C i { cF with begun:=true,ops:=ops },fun g=>S.M g∨g∈bU { cF with begun:=true,ops:=ops } (i:Int)⟩
 rw[←hc]
 have beg:∀d,(S.C d).begun=true→(upd S.C i c d).begun=true:=fun d hd=>by
  rcases eY S.C i c d with ⟨_,e2⟩ | ⟨_,e2⟩
  ·rw[e2,hc]
  ·rw[e2];exact hd
 refine⟨fun j hj=>?_,fun j hj hbj hf=>?_,fun g hg hg4=>?_,fun j hj k hk hkn=>?_,u.settled,fun g hg hg1=>?_,fun n hn j hj d hd=>beg d (u.first n hn j hj d hd),fun j hj d hd=>?_⟩
 ·show dO (upd S.C i c j).deps (j:Int)=false
  rcases eY S.C i c j with ⟨_,e2⟩ | ⟨_,e2⟩
  ·rw[e2,hc];rfl
  ·rw[e2];exact u.own j hj
 ·have hbj:(upd S.C i c j).begun=true:=hbj
  have hf:(upd S.C i c j).fixed=false:=hf
  show dT (upd S.C i c j).ops (upd S.C i c j).told=false
  rcases eY S.C i c j with ⟨_,e2⟩ | ⟨_,e2⟩
  ·rw[e2,hc];exact IR hgo
  ·rw[e2] at hbj hf ⊢;exact u.most j hj hbj hf
 ·rcases hg with hg | hg
  ·exact u.kn g hg hg4
  ·exact absurd hg4 (jJ hg).2
 ·have hkn:(upd S.C i c j).known k=true:=hkn
  show 2≤((S.B k).ent j).state
  rcases eY S.C i c j with ⟨_,e2⟩ | ⟨_,e2⟩
  ·rw[e2,hc] at hkn;cases hkn
  ·rw[e2] at hkn;exact u.known j hj k hk hkn
 ·rcases hg with hg | hg
  ·exact u.ask g hg hg1
  ·exact (jJ hg).1 hg1
 ·have hd:(d:Int)∈(upd S.C i c j).deps:=hd
  refine beg d ?_
  rcases eY S.C i c j with ⟨_,e2⟩ | ⟨_,e2⟩
  ·rw[e2,hc] at hd
   have hd:(d:Int)∈([]:List Int):=hd
   simp at hd
  ·rw[e2] at hd;exact u.deps j hj d hd
end Go.Proofs.YtkoefoccbjhoiacGreat
