/-
squeezed by tools/squeeze.py from: CluS CluT CluU CluV CluW CluX CluY
-/
import Derived.Test.YtkoefoccbjhoiacGreatTops6
set_option linter.unusedVariables false
set_option linter.unusedSimpArgs false
set_option maxRecDepth 100000
set_option maxHeartbeats 4000000
namespace Go.Proofs.YtkoefoccbjhoiacGreat
open Go.RowKit
structure Sys where
 B:Nat→aB
 C:Nat→aG
 M:aD→Prop
def sF (f:aD):Prop:=(0≤f.node∧f.node<6)∧0≤f.id∧f.id<32
structure fT (S:Sys):Prop where
 good:∀n,n<6→bT (S.B n)
 rng:∀f,S.M f→sF f
 ask:∀f,S.M f→f.kind=1→(S.C f.id.toNat).begun=true∧f.ops=(S.C f.id.toNat).ops
 com:∀f,S.M f→f.kind=3→((S.C f.id.toNat).begun=true∧(S.C f.id.toNat).fixed=true)∧f.ops=(S.C f.id.toNat).ops∧f.deps=(S.C f.id.toNat).deps
 tel:∀f,S.M f→f.kind=2→1≤((S.B f.node.toNat).ent f.id.toNat).state∧f.deps=((S.B f.node.toNat).ent f.id.toNat).first
 don:∀f,S.M f→f.kind=5→((S.B f.node.toNat).ent f.id.toNat).state=3∧f.ats=((S.B f.node.toNat).ent f.id.toNat).ats∧f.vals=((S.B f.node.toNat).ent f.id.toNat).vals
 ent1:∀n,n<6→∀i,i<32→1≤((S.B n).ent i).state→(S.C i).begun=true∧((S.B n).ent i).ops=(S.C i).ops
 ent2:∀n,n<6→∀i,i<32→2≤((S.B n).ent i).state→(S.C i).fixed=true∧((S.B n).ent i).deps=(S.C i).deps
 told:∀i,i<32→∀n,n<6→(S.C i).told n=true→1≤((S.B n).ent i).state∧∀d∈((S.B n).ent i).first,d∈(S.C i).deps
 conf:∀n,n<6→∀x y,x<32→y<32→x≠y→1≤((S.B n).ent x).state→1≤((S.B n).ent y).state→cZ (S.C x).ops (S.C y).ops (ofL n)=true→(y:Int)∈((S.B n).ent x).first∨(x:Int)∈((S.B n).ent y).first
 most:∀i,i<32→(S.C i).fixed=true→(S.C i).begun=true∧eA (S.C i).ops (S.C i).told=true
theorem qC {a b:List Int} {x:Nat}:(x:Int)∈gX a b↔x<32∧((x:Int)∈a∨(x:Int)∈b):=by
 unfold gX cN
 simp
 constructor
 ·rintro⟨y,⟨h1,h2⟩,e⟩
  obtain rfl:y=x:=by omega
  exact⟨h1,h2⟩
 ·rintro⟨h1,h2⟩
  exact⟨x,⟨h1,h2⟩,rfl⟩
theorem GL {a b:List Int} {d:Int} (h:d∈a) (h0:0≤d∧d<32):d∈gX a b:=by
 obtain⟨x,rfl⟩:=Int.eq_ofNat_of_zero_le h0.1
 exact qC.2 ⟨by omega,Or.inl h⟩
theorem DV {a b:List Int} {d:Int} (h:d∈b) (h0:0≤d∧d<32):d∈gX a b:=by
 obtain⟨x,rfl⟩:=Int.eq_ofNat_of_zero_le h0.1
 exact qC.2 ⟨by omega,Or.inr h⟩
theorem zQ {s:aB} (h:bT s) {i:Nat} (hi:i<32):∀d∈(s.ent i).first,0≤d∧d<32:=by
 intro d hd
 rcases h.ent i hi with e | F
 ·rw[e] at hd;simp[kE] at hd
 ·have:=(r7 _ _ F.first.1).1 d hd
  omega
theorem LZ (n:Nat):ofL (n:Int)=if n<3 then 0 else 1:=by
 unfold ofL
 by_cases h:n<3
 ·rw[if_pos h,if_pos (by omega)]
 ·rw[if_neg h,if_neg (by omega)]
theorem fT.node {S:Sys} (h:fT S) {f:aD} (hM:S.M f) (hk:f.kind=1∨f.kind=3) (h0:(aO (S.B f.node.toNat) f.node f).2.2=0):
  fT ⟨upd S.B f.node.toNat (aO (S.B f.node.toNat) f.node f).1,S.C,fun g=>S.M g∨g∈(aO (S.B f.node.toNat) f.node f).2.1⟩:=by
 obtain⟨hr1,hr2⟩:=h.rng f hM
 have hn6:f.node.toNat<6:=by omega
 have hi32:f.id.toNat<32:=by omega
 have hnat:(f.node.toNat:Int)=f.node:=by omega
 have hG:=h.good _ hn6
 obtain⟨s,hs⟩:∃s,s=S.B f.node.toNat:=⟨_,rfl⟩
 obtain⟨T,hT⟩:∃T,T=aO (S.B f.node.toNat) f.node f:=⟨_,rfl⟩
 rw[←hT] at h0 ⊢
 have hT':T=aO s f.node f:=by rw[hs];exact hT
 rw[←hs] at hG
 have h00:(aO s f.node f).2.2=0:=by rw[←hT'];exact h0
 have hst0:∀i,i<32→0≤(s.ent i).state:=fun i hi=>(hG.state hi).1
 have hG':bT T.1:=by rw[hT'];exact yC h00
 have hops:f.ops=(S.C f.id.toNat).ops∧(S.C f.id.toNat).begun=true:=by
  rcases hk with e | e
  ·exact⟨(h.ask f hM e).2,(h.ask f hM e).1⟩
  ·exact⟨(h.com f hM e).2.1,(h.com f hM e).1.1⟩
 have other:∀i,i≠f.id.toNat→fQ (T.1.ent i)=fQ (s.ent i):=fun i hi=>by rw[hT'];exact mQ hi
 have mine:((s.ent f.id.toNat).state=0→(T.1.ent f.id.toNat).first=s.ahead f.id.toNat f.ops (ofL f.node))∧((s.ent f.id.toNat).state≠0→(T.1.ent f.id.toNat).first=(s.ent f.id.toNat).first)∧
   (T.1.ent f.id.toNat).ops=(S.C f.id.toNat).ops∧1≤(T.1.ent f.id.toNat).state∧(2≤(T.1.ent f.id.toNat).state→(S.C f.id.toNat).fixed=true∧(T.1.ent f.id.toNat).deps=(S.C f.id.toNat).deps):=by
  have hold1:(s.ent f.id.toNat).state≠0→(s.ent f.id.toNat).ops=(S.C f.id.toNat).ops:=fun e=>by
   have:=h.ent1 _ hn6 _ hi32 (by rw[←hs];have:=hst0 _ hi32;omega)
   rw[←hs] at this
   exact this.2
  have hold2:2≤(s.ent f.id.toNat).state→(S.C f.id.toNat).fixed=true∧(s.ent f.id.toNat).deps=(S.C f.id.toNat).deps:=fun e=>by
   have:=h.ent2 _ hn6 _ hi32 (by rw[←hs];exact e)
   rw[←hs] at this
   exact this
  rcases hk with hk | hk
  ·have e:=nN h00 hk
   rw[←hT'] at e
   by_cases z:(s.ent f.id.toNat).state=0
   ·rw[if_pos z] at e
    rw[e]
    exact⟨fun _=>rfl,fun c=>absurd z c,hops.1,by simp,fun c=>absurd c (by simp)⟩
   ·rw[if_neg z] at e
    rw[e]
    exact⟨fun c=>absurd c z,fun _=>rfl,hold1 z,by have:=hst0 _ hi32;omega,hold2⟩
  ·have e:=lY h00 hk
   rw[←hT'] at e
   by_cases l:(s.ent f.id.toNat).state<2
   ·rw[if_pos l] at e
    obtain⟨e1,e2,e3,e4,e5⟩:=DD e
    refine⟨fun z=>by rw[e2,if_pos z],fun z=>by rw[e2,if_neg z],by rw[e1];exact hops.1,of_decide_eq_true e4,fun _=>⟨(h.com f hM hk).1.2,by rw[e3];exact (h.com f hM hk).2.2⟩⟩
   ·rw[if_neg l] at e
    obtain⟨e1,e2,e3,e4,e5⟩:=l8 e
    exact⟨fun z=>by omega,fun _=>e2,by rw[e1];exact hold1 (by omega),by rw[e4];omega,fun c=>by rw[e3];exact hold2 (e5.1 c)⟩
 have keep1:∀i,i<32→1≤(s.ent i).state→1≤(T.1.ent i).state∧(T.1.ent i).first=(s.ent i).first:=fun i hi h1=>by
  by_cases e:i=f.id.toNat
  ·subst e
   exact⟨mine.2.2.2.1,mine.2.1 (by omega)⟩
  ·obtain⟨_,e2,_,e4,_⟩:=l8 (other i e)
   exact⟨e4.2 h1,e2⟩
 have hdone:∀i,(s.ent i).state=3→T.1.ent i=s.ent i:=fun i hi=>by
  rcases dN s f.node f with ⟨_,e1,_⟩ | ⟨_,_,_,_,_,_,⟨_,_,e⟩ | ⟨_,e⟩⟩
  ·rw[hT',e1]
  ·rw[hT',e];exact (tI s _ f).done i hi
  ·rw[hT',e]
   show (s.commit _ f).ent i=_
   unfold aB.commit
   split
   ·rename_i l
    have p1:=rL s (ofL f.node) f l
    have hp:(s.placed (ofL f.node) f).ent i=s.ent i:=p1.done i hi
    have:∀(l:List Nat) (t:aB) (g:bG),(t.ent i).state=3→(l.foldl (aB.round g (ofL f.node)) t).ent i=t.ent i:=by
     intro l
     induction l with
     | nil=>intros;rfl
     | cons a l ih=>
      intro t g ht
      have h2:(aB.round g (ofL f.node) t a).ent i=t.ent i:=by
       unfold aB.round
       split
       ·have:∀(l:List Nat) (t:aB),(t.ent i).state=3→(l.foldl (aB.execIf (ofL f.node)) t).ent i=t.ent i:=by
         intro l
         induction l with
         | nil=>intros;rfl
         | cons b l ih2=>
          intro t ht
          have h3:=(rK t (ofL f.node) b).done i ht
          show (l.foldl _ (aB.execIf _ t b)).ent i=_
          rw[ih2 _ (by rw[h3];exact ht),h3]
        exact this _ t ht
       ·rfl
      show (l.foldl _ (aB.round g _ t a)).ent i=_
      rw[ih _ g (by rw[h2];exact ht),h2]
    unfold aB.settle
    rw[this _ _ _ (by rw[hp];exact hi),hp]
   ·rfl
 have at_:∀m,upd S.B f.node.toNat T.1 m=if m=f.node.toNat then T.1 else S.B m:=fun m=>rfl
 have hans:∀g∈T.2.1,g.node=f.node∧g.id=f.id∧(g.kind=2→g.deps=(T.1.ent f.id.toNat).first)∧(g.kind=5→(T.1.ent f.id.toNat).state=3∧g.ats=(T.1.ent f.id.toNat).ats∧g.vals=(T.1.ent f.id.toNat).vals)∧g.kind≠1∧g.kind≠3:=by
  intro g hg
  rcases dN s f.node f with ⟨_,_,e1⟩ | ⟨_,_,_,_,_,_,⟨_,_,e⟩ | ⟨_,e⟩⟩
  ·rw[hT',e1] at hg;simp at hg
  ·rw[hT',e] at hg ⊢
   simp at hg
   subst hg
   exact⟨rfl,rfl,fun _=>rfl,fun c=>absurd c (by simp),by simp,by simp⟩
  ·rw[hT',e] at hg ⊢
   have hg:g∈(s.commit (ofL f.node) f).answers (ofL f.node) f.node f.id:=hg
   unfold aB.answers at hg
   rcases List.mem_cons.1 hg with rfl | hg
   ·exact⟨rfl,rfl,fun c=>absurd c (by simp),fun c=>absurd c (by simp),by simp,by simp⟩
   ·split at hg
    ·rename_i hc
     simp at hg
     subst hg
     exact⟨rfl,rfl,fun c=>absurd c (by simp),fun _=>⟨hc.1,rfl,rfl⟩,by simp,by simp⟩
    ·simp at hg
 refine⟨fun m hm=>?_,fun g hg=>?_,fun g hg hk=>?_,fun g hg hk=>?_,fun g hg hk=>?_,fun g hg hk=>?_,fun m hm i hi h1=>?_,fun m hm i hi h2=>?_,fun i hi m hm ht=>?_,fun m hm x y hx hy hxy h1 h2 hc=>?_,h.most⟩
 ·show bT (upd S.B f.node.toNat T.1 m)
  rw[at_]
  split
  ·exact hG'
  ·exact h.good m hm
 ·rcases hg with hg | hg
  ·exact h.rng g hg
  ·obtain⟨a1,a2,_⟩:=hans g hg
   unfold sF
   rw[a1,a2]
   exact⟨hr1,hr2⟩
 ·rcases hg with hg | hg
  ·exact h.ask g hg hk
  ·exact absurd hk (hans g hg).2.2.2.2.1
 ·rcases hg with hg | hg
  ·exact h.com g hg hk
  ·exact absurd hk (hans g hg).2.2.2.2.2
 ·show 1≤((upd S.B f.node.toNat T.1 g.node.toNat).ent g.id.toNat).state∧g.deps=((upd S.B f.node.toNat T.1 g.node.toNat).ent g.id.toNat).first
  rw[at_]
  rcases hg with hg | hg
  ·obtain⟨t1,t2⟩:=h.tel g hg hk
   have hgr:=h.rng g hg
   split
   ·rename_i e
    rw[e,←hs] at t1 t2
    obtain⟨k1,k2⟩:=keep1 g.id.toNat (by have:=hgr.2;omega) t1
    exact⟨k1,by rw[k2];exact t2⟩
   ·exact⟨t1,t2⟩
  ·obtain⟨a1,a2,a3,_⟩:=hans g hg
   rw[a1,a2,if_pos rfl]
   exact⟨mine.2.2.2.1,a3 hk⟩
 ·show ((upd S.B f.node.toNat T.1 g.node.toNat).ent g.id.toNat).state=3∧g.ats=((upd S.B f.node.toNat T.1 g.node.toNat).ent g.id.toNat).ats∧g.vals=((upd S.B f.node.toNat T.1 g.node.toNat).ent g.id.toNat).vals
  rw[at_]
  rcases hg with hg | hg
  ·obtain⟨t1,t2⟩:=h.don g hg hk
   split
   ·rename_i e
    rw[e,←hs] at t1 t2
    rw[hdone _ t1]
    exact⟨t1,t2⟩
   ·exact⟨t1,t2⟩
  ·obtain⟨a1,a2,_,a4,_⟩:=hans g hg
   rw[a1,a2,if_pos rfl]
   exact a4 hk
 ·have h1:1≤((upd S.B f.node.toNat T.1 m).ent i).state:=h1
  show (S.C i).begun=true∧((upd S.B f.node.toNat T.1 m).ent i).ops=(S.C i).ops
  rw[at_] at h1 ⊢
  split
  ·rename_i e
   rw[if_pos e] at h1
   by_cases ei:i=f.id.toNat
   ·subst ei
    exact⟨hops.2,mine.2.2.1⟩
   ·obtain⟨e1,_,_,e4,_⟩:=l8 (other i ei)
    rw[e1]
    have:=h.ent1 m hm i hi (by rw[e,←hs];exact e4.1 h1)
    rw[e,←hs] at this
    exact this
  ·rename_i e
   rw[if_neg e] at h1
   exact h.ent1 m hm i hi h1
 ·have h2:2≤((upd S.B f.node.toNat T.1 m).ent i).state:=h2
  show (S.C i).fixed=true∧((upd S.B f.node.toNat T.1 m).ent i).deps=(S.C i).deps
  rw[at_] at h2 ⊢
  split
  ·rename_i e
   rw[if_pos e] at h2
   by_cases ei:i=f.id.toNat
   ·subst ei
    exact mine.2.2.2.2 h2
   ·obtain⟨_,_,e3,_,e5⟩:=l8 (other i ei)
    rw[e3]
    have:=h.ent2 m hm i hi (by rw[e,←hs];exact e5.1 h2)
    rw[e,←hs] at this
    exact this
  ·rename_i e
   rw[if_neg e] at h2
   exact h.ent2 m hm i hi h2
 ·obtain⟨t1,t2⟩:=h.told i hi m hm ht
  show 1≤((upd S.B f.node.toNat T.1 m).ent i).state∧∀d∈((upd S.B f.node.toNat T.1 m).ent i).first,d∈(S.C i).deps
  rw[at_]
  split
  ·rename_i e
   rw[e,←hs] at t1 t2
   obtain⟨k1,k2⟩:=keep1 i hi t1
   exact⟨k1,by rw[k2];exact t2⟩
  ·exact⟨t1,t2⟩
 ·have g1:1≤((upd S.B f.node.toNat T.1 m).ent x).state:=h1
  have g2:1≤((upd S.B f.node.toNat T.1 m).ent y).state:=h2
  clear h1 h2
  have hc:cZ (S.C x).ops (S.C y).ops (ofL m)=true:=hc
  show (y:Int)∈((upd S.B f.node.toNat T.1 m).ent x).first∨(x:Int)∈((upd S.B f.node.toNat T.1 m).ent y).first
  rw[at_] at g1 g2 ⊢
  by_cases e:m=f.node.toNat
  ·rw[if_pos e] at g1 g2 ⊢
   subst e
   rw[hnat] at hc
   have old:1≤(s.ent x).state→1≤(s.ent y).state→(y:Int)∈(T.1.ent x).first∨(x:Int)∈(T.1.ent y).first:=fun o1 o2=>by
    rw[(keep1 x hx o1).2,(keep1 y hy o2).2]
    have:=h.conf _ hn6 x y hx hy hxy (by rw[←hs];exact o1) (by rw[←hs];exact o2) (by rw[hnat];exact hc)
    rw[←hs] at this
    exact this
   by_cases ex:x=f.id.toNat
   ·subst ex
    have hy1:1≤(s.ent y).state:=(l8 (other y (Ne.symm hxy))).2.2.2.1.1 g2
    by_cases z:(s.ent f.id.toNat).state=0
    ·left
     rw[mine.1 z]
     refine oN.2 ⟨hy,Ne.symm hxy,by omega,?_⟩
     have hyo:=h.ent1 _ hn6 y hy (by rw[←hs];exact hy1)
     rw[←hs] at hyo
     rw[hyo.2,hops.1,nK]
     exact hc
    ·exact old (by have:=hst0 _ hi32;omega) hy1
   ·by_cases ey:y=f.id.toNat
    ·subst ey
     have hx1:1≤(s.ent x).state:=(l8 (other x ex)).2.2.2.1.1 g1
     by_cases z:(s.ent f.id.toNat).state=0
     ·right
      rw[mine.1 z]
      refine oN.2 ⟨hx,ex,by omega,?_⟩
      have hxo:=h.ent1 _ hn6 x hx (by rw[←hs];exact hx1)
      rw[←hs] at hxo
      rw[hxo.2,hops.1]
      exact hc
     ·exact old hx1 (by have:=hst0 _ hi32;omega)
    ·exact old ((l8 (other x ex)).2.2.2.1.1 g1) ((l8 (other y ey)).2.2.2.1.1 g2)
  ·rw[if_neg e] at g1 g2 ⊢
   exact h.conf m hm x y hx hy hxy g1 g2 hc
theorem oM {c:aG} {id:Int} {g:aD} (h:g∈cV c id):c.begun=true∧(0≤id∧id<32)∧(0≤g.node∧g.node<6)∧g.id=id∧g.ops=c.ops∧((c.fixed=true∧g.kind=3∧g.deps=c.deps)∨(c.fixed=false∧g.kind=1)):=by
 unfold cV at h
 split at h
 ·simp at h
 ·rename_i hn
  obtain⟨n,hn6,hg⟩:=List.mem_flatMap.1 h
  have hn6:=List.mem_range.1 hn6
  have hb:c.begun=true:=by
   cases e:c.begun
   ·exact absurd (Or.inr (Or.inl e)) hn
   ·rfl
  have hi0:0≤id:=by
   by_cases e:id<0
   ·exact absurd (Or.inr (Or.inr (Or.inl e))) hn
   ·omega
  have hi1:id<32:=by
   by_cases e:32≤id
   ·exact absurd (Or.inr (Or.inr (Or.inr (Or.inl e)))) hn
   ·omega
  unfold aG.send at hg
  cases hf:c.fixed
  ·rw[hf] at hg
   simp only[Bool.false_eq_true,if_false] at hg
   split at hg
   ·simp at hg
    subst hg
    exact⟨hb,⟨hi0,hi1⟩,⟨by show (0:Int)≤(n:Int);omega,by show (n:Int)<6;omega⟩,rfl,rfl,Or.inr ⟨rfl,rfl⟩⟩
   ·simp at hg
  ·rw[hf] at hg
   simp only[if_true] at hg
   split at hg
   ·simp at hg
    subst hg
    exact⟨hb,⟨hi0,hi1⟩,⟨by show (0:Int)≤(n:Int);omega,by show (n:Int)<6;omega⟩,rfl,rfl,Or.inl ⟨rfl,rfl,rfl⟩⟩
   ·simp at hg
theorem lT {c:aG} {id:Int} {f g:aD} (hg:g∈(aR c id f).2.1):g∈cV (aR c id f).1 id∧(aR c id f).1.fixed=true:=by
 unfold aR at *
 split at hg
 ·simp at hg
 ·rename_i h1
  rw[if_neg h1]
  split at hg
  ·simp at hg
  ·rename_i h2
   rw[if_neg h2]
   split at hg
   ·simp at hg
   ·rename_i h3
    rw[if_neg h3]
    split at hg
    ·rename_i h4
     rw[if_pos h4]
     split at hg
     ·simp at hg
     ·rename_i h5
      rw[if_neg h5]
      have hg:g∈if (c.hear f).fixed=true then cV (c.hear f) id else []:=hg
      split at hg
      ·rename_i h6;exact⟨hg,h6⟩
      ·simp at hg
    ·split at hg
     ·simp at hg
     ·split at hg<;>simp at hg
theorem pI {c:aG} {id:Int} {f:aD} (h:(aR c id f).2.2=0):c.begun=true∧f.id=id:=by
 unfold aR at h
 split at h
 ·exact absurd h (show (2:Int)≠0 by decide)
 ·rename_i h1
  constructor
  ·cases e:c.begun
   ·exact absurd (Or.inr (Or.inl e)) h1
   ·rfl
  ·by_cases e:f.id=id
   ·exact e
   ·exact absurd (Or.inr (Or.inr (Or.inl e))) h1
theorem fT.setC {S:Sys} (h:fT S) {i:Nat} (_hi:i<32) (c:aG) (N:aD→Prop)
  (hb:(S.C i).begun=true→c.begun=true∧c.ops=(S.C i).ops) (hf:(S.C i).fixed=true→c.fixed=true∧c.deps=(S.C i).deps)
  (ht:∀n,n<6→c.told n=true→1≤((S.B n).ent i).state∧∀d∈((S.B n).ent i).first,d∈c.deps) (hm:c.fixed=true→c.begun=true∧eA c.ops c.told=true)
  (hN:∀g,N g→sF g∧g.id.toNat=i∧c.begun=true∧g.ops=c.ops∧((c.fixed=true∧g.kind=3∧g.deps=c.deps)∨g.kind=1)):
  fT ⟨S.B,upd S.C i c,fun g=>S.M g∨N g⟩:=by
 have at_:∀m,upd S.C i c m=if m=i then c else S.C m:=fun m=>rfl
 refine⟨h.good,fun g hg=>?_,fun g hg hk=>?_,fun g hg hk=>?_,fun g hg hk=>?_,fun g hg hk=>?_,fun n hn j hj h1=>?_,fun n hn j hj h2=>?_,fun j hj n hn htl=>?_,fun n hn x y hx hy hxy h1 h2 hc=>?_,fun j hj hfx=>?_⟩
 ·rcases hg with hg | hg
  ·exact h.rng g hg
  ·exact (hN g hg).1
 ·show (upd S.C i c g.id.toNat).begun=true∧g.ops=(upd S.C i c g.id.toNat).ops
  rw[at_]
  rcases hg with hg | hg
  ·obtain⟨a1,a2⟩:=h.ask g hg hk
   split
   ·rename_i e
    rw[e] at a1 a2
    obtain⟨b1,b2⟩:=hb a1
    exact⟨b1,by rw[b2];exact a2⟩
   ·exact⟨a1,a2⟩
  ·obtain⟨_,e,b1,b2,_⟩:=hN g hg
   rw[if_pos e]
   exact⟨b1,b2⟩
 ·show ((upd S.C i c g.id.toNat).begun=true∧(upd S.C i c g.id.toNat).fixed=true)∧g.ops=(upd S.C i c g.id.toNat).ops∧g.deps=(upd S.C i c g.id.toNat).deps
  rw[at_]
  rcases hg with hg | hg
  ·obtain⟨⟨a1,a2⟩,a3,a4⟩:=h.com g hg hk
   split
   ·rename_i e
    rw[e] at a1 a2 a3 a4
    obtain⟨b1,b2⟩:=hb a1
    obtain⟨b3,b4⟩:=hf a2
    exact⟨⟨b1,b3⟩,by rw[b2];exact a3,by rw[b4];exact a4⟩
   ·exact⟨⟨a1,a2⟩,a3,a4⟩
  ·obtain⟨_,e,b1,b2,b3⟩:=hN g hg
   rw[if_pos e]
   rcases b3 with ⟨b3,_,b4⟩ | b3
   ·exact⟨⟨b1,b3⟩,b2,b4⟩
   ·omega
 ·rcases hg with hg | hg
  ·exact h.tel g hg hk
  ·obtain⟨_,_,_,_,b⟩:=hN g hg
   rcases b with ⟨_,b,_⟩ | b<;>omega
 ·rcases hg with hg | hg
  ·exact h.don g hg hk
  ·obtain⟨_,_,_,_,b⟩:=hN g hg
   rcases b with ⟨_,b,_⟩ | b<;>omega
 ·obtain⟨a1,a2⟩:=h.ent1 n hn j hj h1
  show (upd S.C i c j).begun=true∧((S.B n).ent j).ops=(upd S.C i c j).ops
  rw[at_]
  split
  ·rename_i e
   rw[e] at a1 a2 ⊢
   obtain⟨b1,b2⟩:=hb a1
   exact⟨b1,by rw[b2];exact a2⟩
  ·exact⟨a1,a2⟩
 ·obtain⟨a1,a2⟩:=h.ent2 n hn j hj h2
  show (upd S.C i c j).fixed=true∧((S.B n).ent j).deps=(upd S.C i c j).deps
  rw[at_]
  split
  ·rename_i e
   rw[e] at a1 a2 ⊢
   obtain⟨b1,b2⟩:=hf a1
   exact⟨b1,by rw[b2];exact a2⟩
  ·exact⟨a1,a2⟩
 ·have htl:(upd S.C i c j).told n=true:=htl
  show 1≤((S.B n).ent j).state∧∀d∈((S.B n).ent j).first,d∈(upd S.C i c j).deps
  rw[at_] at htl ⊢
  split
  ·rename_i e
   rw[if_pos e] at htl
   rw[e]
   exact ht n hn htl
  ·rename_i e
   rw[if_neg e] at htl
   exact h.told j hj n hn htl
 ·have hops:∀z,z<32→1≤((S.B n).ent z).state→(upd S.C i c z).ops=(S.C z).ops:=fun z hz hz1=>by
   rw[at_]
   split
   ·rename_i e
    rw[e]
    exact (hb (by rw[←e];exact (h.ent1 n hn z hz hz1).1)).2
   ·rfl
  have hc:cZ (upd S.C i c x).ops (upd S.C i c y).ops (ofL n)=true:=hc
  rw[hops x hx h1,hops y hy h2] at hc
  exact h.conf n hn x y hx hy hxy h1 h2 hc
 ·have hfx:(upd S.C i c j).fixed=true:=hfx
  show (upd S.C i c j).begun=true∧eA (upd S.C i c j).ops (upd S.C i c j).told=true
  rw[at_] at hfx ⊢
  split
  ·rename_i e
   rw[if_pos e] at hfx
   exact hm hfx
  ·rename_i e
   rw[if_neg e] at hfx
   exact h.most j hj hfx
theorem fT.case {S:Sys} (h:fT S) {f:aD} (hM:S.M f) (h0:(aR (S.C f.id.toNat) f.id f).2.2=0):
  fT ⟨S.B,upd S.C f.id.toNat (aR (S.C f.id.toNat) f.id f).1,fun g=>S.M g∨g∈(aR (S.C f.id.toNat) f.id f).2.1⟩:=by
 obtain⟨hr1,hr2⟩:=h.rng f hM
 have hi32:f.id.toNat<32:=by omega
 have hn6:f.node.toNat<6:=by omega
 have hsend:∀g,g∈(aR (S.C f.id.toNat) f.id f).2.1→sF g∧g.id.toNat=f.id.toNat∧(aR (S.C f.id.toNat) f.id f).1.begun=true∧g.ops=(aR (S.C f.id.toNat) f.id f).1.ops∧
   (((aR (S.C f.id.toNat) f.id f).1.fixed=true∧g.kind=3∧g.deps=(aR (S.C f.id.toNat) f.id f).1.deps)∨g.kind=1):=fun g hg=>by
  obtain⟨h1,h2⟩:=lT hg
  obtain⟨b1,b2,b3,b4,b5,b6⟩:=oM h1
  refine⟨⟨b3,by rw[b4];exact b2⟩,by rw[b4],b1,b5,?_⟩
  rcases b6 with b6 | b6
  ·exact Or.inl b6
  ·exact Or.inr b6.2
 rcases gE (S.C f.id.toNat) f.id f with ⟨h1,_⟩ | ⟨_,_,hk,hf,_,_,he,_⟩ | ⟨_,_,_,hs,_,_⟩
 ·exact absurd h0 h1
 ·refine h.setC hi32 _ _ ?_ ?_ ?_ ?_ hsend
  ·rw[he];exact fun e=>⟨e,rfl⟩
  ·intro e;rw[hf] at e;cases e
  ·rw[he]
   intro n hn ht
   have ht:upd (S.C f.id.toNat).told f.node.toNat true n=true:=ht
   show _∧∀d∈((S.B n).ent f.id.toNat).first,d∈gX (S.C f.id.toNat).deps f.deps
   by_cases e:n=f.node.toNat
   ·subst e
    obtain⟨t1,t2⟩:=h.tel f hM hk
    refine⟨t1,fun d hd=>DV (by rw[t2];exact hd) (zQ (h.good _ hn) hi32 d hd)⟩
   ·rw[aQ _ _ e] at ht
    obtain⟨t1,t2⟩:=h.told _ hi32 n hn ht
    exact⟨t1,fun d hd=>GL (t2 d hd) (zQ (h.good _ hn) hi32 d hd)⟩
  ·rw[he]
   intro e
   exact⟨(pI h0).1,e⟩
 ·refine h.setC hi32 _ _ ?_ ?_ ?_ ?_ hsend
  ·exact fun e=>⟨by rw[hs.begun];exact e,hs.ops⟩
  ·exact fun e=>⟨by rw[hs.fixed];exact e,hs.deps⟩
  ·intro n hn ht
   rw[hs.told] at ht
   rw[hs.deps]
   exact h.told _ hi32 n hn ht
  ·intro e
   rw[hs.fixed] at e
   obtain⟨m1,m2⟩:=h.most _ hi32 e
   exact⟨by rw[hs.begun];exact m1,by rw[hs.ops,hs.told];exact m2⟩
theorem fT.again {S:Sys} (h:fT S) {i:Nat} (hi:i<32):fT ⟨S.B,S.C,fun g=>S.M g∨g∈cV (S.C i) (i:Int)⟩:=by
  have e:upd S.C i (S.C i)=S.C:=by
    funext j
    unfold upd
    split
    ·rename_i e;rw[e]
    ·rfl
  have:=h.setC hi (S.C i) (fun g=>g∈cV (S.C i) (i:Int)) (fun e=>⟨e,rfl⟩) (fun e=>⟨e,rfl⟩) (fun n hn ht=>h.told i hi n hn ht) (fun e=>h.most i hi e) (fun g hg=>by
    obtain⟨b1,b2,b3,b4,b5,b6⟩:=oM hg
    refine⟨⟨b3,by rw[b4];exact b2⟩,by rw[b4];omega,b1,b5,?_⟩
    rcases b6 with b6 | b6
    ·exact Or.inl b6
    ·exact Or.inr b6.2)
  rw[e] at this
  exact this
theorem fT.begin {S:Sys} (h:fT S) {i:Nat} (hi:i<32) (hz:S.C i=cA) (ops:List OpL):
  fT ⟨S.B,upd S.C i { cA with begun:=true,ops:=ops },fun g=>S.M g∨g∈cV { cA with begun:=true,ops:=ops } (i:Int)⟩:=by
 refine h.setC hi _ _ (fun e=>?_) (fun e=>?_) (fun n hn ht=>?_) (fun e=>?_) (fun g hg=>?_)
 ·rw[hz] at e;cases e
 ·rw[hz] at e;cases e
 ·cases ht
 ·cases e
 ·obtain⟨b1,b2,b3,b4,b5,b6⟩:=oM hg
  refine⟨⟨b3,by rw[b4];exact b2⟩,by rw[b4];omega,b1,b5,?_⟩
  rcases b6 with b6 | b6
  ·exact Or.inl b6
  ·exact Or.inr b6.2
theorem fT.zero:fT ⟨fun _=>dO,fun _=>cA,fun _=>False⟩:=by
 refine⟨fun _ _=>GE,fun _ h=>h.elim,fun _ h=>h.elim,fun _ h=>h.elim,fun _ h=>h.elim,fun _ h=>h.elim,fun n _ i _ h=>?_,fun n _ i _ h=>?_,fun i _ n _ h=>?_,fun n _ x y _ _ _ h=>?_,fun i _ h=>?_⟩
 ·exact absurd h (show ¬ (1:Int)≤0 by decide)
 ·exact absurd h (show ¬ (2:Int)≤0 by decide)
 ·cases h
 ·exact absurd h (show ¬ (1:Int)≤0 by decide)
 ·cases h
theorem KX (t:Nat→Bool) (sh:Nat):jY t sh=(t (sh*3+0)).toNat+(t (sh*3+1)).toNat+(t (sh*3+2)).toNat:=by
 unfold jY
 rw[show List.range 3=[0,1,2] from rfl]
 simp only[List.filter_cons,List.filter_nil]
 generalize t (sh*3+0)=a
 generalize t (sh*3+1)=b
 generalize t (sh*3+2)=c
 cases a<;>cases b<;>cases c<;>rfl
theorem GS {t u:Nat→Bool} {sh:Nat} (h1:2≤jY t sh) (h2:2≤jY u sh):∃k,k<3∧t (sh*3+k)=true∧u (sh*3+k)=true:=by
 rw[KX] at h1 h2
 by_cases e0:t (sh*3+0)=true∧u (sh*3+0)=true
 ·exact⟨0,by omega,e0⟩
 by_cases e1:t (sh*3+1)=true∧u (sh*3+1)=true
 ·exact⟨1,by omega,e1⟩
 by_cases e2:t (sh*3+2)=true∧u (sh*3+2)=true
 ·exact⟨2,by omega,e2⟩
 exfalso
 generalize t (sh*3+0)=a0 at *
 generalize t (sh*3+1)=a1 at *
 generalize t (sh*3+2)=a2 at *
 generalize u (sh*3+0)=b0 at *
 generalize u (sh*3+1)=b1 at *
 generalize u (sh*3+2)=b2 at *
 cases a0<;>cases a1<;>cases a2<;>cases b0<;>cases b1<;>cases b2<;>simp_all
theorem xQ {ops:List OpL} {t:Nat→Bool} (h:eA ops t=true) {sh:Nat} (hs:sh<2) (ht:bJ ops (sh:Int)=true):2≤jY t sh:=by
 unfold eA at h
 simp only[Bool.and_eq_true,Bool.or_eq_true,Bool.not_eq_true',decide_eq_true_iff] at h
 match sh,hs with
 | 0,_=>
  rcases h.1 with e | e
  ·have ht:bJ ops 0=true:=ht
   rw[e] at ht;cases ht
  ·exact e
 | 1,_=>
  rcases h.2 with e | e
  ·have ht:bJ ops 1=true:=ht
   rw[e] at ht;cases ht
  ·exact e
theorem fT.ahead {S:Sys} (h:fT S) {x y sh:Nat} (hx:x<32) (hy:y<32) (hxy:x≠y) (fx:(S.C x).fixed=true) (fy:(S.C y).fixed=true) (hs:sh<2) (hc:cZ (S.C x).ops (S.C y).ops (sh:Int)=true):
  (y:Int)∈(S.C x).deps∨(x:Int)∈(S.C y).deps:=by
 obtain⟨t1,t2⟩:=tS hc
 obtain⟨k,hk,a,b⟩:=GS (xQ (h.most x hx fx).2 hs t1) (xQ (h.most y hy fy).2 hs t2)
 have hn:sh*3+k<6:=by omega
 obtain⟨a1,a2⟩:=h.told x hx _ hn a
 obtain⟨b1,b2⟩:=h.told y hy _ hn b
 have ho:ofL ((sh*3+k:Nat):Int)=(sh:Int):=by
  rw[LZ]
  split
  ·rename_i e
   have:sh=0:=by omega
   subst this;rfl
  ·rename_i e
   have:sh=1:=by omega
   subst this;rfl
 rcases h.conf _ hn x y hx hy hxy a1 b1 (by rw[ho];exact hc) with e | e
 ·exact Or.inl (a2 _ e)
 ·exact Or.inr (b2 _ e)
def Sys.graph (S:Sys):bG:=⟨fun i=>(S.C i).fixed,fun i=>(S.C i).deps⟩
theorem vB {A A':Nat→Nat→Bool} {P:Nat→Prop} (hs:∀x,P x→∀y,A x y=A' x y) (hc:∀x y,P x→A x y=true→P y) {x y:Nat} (h:cC A x y):P x→cC A' x y:=by
 induction h using cC.ind with
 | refl x=>exact fun _=> .refl x
 | step a h ih=>exact fun hx=> .step (by rw[←hs _ hx];exact a) (ih (hc _ _ hx a))
theorem qA {g g':bG} {P:Nat→Prop} (h32:∀x,P x→x<32) (hs:∀x,P x→∀y,g.adj x y=g'.adj x y) (hc:∀x y,P x→g.adj x y=true→P y) {x:Nat} (hx:P x) (y:Nat):cE g x y=cE g' x y:=by
 rw[Bool.eq_iff_iff,cH g (h32 x hx),cH g' (h32 x hx)]
 exact⟨fun h=>vB hs hc h hx,fun h=>vB (fun x hx y=>(hs x hx y).symm) (fun x y hx a=>hc x y hx (by rw[hs x hx];exact a)) h hx⟩
theorem fT.sorted {S:Sys} (h:fT S) {n:Nat} (hn:n<6) (hS:gT (S.B n)):jQ (cE S.graph) (S.B n).did:=by
 refine hS.sorted.later fun x hx y _=>?_
 refine qA (P:=fun x=>x∈(S.B n).did) hS.sorted.lt (fun x hx y=>?_) (fun x y hx a=>?_) hx y
 ·have hx32:=hS.sorted.lt x hx
  have h3:=(mV (h.good n hn) hx32).1 hx
  obtain⟨e1,e2⟩:=h.ent2 n hn x hx32 (by rw[h3];decide)
  have k:(S.B n).graph.known x=S.graph.known x:=by
   show decide (2≤((S.B n).ent x).state)=(S.C x).fixed
   rw[h3,e1];rfl
  have d:(S.B n).graph.deps x=S.graph.deps x:=e2
  unfold bG.adj
  rw[k,d]
 ·exact hS.sorted.closed x hx y (bG.adj_lt _ x y a) ((cH _ (hS.sorted.lt x hx) y).2 (.one a))
theorem LU {pre post:List Nat} {x y:Nat}:y∈pre↔(pre++x::post).idxOf y<pre.length:=by
 rw[List.idxOf_append]
 split
 ·rename_i h
  exact⟨fun _=>List.idxOf_lt_length_of_mem h,fun _=>h⟩
 ·rename_i h
  exact⟨fun k=>absurd k h,fun k=>by omega⟩
theorem MN {pre post:List Nat} {x:Nat} (h:x ∉ pre):(pre++x::post).idxOf x=pre.length:=by
 rw[List.idxOf_append,if_neg h]
 simp
theorem KL {L:List Nat} (hd:L.Nodup) {x:Nat} (hx:x∈L):∃pre post,L=pre++x::post∧x ∉ pre:=by
 obtain⟨pre,post,e⟩:=List.append_of_mem hx
 refine⟨pre,post,e,fun hp=>?_⟩
 rw[e,List.nodup_append] at hd
 exact hd.2.2 x hp x (by simp) rfl
theorem jQ.place {H:Nat→Nat→Bool} {L:List Nat} (h:jQ H L) {x y:Nat} (hx:x∈L) (hy:y<32) (hxy:x≠y) (hH:H x y=true):L.idxOf y<L.idxOf x↔(H y x=false∨y<x):=by
 obtain⟨pre,post,e,hn⟩:=KL h.nodup hx
 have e1:L.idxOf x=pre.length:=by rw[e];exact MN hn
 have e2:y∈pre↔L.idxOf y<L.idxOf x:=by rw[e1,e];exact LU
 rw[←e2]
 cases hb:H y x
 ·exact⟨fun _=>Or.inl rfl,fun _=>h.behind pre x post e y hy hH hb⟩
 ·rw[h.ring pre x post e y hy hH hb (fun e=>hxy e.symm)]
  exact⟨fun k=>Or.inr k,fun k=>k.resolve_left (by simp)⟩
theorem GJ {L:List Nat} {x y:Nat} (hx:x∈L) (hy:y∈L) (hxy:x≠y):L.idxOf x≠L.idxOf y:=by
 intro e
 have h1:=List.getElem_idxOf (List.idxOf_lt_length_of_mem hx)
 have h2:=List.getElem_idxOf (List.idxOf_lt_length_of_mem hy)
 apply hxy
 rw[←h1,←h2]
 congr 1
theorem jQ.alike {H:Nat→Nat→Bool} {L L':List Nat} (h:jQ H L) (h':jQ H L') {x y:Nat} (hx:x∈L) (hy:y∈L) (hx':x∈L') (hy':y∈L') (hxy:x≠y) (hH:H x y=true∨H y x=true):L.idxOf y<L.idxOf x↔L'.idxOf y<L'.idxOf x:=by
 rcases hH with e | e
 ·rw[h.place hx (h.lt y hy) hxy e,h'.place hx' (h.lt y hy) hxy e]
 ·have a:=h.place hy (h.lt x hx) (Ne.symm hxy) e
  have b:=h'.place hy' (h.lt x hx) (Ne.symm hxy) e
  have n1:=GJ hx hy hxy
  have n2:=GJ hx' hy' hxy
  have:L.idxOf x<L.idxOf y↔L'.idxOf x<L'.idxOf y:=by rw[a,b]
  omega
theorem zZ {g:bG} {x y:Nat} (hx:x<32) (hy:y<32) (hk:g.known x=true) (hd:(y:Int)∈g.deps x):cE g x y=true:=by
 rw[cH g hx]
 refine .one ?_
 unfold bG.adj
 simp[hx,hy,hk,hd]
theorem fT.hang {S:Sys} (h:fT S) {x y sh:Nat} (hx:x<32) (hy:y<32) (hxy:x≠y) (fx:(S.C x).fixed=true) (fy:(S.C y).fixed=true) (hs:sh<2) (hc:cZ (S.C x).ops (S.C y).ops (sh:Int)=true):cE S.graph x y=true∨cE S.graph y x=true:=by
 rcases h.ahead hx hy hxy fx fy hs hc with e | e
 ·exact Or.inl (zZ hx hy fx e)
 ·exact Or.inr (zZ hy hx fy e)
theorem fT.did_fixed {S:Sys} (h:fT S) {n:Nat} (hn:n<6) {x:Nat} (hx:x<32) (hd:x∈(S.B n).did):(S.C x).fixed=true:=
 (h.ent2 n hn x hx (by rw[(mV (h.good n hn) hx).1 hd];decide)).1
theorem fT.same {S:Sys} (h:fT S) {n m:Nat} (hn:n<6) (hm:m<6) (sn:gT (S.B n)) (sm:gT (S.B m)) {x y sh:Nat} (hxy:x≠y) (hs:sh<2) (hc:cZ (S.C x).ops (S.C y).ops (sh:Int)=true)
  (xn:x∈(S.B n).did) (yn:y∈(S.B n).did) (xm:x∈(S.B m).did) (ym:y∈(S.B m).did):(S.B n).did.idxOf y<(S.B n).did.idxOf x↔(S.B m).did.idxOf y<(S.B m).did.idxOf x:=by
 have hx:=sn.sorted.lt x xn
 have hy:=sn.sorted.lt y yn
 exact (h.sorted hn sn).alike (h.sorted hm sm) xn yn xm ym hxy (h.hang hx hy hxy (h.did_fixed hn hx xn) (h.did_fixed hn hy yn) hs hc)
theorem vC {L M:List Nat} {x y:Nat} (hx:x∈L) (hy:y∈L):(L++M).idxOf y<(L++M).idxOf x↔L.idxOf y<L.idxOf x:=by
 rw[List.idxOf_append,List.idxOf_append,if_pos hx,if_pos hy]
def after (sh:Int) (ops:Nat→List OpL):List Nat→(Nat→Int)→(Nat→Int)
 | [],v=>v
 | x::l,v=>after sh ops l (cS sh 0 (ops x) v).1
theorem q7 (sh:Int) (ops:Nat→List OpL):∀(l m:List Nat) (v:Nat→Int),after sh ops (l++m) v=after sh ops m (after sh ops l v)
 | [],_,_=>rfl
 | x::l,m,v=>q7 sh ops l m (cS sh 0 (ops x) v).1
theorem pA (sh:Int) {ops ops':Nat→List OpL}:∀(l:List Nat) (v:Nat→Int),(∀x∈l,ops x=ops' x)→after sh ops l v=after sh ops' l v
 | [],_,_=>rfl
 | x::l,v,h=>by
  show after sh ops l (cS sh 0 (ops x) v).1=after sh ops' l (cS sh 0 (ops' x) v).1
  rw[h x (by simp),pA sh l _ fun y hy=>h y (by simp[hy])]
structure jS (sh:Int) (s:aB):Prop where
 all:s.vals=after sh (fun x=>(s.ent x).ops) s.did fun _=>0
 each:∀pre x post,s.did=pre++x::post→(s.ent x).ats=(cS sh 0 (s.ent x).ops (after sh (fun x=>(s.ent x).ops) pre fun _=>0)).2.1∧(s.ent x).vals=(cS sh 0 (s.ent x).ops (after sh (fun x=>(s.ent x).ops) pre fun _=>0)).2.2
theorem K9 (sh:Int):jS sh dO:=⟨rfl,by intro pre x post e;simp[dO,aB.did] at e⟩
theorem jS.same {sh:Int} {s t:aB} (V:jS sh s) (hd:t.did=s.did) (hv:t.vals=s.vals) (he:∀x∈s.did,t.ent x=s.ent x):jS sh t:=by
 refine⟨?_,fun pre x post e=>?_⟩
 ·rw[hv,hd,V.all]
  exact pA sh _ _ fun x hx=>by rw[he x hx]
 ·rw[hd] at e
  have hx:x∈s.did:=by rw[e];simp
  rw[he x hx]
  have:after sh (fun x=>(t.ent x).ops) pre (fun _=>0)=after sh (fun x=>(s.ent x).ops) pre (fun _=>0):=pA sh _ _ fun y hy=>by rw[he y (by rw[e];simp[hy])]
  rw[this]
  exact V.each pre x post e
theorem K7 {sh:Int} {s:aB} (h:bT s) (V:jS sh s) {n:Nat} (hn:n<32) (hs:(s.ent n).state=2):jS sh (s.exec sh n):=by
 have ops:(fun x=>((s.exec sh n).ent x).ops)=fun x=>(s.ent x).ops:=by
  funext x
  exact congrArg Prod.fst (xG s sh hs x)
 have did:(s.exec sh n).did=s.did++[n]:=by unfold aB.did aB.exec;simp
 have no:n ∉ s.did:=fun e=>by
  have:=(mV h hn).1 e
  omega
 have same:(s.exec sh n).ent n=⟨3,(s.ent n).ops,(s.ent n).first,(s.ent n).deps,(cS sh 0 (s.ent n).ops s.vals).2.1,(cS sh 0 (s.ent n).ops s.vals).2.2⟩:=aT _ _ _
 refine⟨?_,fun pre x post e=>?_⟩
 ·rw[ops,did,q7]
  show (cS sh 0 (s.ent n).ops s.vals).1=(cS sh 0 (s.ent n).ops (after sh (fun x=>(s.ent x).ops) s.did fun _=>0)).1
  rw[←V.all]
 ·rw[ops]
  rw[did] at e
  rw[List.append_eq_append_iff] at e
  have last:∀p q,[n]=p++x::q→s.did++p=pre→((s.exec sh n).ent x).ats=(cS sh 0 ((s.exec sh n).ent x).ops (after sh (fun x=>(s.ent x).ops) pre fun _=>0)).2.1∧((s.exec sh n).ent x).vals=(cS sh 0 ((s.exec sh n).ent x).ops (after sh (fun x=>(s.ent x).ops) pre fun _=>0)).2.2:=by
   intro p q e1 e2
   cases p with
   | nil=>
    simp at e1 e2
    obtain⟨rfl,_⟩:=e1
    rw[same,←e2,←V.all]
    exact⟨rfl,rfl⟩
   | cons a p=>simp at e1
  rcases e with ⟨qs,e1,e2⟩ | ⟨bs,e1,e2⟩
  ·exact last qs post e2 e1.symm
  ·cases bs with
   | nil=>exact last [] post (by simpa using e2.symm) (by simpa using e1)
   | cons b bs=>
    simp only[List.cons_append,List.cons.injEq] at e2
    obtain⟨rfl,_⟩:=e2
    have hx:x∈s.did:=by rw[e1];simp
    have:(s.exec sh n).ent x=s.ent x:=aQ _ _ (fun e=>no (e ▸ hx))
    rw[this]
    exact V.each pre x bs e1
theorem yG (sh:Int):∀(l:List Nat) {s:aB},(∀x∈l,x<32)→bT s→jS sh s→jS sh (s.execs sh l)
 | [],_,_,_,V=>V
 | a::l,s,hl,h,V=>by
  have h1:bT (aB.execIf sh s a)∧jS sh (aB.execIf sh s a):=by
   unfold aB.execIf
   split
   ·rename_i e;exact⟨xK h sh (hl a (by simp)) e,K7 h V (hl a (by simp)) e⟩
   ·exact⟨h,V⟩
  exact yG (s:=aB.execIf sh s a) sh l (fun x hx=>hl x (by simp[hx])) h1.1 h1.2
theorem FC {sh:Int} {s:aB} (h:bT s) (V:jS sh s):jS sh (s.settle sh):=by
 have:∀(l:List Nat) (t:aB),bT t→jS sh t→jS sh (l.foldl (aB.round s.graph sh) t):=by
  intro l
  induction l with
  | nil=>exact fun t _ ht=>ht
  | cons a l ih=>
   intro t ht hv
   have h1:bT (aB.round s.graph sh t a)∧jS sh (aB.round s.graph sh t a):=by
    unfold aB.round
    split
    ·exact⟨lJ (s:=t) sh _ (kP _ _) ht,yG (s:=t) sh _ (kP _ _) ht hv⟩
    ·exact⟨ht,hv⟩
   exact ih _ h1.1 h1.2
 exact this _ s h V
theorem K8 {s:aB} {who:Int} {f:aD} (V:jS (ofL who) s):jS (ofL who) (aO s who f).1:=by
 rcases dN s who f with ⟨_,h1,_⟩ | ⟨hg,hf,_,_,_,_,⟨hk,_,e⟩ | ⟨hk,e⟩⟩
 ·rw[h1];exact V
 ·rw[e]
  obtain⟨i1,i2,_⟩:=kA hf
  show jS _ (s.asked (ofL who) f)
  unfold aB.asked
  split
  ·rename_i h0
   refine V.same rfl rfl fun x hx=>fC s _ f fun e=>?_
   subst e
   have:=(mV hg (by omega)).1 hx
   omega
  ·exact V
 ·rw[e]
  obtain⟨i1,i2,_⟩:=kA hf
  show jS _ (s.commit (ofL who) f)
  unfold aB.commit
  split
  ·rename_i h0
   refine FC (lO hg _ hf hk h0) (V.same rfl rfl fun x hx=>aQ _ _ fun e=>?_)
   subst e
   have:=(mV hg (by omega)).1 hx
   omega
  ·exact V
def uK (a:Int):Prop:= -1099511627776≤a∧a≤1099511627776
theorem FU (v kind n:Int):uK (doL v kind n):=by
 unfold doL
 split
 ·exact⟨sL _,sK _⟩
 ·split<;>exact⟨sL _,sK _⟩
theorem BR {g:bG} {n:Nat} (hn:n<32):eF g (n:Int)=if jV g (n:Int)=true then dV (cE g) (cE g n) 32 else []:=by
 cases hr:jV g (n:Int)
 ·rw[if_neg (by simp)]
  unfold eF
  rw[hr]
  rfl
 ·rw[if_pos rfl,←vI g hn]
  unfold eF
  rw[hr]
  rfl
structure fO (S:Sys) (a b:Nat):Prop where
 fixed:∀d,d<32→cE S.graph b d=true→(S.C d).fixed=true∧d≠a
 begun:(S.C a).begun=true
 first:∀n,n<6→(S.C b).told n=true→1≤((S.B n).ent a).state→cZ (S.C a).ops (S.C b).ops (ofL n)=true→(b:Int)∈((S.B n).ent a).first
theorem fO.self {S:Sys} {a b:Nat} (hb:b<32) (h:fO S a b):(S.C b).fixed=true∧b≠a:=h.fixed b hb ((cH _ hb b).2 (.refl b))
theorem fO.new {S:Sys} {a b:Nat} (hI:fT S) (ha:a<32) (hz:(S.C a).begun=false) {m:Nat} (hm:m<6) (sm:gT (S.B m)) (hd:b∈(S.B m).did) (c:aG) (hc:c.begun=true) (N:aD→Prop):
  fO ⟨S.B,upd S.C a c,N⟩ a b:=by
 have hD:=hI.sorted hm sm
 have hb:=hD.lt b hd
 have na:∀d,d<32→(S.C d).fixed=true→d≠a:=fun d hd32 hf e=>by
  subst e
  rw[(hI.most d hd32 hf).1] at hz;cases hz
 have fixedD:∀d∈(S.B m).did,(S.C d).fixed=true:=fun d hdd=>hI.did_fixed hm (hD.lt d hdd) hdd
 have same:∀d,cE S.graph b d=cE (Sys.graph ⟨S.B,upd S.C a c,N⟩) b d:=by
  intro d
  refine qA (P:=fun x=>x∈(S.B m).did) hD.lt (fun x hx y=>?_) (fun x y hx e=>hD.closed x hx y (bG.adj_lt _ x y e) ((cH _ (hD.lt x hx) y).2 (.one e))) hd d
  have hne:=na x (hD.lt x hx) (fixedD x hx)
  have e:upd S.C a c x=S.C x:=aQ _ _ hne
  unfold bG.adj Sys.graph
  simp only[e]
 refine⟨fun d hd32 hbd=>?_,by show (upd S.C a c a).begun=true;rw[aT];exact hc,fun n hn _ h1 _=>?_⟩
 ·rw[←same] at hbd
  have hdd:=hD.closed b hd d hd32 hbd
  have hne:=na d hd32 (fixedD d hdd)
  refine⟨?_,hne⟩
  show (upd S.C a c d).fixed=true
  rw[aQ _ _ hne]
  exact fixedD d hdd
 ·exfalso
  have:=(hI.ent1 n hn a ha h1).1
  rw[hz] at this;cases this
theorem fO.later {S T:Sys} {a b:Nat} (hI:fT S) (ha:a<32) (hb:b<32) (h:fO S a b)
  (hf:∀d,d<32→(S.C d).fixed=true→(T.C d).fixed=true∧(T.C d).deps=(S.C d).deps∧(T.C d).told=(S.C d).told)
  (hbg:∀d,d<32→(S.C d).begun=true→(T.C d).begun=true∧(T.C d).ops=(S.C d).ops)
  (hB:∀n,n<6→1≤((S.B n).ent a).state→((T.B n).ent a).first=((S.B n).ent a).first)
  (hN:∀n,n<6→((S.B n).ent a).state<1→1≤((T.B n).ent a).state→1≤((S.B n).ent b).state→cZ (S.C b).ops (S.C a).ops (ofL n)=true→(b:Int)∈((T.B n).ent a).first):fO T a b:=by
 obtain⟨fb,hne⟩:=h.self hb
 have same:∀d,cE S.graph b d=cE T.graph b d:=by
  intro d
  refine qA (P:=fun x=>x<32∧cE S.graph b x=true) (fun x hx=>hx.1) (fun x hx y=>?_) (fun x y hx e=>?_) ⟨hb,(cH _ hb b).2 (.refl b)⟩ d
  ·obtain⟨fx,_⟩:=h.fixed x hx.1 hx.2
   obtain⟨e1,e2,_⟩:=hf x hx.1 fx
   unfold bG.adj Sys.graph
   simp only[fx,e1,e2]
  ·have hy:=bG.adj_lt _ x y e
   exact⟨hy,(cH _ hb y).2 (((cH _ hb x).1 hx.2).trans (.one e))⟩
 have opsa:=(hbg a ha h.begun)
 have opsb:=(hbg b hb (hI.most b hb fb).1)
 refine⟨fun d hd hbd=>?_,opsa.1,fun n hn ht h1 hc=>?_⟩
 ·rw[←same] at hbd
  obtain⟨fd,hda⟩:=h.fixed d hd hbd
  exact⟨(hf d hd fd).1,hda⟩
 ·rw[(hf b hb fb).2.2] at ht
  rw[opsa.2,opsb.2] at hc
  by_cases h0:1≤((S.B n).ent a).state
  ·rw[hB n hn h0]
   exact h.first n hn ht h0 hc
  ·exact hN n hn (by omega) h1 (hI.told b hb n hn ht).1 (by rw[nK];exact hc)
theorem xF (sh:Int):∀(l:List (Int × Int)) (c:aG) (k:Nat),(c.dones sh l).has k=true→c.has k=true∨∃p∈l,p.1.toNat=k∧(c.dones sh l).vals k=p.2
 | [],_,_,h=>Or.inl h
 | p::l,c,k,h=>by
  have e:c.dones sh (p::l)=(aG.done1 sh c p).dones sh l:=rfl
  rw[e] at h ⊢
  rcases xF sh l (aG.done1 sh c p) k h with h1 | ⟨q,hq,h1,h2⟩
  ·by_cases hc:c.has k=true
   ·exact Or.inl hc
   ·right
    refine⟨p,by simp,?_⟩
    have kv:=((pB sh l (aG.done1 sh c p)).2 k h1).2
    rw[kv]
    unfold aG.done1 at h1 ⊢
    split at h1
    ·rename_i hp
     rw[if_pos hp]
     have h1:upd c.has p.1.toNat true k=true:=h1
     by_cases ek:k=p.1.toNat
     ·refine⟨ek.symm,?_⟩
      show upd c.vals p.1.toNat p.2 k=p.2
      rw[ek,aT]
     ·rw[aQ _ _ ek] at h1
      exact absurd h1 hc
    ·exact absurd h1 hc
  ·exact Or.inr ⟨q,by simp[hq],h1,h2⟩
theorem zE:∀(l:Int) (n:Nat) (zs:List Int),dQ l n zs=true→∀z∈zs,l<z
 | _,_,[],_=>by simp
 | l,n,k::r,h=>by
  unfold dQ at h
  simp only[Bool.and_eq_true,decide_eq_true_iff] at h
  intro z hz
  rcases List.mem_cons.1 hz with e | e
  ·rw[e];exact h.1.1
  ·have:=zE k n r h.2 z e
   omega
theorem IK {c:aG} {id:Int} {f:aD} {k:Nat} (h:(aR c id f).1.has k=true):c.has k=true∨(f.kind=5∧∃p∈f.ats.zip f.vals,p.1.toNat=k∧(aR c id f).1.vals k=p.2):=by
 unfold aR at *
 split
 ·rename_i h1;rw[if_pos h1] at h;exact Or.inl h
 ·rename_i h1
  rw[if_neg h1] at h
  split
  ·rename_i h2;rw[if_pos h2] at h;exact Or.inl h
  ·rename_i h2
   rw[if_neg h2] at h
   split
   ·rename_i h3;rw[if_pos h3] at h;exact Or.inl h
   ·rename_i h3
    rw[if_neg h3] at h
    split
    ·rename_i h4
     rw[if_pos h4] at h
     split at h<;>exact Or.inl h
    ·rename_i h4
     rw[if_neg h4] at h
     split
     ·rename_i h5;rw[if_pos h5] at h;exact Or.inl h
     ·rename_i h5
      rw[if_neg h5] at h
      split
      ·rename_i h6;rw[if_pos h6] at h;exact Or.inl h
      ·rename_i h6
       rw[if_neg h6] at h
       have hk:f.kind=5:=by
        have hg:aN f=0:=by
         by_cases e:aN f=0
         ·exact e
         ·exact absurd e h2
        unfold aN at hg
        split at hg
        ·exact absurd hg (by decide)
        ·rename_i hk
         omega
       rcases xF (ofL f.node) _ c k h with e | e
       ·exact Or.inl e
       ·exact Or.inr ⟨hk,e⟩
structure gA (S:Sys):Prop where
 s:fT S
 sort:∀n,n<6→gT (S.B n)
 val:∀n:Nat,n<6→jS (ofL (n:Int)) (S.B n)
 state:∀n,n<6→∀j,0≤((S.B n).ent j).state
 case:∀i,i<32→(S.C i).begun=true→nX (S.C i).ops (S.C i)
 zero:∀i,i<32→(S.C i).begun=false→S.C i=cA
 has:∀i,i<32→∀k,(S.C i).has k=true→∃m,m<6∧((S.B m).ent i).state=3∧((k:Int),(S.C i).vals k)∈((S.B m).ent i).ats.zip ((S.B m).ent i).vals
theorem gA.start:gA ⟨fun _=>dO,fun _=>cA,fun _=>False⟩:=
 ⟨fT.zero,fun _ _=>II,fun _ _=>K9 _,fun _ _ _=>Int.le_refl _,fun i _ h=>(by cases h),fun _ _ _=>rfl,fun i _ k h=>(by cases h)⟩
theorem gA.node {S:Sys} (h:gA S) {f:aD} (hM:S.M f) (hk:f.kind=1∨f.kind=3) (h0:(aO (S.B f.node.toNat) f.node f).2.2=0):
  gA ⟨upd S.B f.node.toNat (aO (S.B f.node.toNat) f.node f).1,S.C,fun g=>S.M g∨g∈(aO (S.B f.node.toNat) f.node f).2.1⟩:=by
 obtain⟨hr1,hr2⟩:=h.s.rng f hM
 have hn6:f.node.toNat<6:=by omega
 have hnat:(f.node.toNat:Int)=f.node:=by omega
 have K:=mR (S.B f.node.toNat) f.node f (h.state _ hn6)
 refine⟨h.s.node hM hk h0,fun n hn=>?_,fun n hn=>?_,fun n hn j=>?_,h.case,h.zero,fun i hi k hh=>?_⟩
 ·show gT (upd S.B f.node.toNat _ n)
  by_cases e:n=f.node.toNat
  ·rw[e,aT];exact IP (h.sort _ hn6)
  ·rw[aQ _ _ e];exact h.sort n hn
 ·show jS (ofL (n:Int)) (upd S.B f.node.toNat _ n)
  by_cases e:n=f.node.toNat
  ·rw[e,aT,hnat]
   have:=h.val _ hn6
   rw[hnat] at this
   exact K8 this
  ·rw[aQ _ _ e];exact h.val n hn
 ·show 0≤((upd S.B f.node.toNat _ n).ent j).state
  by_cases e:n=f.node.toNat
  ·rw[e,aT]
   exact Int.le_trans (h.state _ hn6 j) (K.state j)
  ·rw[aQ _ _ e];exact h.state n hn j
 ·obtain⟨m,hm,h3,hz⟩:=h.has i hi k hh
  refine⟨m,hm,?_⟩
  show ((upd S.B f.node.toNat (aO (S.B f.node.toNat) f.node f).1 m).ent i).state=3∧_∈((upd S.B f.node.toNat (aO (S.B f.node.toNat) f.node f).1 m).ent i).ats.zip ((upd S.B f.node.toNat (aO (S.B f.node.toNat) f.node f).1 m).ent i).vals
  by_cases e:m=f.node.toNat
  ·subst e
   rw[aT]
   have same:=K.done i h3
   rw[same]
   exact⟨h3,hz⟩
  ·rw[aQ _ _ e]
   exact⟨h3,hz⟩
theorem fA (C:Nat→aG) (i:Nat) (c:aG):∀j,(j=i∧upd C i c j=c)∨(j≠i∧upd C i c j=C j):=by
 intro j
 by_cases e:j=i
 ·exact Or.inl ⟨e,by rw[e,aT]⟩
 ·exact Or.inr ⟨e,aQ _ _ e⟩
theorem gA.answer {S:Sys} (h:gA S) {f:aD} (hM:S.M f) (h0:(aR (S.C f.id.toNat) f.id f).2.2=0):
  gA ⟨S.B,upd S.C f.id.toNat (aR (S.C f.id.toNat) f.id f).1,fun g=>S.M g∨g∈(aR (S.C f.id.toNat) f.id f).2.1⟩:=by
 obtain⟨hr1,hr2⟩:=h.s.rng f hM
 have hi32:f.id.toNat<32:=by omega
 have hn6:f.node.toNat<6:=by omega
 obtain⟨hb,_⟩:=pI h0
 obtain⟨rs,kv⟩:=AO (id:=f.id) (f:=f) (h.case _ hi32 hb)
 refine⟨h.s.case hM h0,h.sort,h.val,h.state,fun i hi e=>?_,fun i hi e=>?_,fun i hi k hh=>?_⟩
 ·have e:(upd S.C f.id.toNat (aR (S.C f.id.toNat) f.id f).1 i).begun=true:=e
  show nX (upd S.C f.id.toNat (aR (S.C f.id.toNat) f.id f).1 i).ops (upd S.C f.id.toNat (aR (S.C f.id.toNat) f.id f).1 i)
  rcases fA S.C f.id.toNat (aR (S.C f.id.toNat) f.id f).1 i with ⟨_,e2⟩ | ⟨_,e2⟩
  ·rw[e2,rs.eops];exact rs
  ·rw[e2] at e ⊢;exact h.case i hi e
 ·have e:(upd S.C f.id.toNat (aR (S.C f.id.toNat) f.id f).1 i).begun=false:=e
  show upd S.C f.id.toNat (aR (S.C f.id.toNat) f.id f).1 i=cA
  rcases fA S.C f.id.toNat (aR (S.C f.id.toNat) f.id f).1 i with ⟨_,e2⟩ | ⟨_,e2⟩
  ·rw[e2,rs.begun] at e;cases e
  ·rw[e2] at e ⊢;exact h.zero i hi e
 ·have hh:(upd S.C f.id.toNat (aR (S.C f.id.toNat) f.id f).1 i).has k=true:=hh
  show ∃m,m<6∧((S.B m).ent i).state=3∧((k:Int),(upd S.C f.id.toNat (aR (S.C f.id.toNat) f.id f).1 i).vals k)∈((S.B m).ent i).ats.zip ((S.B m).ent i).vals
  rcases fA S.C f.id.toNat (aR (S.C f.id.toNat) f.id f).1 i with ⟨e1,e2⟩ | ⟨_,e2⟩
  ·rw[e2] at hh ⊢
   clear e2
   subst e1
   rename (aR (S.C f.id.toNat) f.id f).1.has k=true=>hh2
   rcases IK hh2 with e | ⟨hk,p,hp,h1,h2⟩
   ·rw[(kv k e).2]
    exact h.has _ hi32 k e
   ·obtain⟨d1,d2,d3⟩:=h.s.don f hM hk
    refine⟨f.node.toNat,hn6,d1,?_⟩
    rw[←d2,←d3,h2]
    have F:=(h.s.good _ hn6).fine hi32 (by rw[d1];decide)
    have hz:p.1∈f.ats:=(List.of_mem_zip (a:=p.1) (b:=p.2) hp).1
    rw[d2] at hz
    have:=zE _ _ _ F.ats _ hz
    have e:(k:Int)=p.1:=by omega
    rw[e]
    exact hp
  ·rw[e2] at hh ⊢;exact h.has i hi k hh
theorem gA.again {S:Sys} (h:gA S) {i:Nat} (hi:i<32):gA ⟨S.B,S.C,fun g=>S.M g∨g∈cV (S.C i) (i:Int)⟩:=
 ⟨h.s.again hi,h.sort,h.val,h.state,h.case,h.zero,h.has⟩
theorem gA.begin {S:Sys} (h:gA S) {i:Nat} (hi:i<32) (hb:(S.C i).begun=false) {ops:List OpL} (h0:(bL (i:Int) ops).2.2=0):
  gA ⟨S.B,upd S.C i (bL (i:Int) ops).1,fun g=>S.M g∨g∈(bL (i:Int) ops).2.1⟩:=by
 have rs:=xY h0
 have hz:=h.zero i hi hb
 have e:bL (i:Int) ops=({ cA with begun:=true,ops:=ops },cV { cA with begun:=true,ops:=ops } (i:Int),0):=by
  unfold bL at *
  split at h0
  ·exact absurd h0 (show (2:Int)≠0 by decide)
  ·rename_i h1
   rw[if_neg h1]
   split at h0
   ·exact absurd h0 (show (1:Int)≠0 by decide)
   ·rename_i h2
    rw[if_neg h2]
 rw[e] at rs ⊢
 refine⟨h.s.begin hi hz ops,h.sort,h.val,h.state,fun j hj eb=>?_,fun j hj eb=>?_,fun j hj k hh=>?_⟩
 ·have eb:(upd S.C i { cA with begun:=true,ops:=ops } j).begun=true:=eb
  show nX (upd S.C i { cA with begun:=true,ops:=ops } j).ops (upd S.C i { cA with begun:=true,ops:=ops } j)
  rcases fA S.C i { cA with begun:=true,ops:=ops } j with ⟨_,e2⟩ | ⟨_,e2⟩
  ·rw[e2];exact rs
  ·rw[e2] at eb ⊢;exact h.case j hj eb
 ·have eb:(upd S.C i { cA with begun:=true,ops:=ops } j).begun=false:=eb
  show upd S.C i { cA with begun:=true,ops:=ops } j=cA
  rcases fA S.C i { cA with begun:=true,ops:=ops } j with ⟨_,e2⟩ | ⟨_,e2⟩
  ·rw[e2] at eb;cases eb
  ·rw[e2] at eb ⊢;exact h.zero j hj eb
 ·have hh:(upd S.C i { cA with begun:=true,ops:=ops } j).has k=true:=hh
  show ∃m,m<6∧((S.B m).ent j).state=3∧((k:Int),(upd S.C i { cA with begun:=true,ops:=ops } j).vals k)∈((S.B m).ent j).ats.zip ((S.B m).ent j).vals
  rcases fA S.C i { cA with begun:=true,ops:=ops } j with ⟨_,e2⟩ | ⟨_,e2⟩
  ·rw[e2] at hh;cases hh
  ·rw[e2] at hh ⊢;exact h.has j hj k hh
end Go.Proofs.YtkoefoccbjhoiacGreat
