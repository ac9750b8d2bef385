/-
squeezed by tools/squeeze.py from: CluS CluT CluU CluV CluW CluX CluY CluZ CluG CluE CluH CluI Wpl Wpl2
-/
import Derived.Test.YtkoefoccbjhoiadGreatTmem4
import Derived.Test.YtkoefoccbjhoiadGreatTmem1
set_option linter.unusedVariables false
set_option linter.unusedSimpArgs false
set_option maxRecDepth 100000
set_option maxHeartbeats 16000000
namespace Go.Proofs.YtkoefoccbjhoiadGreat
open Go.RowKit
structure Sys where
 B:Nat→aA
 C:Nat→aE
 M:aD→Prop
def sF (f:aD):Prop:=(0≤f.node∧f.node<6)∧0≤f.id∧f.id<32
structure iL (S:Sys):Prop where
 good:∀n,n<6→bQ (S.B n)
 rng:∀f,S.M f→sF f
 ask:∀f,S.M f→f.kind=1→(S.C f.id.toNat).begun=true∧f.ops=(S.C f.id.toNat).ops
 com:∀f,S.M f→f.kind=3→((S.C f.id.toNat).begun=true∧(S.C f.id.toNat).fixed=true)∧f.ops=(S.C f.id.toNat).ops∧f.deps=(S.C f.id.toNat).deps
 tel:∀f,S.M f→f.kind=2→1≤((S.B f.node.toNat).ent f.id.toNat).state∧f.deps=((S.B f.node.toNat).ent f.id.toNat).first
 don:∀f,S.M f→f.kind=5→((S.B f.node.toNat).ent f.id.toNat).state=3∧f.ats=((S.B f.node.toNat).ent f.id.toNat).ats∧f.vals=((S.B f.node.toNat).ent f.id.toNat).vals
 ent1:∀n,n<6→∀i,i<32→1≤((S.B n).ent i).state→(S.C i).begun=true∧((S.B n).ent i).ops=(S.C i).ops
 ent2:∀n,n<6→∀i,i<32→2≤((S.B n).ent i).state→(S.C i).fixed=true∧((S.B n).ent i).deps=(S.C i).deps
 told:∀i,i<32→∀n,n<6→(S.C i).told n=true→1≤((S.B n).ent i).state∧∀d∈((S.B n).ent i).first,d∈(S.C i).deps
 conf:∀n,n<6→∀x y,x<32→y<32→x≠y→1≤((S.B n).ent x).state→1≤((S.B n).ent y).state→eA (S.C x).ops (S.C y).ops (ofL n)=true→(y:Int)∈((S.B n).ent x).first∨(x:Int)∈((S.B n).ent y).first
 most:∀i,i<32→(S.C i).fixed=true→(S.C i).begun=true∧eG (S.C i).ops (S.C i).told=true
theorem pW {a b:List Int} {x:Nat}:(x:Int)∈gX a b↔x<32∧((x:Int)∈a∨(x:Int)∈b):=by
 unfold gX cK
 simp
 constructor
 ·rintro⟨y,⟨h1,h2⟩,e⟩
  obtain rfl:y=x:=by omega
  exact⟨h1,h2⟩
 ·rintro⟨h1,h2⟩
  exact⟨x,⟨h1,h2⟩,rfl⟩
theorem GA {a b:List Int} {d:Int} (h:d∈a) (h0:0≤d∧d<32):d∈gX a b:=by
 obtain⟨x,rfl⟩:=Int.eq_ofNat_of_zero_le h0.1
 exact pW.2 ⟨by omega,Or.inl h⟩
theorem DN {a b:List Int} {d:Int} (h:d∈b) (h0:0≤d∧d<32):d∈gX a b:=by
 obtain⟨x,rfl⟩:=Int.eq_ofNat_of_zero_le h0.1
 exact pW.2 ⟨by omega,Or.inr h⟩
theorem zI {s:aA} (h:bQ s) {i:Nat} (hi:i<32):∀d∈(s.ent i).first,0≤d∧d<32:=by
 intro d hd
 rcases h.ent i hi with e | F
 ·rw[e] at hd;simp[kD] at hd
 ·have:=(rT _ _ F.first.1).1 d hd
  omega
theorem iL.node {S:Sys} (h:iL S) {f:aD} (hM:S.M f) (hk:f.kind=1∨f.kind=3) (h0:(aJ (S.B f.node.toNat) f.node f).2.2=0):
  iL ⟨upd S.B f.node.toNat (aJ (S.B f.node.toNat) f.node f).1,S.C,fun g=>S.M g∨g∈(aJ (S.B f.node.toNat) f.node f).2.1⟩:=by
 obtain⟨hr1,hr2⟩:=h.rng f hM
 have hn6:f.node.toNat<6:=by omega
 have hi32:f.id.toNat<32:=by omega
 have hnat:(f.node.toNat:Int)=f.node:=by omega
 have hG:=h.good _ hn6
 obtain⟨s,hs⟩:=zNm (S.B f.node.toNat)
 obtain⟨T,hT⟩:=zNm (aJ (S.B f.node.toNat) f.node f)
 rw[←hT] at h0 ⊢
 have hT':T=aJ s f.node f:=by rw[hs];exact hT
 rw[←hs] at hG
 have h00:(aJ s f.node f).2.2=0:=by rw[←hT'];exact h0
 have hst0:∀i,i<32→0≤(s.ent i).state:=fun i hi=>(hG.state hi).1
 have hG':bQ T.1:=by rw[hT'];exact xT h00
 have hops:f.ops=(S.C f.id.toNat).ops∧(S.C f.id.toNat).begun=true:=by
  rcases hk with e | e
  ·exact⟨(h.ask f hM e).2,(h.ask f hM e).1⟩
  ·exact⟨(h.com f hM e).2.1,(h.com f hM e).1.1⟩
 have other:∀i,i≠f.id.toNat→fM (T.1.ent i)=fM (s.ent i):=fun i hi=>by rw[hT'];exact mQ hi
 have mine:((s.ent f.id.toNat).state=0→(T.1.ent f.id.toNat).first=s.ahead f.id.toNat f.ops (ofL f.node))∧((s.ent f.id.toNat).state≠0→(T.1.ent f.id.toNat).first=(s.ent f.id.toNat).first)∧
   (T.1.ent f.id.toNat).ops=(S.C f.id.toNat).ops∧1≤(T.1.ent f.id.toNat).state∧(2≤(T.1.ent f.id.toNat).state→(S.C f.id.toNat).fixed=true∧(T.1.ent f.id.toNat).deps=(S.C f.id.toNat).deps):=by
  have hold1:(s.ent f.id.toNat).state≠0→(s.ent f.id.toNat).ops=(S.C f.id.toNat).ops:=fun e=>by
   have:=h.ent1 _ hn6 _ hi32 (by rw[←hs];have:=hst0 _ hi32;omega)
   rw[←hs] at this
   exact this.2
  have hold2:2≤(s.ent f.id.toNat).state→(S.C f.id.toNat).fixed=true∧(s.ent f.id.toNat).deps=(S.C f.id.toNat).deps:=fun e=>by
   have:=h.ent2 _ hn6 _ hi32 (by rw[←hs];exact e)
   rw[←hs] at this
   exact this
  rcases hk with hk | hk
  ·have e:=nO h00 hk
   rw[←hT'] at e
   by_cases z:(s.ent f.id.toNat).state=0
   ·rw[if_pos z] at e
    rw[e]
    exact⟨fun _=>rfl,fun c=>absurd z c,hops.1,by simp,fun c=>absurd c (by simp)⟩
   ·rw[if_neg z] at e
    rw[e]
    exact⟨fun c=>absurd c z,fun _=>rfl,hold1 z,by have:=hst0 _ hi32;omega,hold2⟩
  ·have e:=lY h00 hk
   rw[←hT'] at e
   by_cases l:(s.ent f.id.toNat).state<2
   ·rw[if_pos l] at e
    obtain⟨e1,e2,e3,e4,e5⟩:=C5 e
    refine⟨fun z=>by rw[e2,if_pos z],fun z=>by rw[e2,if_neg z],by rw[e1];exact hops.1,of_decide_eq_true e4,fun _=>⟨(h.com f hM hk).1.2,by rw[e3];exact (h.com f hM hk).2.2⟩⟩
   ·rw[if_neg l] at e
    obtain⟨e1,e2,e3,e4,e5⟩:=l8 e
    exact⟨fun z=>by omega,fun _=>e2,by rw[e1];exact hold1 (by omega),by rw[e4];omega,fun c=>by rw[e3];exact hold2 (e5.1 c)⟩
 have keep1:∀i,i<32→1≤(s.ent i).state→1≤(T.1.ent i).state∧(T.1.ent i).first=(s.ent i).first:=fun i hi h1=>by
  by_cases e:i=f.id.toNat
  ·subst e
   exact⟨mine.2.2.2.1,mine.2.1 (by omega)⟩
  ·obtain⟨_,e2,_,e4,_⟩:=l8 (other i e)
   exact⟨e4.2 h1,e2⟩
 have hdone:∀i,(s.ent i).state=3→T.1.ent i=s.ent i:=fun i hi=>by
  rcases dK s f.node f with ⟨_,e1,_⟩ | ⟨_,_,_,_,_,_,⟨_,_,e⟩ | ⟨_,e⟩⟩
  ·rw[hT',e1]
  ·rw[hT',e];exact (tD s _ f).done i hi
  ·rw[hT',e]
   show (s.commit _ f).ent i=_
   unfold aA.commit
   split
   ·rename_i l
    have p1:=rI s (ofL f.node) f l
    have hp:(s.placed (ofL f.node) f).ent i=s.ent i:=p1.done i hi
    have:∀(l:List Nat) (t:aA) (g:bH),(t.ent i).state=3→(l.foldl (aA.round g (ofL f.node)) t).ent i=t.ent i:=by
     intro l
     induction l with
     | nil=>intros;rfl
     | cons a l ih=>
      intro t g ht
      have h2:(aA.round g (ofL f.node) t a).ent i=t.ent i:=by
       unfold aA.round
       split
       ·have:∀(l:List Nat) (t:aA),(t.ent i).state=3→(l.foldl (aA.execIf (ofL f.node)) t).ent i=t.ent i:=by
         intro l
         induction l with
         | nil=>intros;rfl
         | cons b l ih2=>
          intro t ht
          have h3:=(rH t (ofL f.node) b).done i ht
          show (l.foldl _ (aA.execIf _ t b)).ent i=_
          rw[ih2 _ (by rw[h3];exact ht),h3]
        exact this _ t ht
       ·rfl
      show (l.foldl _ (aA.round g _ t a)).ent i=_
      rw[ih _ g (by rw[h2];exact ht),h2]
    unfold aA.settle
    rw[this _ _ _ (by rw[hp];exact hi),hp]
   ·rfl
 have at_:∀m,upd S.B f.node.toNat T.1 m=if m=f.node.toNat then T.1 else S.B m:=fun m=>rfl
 have hans:∀g∈T.2.1,g.node=f.node∧g.id=f.id∧(g.kind=2→g.deps=(T.1.ent f.id.toNat).first)∧(g.kind=5→(T.1.ent f.id.toNat).state=3∧g.ats=(T.1.ent f.id.toNat).ats∧g.vals=(T.1.ent f.id.toNat).vals)∧g.kind≠1∧g.kind≠3:=by
  intro g hg
  rcases dK s f.node f with ⟨_,_,e1⟩ | ⟨_,_,_,_,_,_,⟨_,_,e⟩ | ⟨_,e⟩⟩
  ·rw[hT',e1] at hg;simp at hg
  ·rw[hT',e] at hg ⊢
   simp at hg
   subst hg
   exact⟨rfl,rfl,fun _=>rfl,fun c=>absurd c (by simp),by simp,by simp⟩
  ·rw[hT',e] at hg ⊢
   have hg:g∈(s.commit (ofL f.node) f).answers (ofL f.node) f.node f.id:=hg
   unfold aA.answers at hg
   rcases List.mem_cons.1 hg with rfl | hg
   ·exact⟨rfl,rfl,fun c=>absurd c (by simp),fun c=>absurd c (by simp),by simp,by simp⟩
   ·split at hg
    ·rename_i hc
     simp at hg
     subst hg
     exact⟨rfl,rfl,fun c=>absurd c (by simp),fun _=>⟨hc.1,rfl,rfl⟩,by simp,by simp⟩
    ·simp at hg
 refine⟨fun m hm=>?_,fun g hg=>?_,fun g hg hk=>?_,fun g hg hk=>?_,fun g hg hk=>?_,fun g hg hk=>?_,fun m hm i hi h1=>?_,fun m hm i hi h2=>?_,fun i hi m hm ht=>?_,fun m hm x y hx hy hxy h1 h2 hc=>?_,h.most⟩
 ·show bQ (upd S.B f.node.toNat T.1 m)
  rw[at_]
  split
  ·exact hG'
  ·exact h.good m hm
 ·rcases hg with hg | hg
  ·exact h.rng g hg
  ·obtain⟨a1,a2,_⟩:=hans g hg
   unfold sF
   rw[a1,a2]
   exact⟨hr1,hr2⟩
 ·rcases hg with hg | hg
  ·exact h.ask g hg hk
  ·exact absurd hk (hans g hg).2.2.2.2.1
 ·rcases hg with hg | hg
  ·exact h.com g hg hk
  ·exact absurd hk (hans g hg).2.2.2.2.2
 ·show 1≤((upd S.B f.node.toNat T.1 g.node.toNat).ent g.id.toNat).state∧g.deps=((upd S.B f.node.toNat T.1 g.node.toNat).ent g.id.toNat).first
  rw[at_]
  rcases hg with hg | hg
  ·obtain⟨t1,t2⟩:=h.tel g hg hk
   have hgr:=h.rng g hg
   split
   ·rename_i e
    rw[e,←hs] at t1 t2
    obtain⟨k1,k2⟩:=keep1 g.id.toNat (by have:=hgr.2;omega) t1
    exact⟨k1,by rw[k2];exact t2⟩
   ·exact⟨t1,t2⟩
  ·obtain⟨a1,a2,a3,_⟩:=hans g hg
   rw[a1,a2,if_pos rfl]
   exact⟨mine.2.2.2.1,a3 hk⟩
 ·show ((upd S.B f.node.toNat T.1 g.node.toNat).ent g.id.toNat).state=3∧g.ats=((upd S.B f.node.toNat T.1 g.node.toNat).ent g.id.toNat).ats∧g.vals=((upd S.B f.node.toNat T.1 g.node.toNat).ent g.id.toNat).vals
  rw[at_]
  rcases hg with hg | hg
  ·obtain⟨t1,t2⟩:=h.don g hg hk
   split
   ·rename_i e
    rw[e,←hs] at t1 t2
    rw[hdone _ t1]
    exact⟨t1,t2⟩
   ·exact⟨t1,t2⟩
  ·obtain⟨a1,a2,_,a4,_⟩:=hans g hg
   rw[a1,a2,if_pos rfl]
   exact a4 hk
 ·have h1:1≤((upd S.B f.node.toNat T.1 m).ent i).state:=h1
  show (S.C i).begun=true∧((upd S.B f.node.toNat T.1 m).ent i).ops=(S.C i).ops
  rw[at_] at h1 ⊢
  split
  ·rename_i e
   rw[if_pos e] at h1
   by_cases ei:i=f.id.toNat
   ·subst ei
    exact⟨hops.2,mine.2.2.1⟩
   ·obtain⟨e1,_,_,e4,_⟩:=l8 (other i ei)
    rw[e1]
    have:=h.ent1 m hm i hi (by rw[e,←hs];exact e4.1 h1)
    rw[e,←hs] at this
    exact this
  ·rename_i e
   rw[if_neg e] at h1
   exact h.ent1 m hm i hi h1
 ·have h2:2≤((upd S.B f.node.toNat T.1 m).ent i).state:=h2
  show (S.C i).fixed=true∧((upd S.B f.node.toNat T.1 m).ent i).deps=(S.C i).deps
  rw[at_] at h2 ⊢
  split
  ·rename_i e
   rw[if_pos e] at h2
   by_cases ei:i=f.id.toNat
   ·subst ei
    exact mine.2.2.2.2 h2
   ·obtain⟨_,_,e3,_,e5⟩:=l8 (other i ei)
    rw[e3]
    have:=h.ent2 m hm i hi (by rw[e,←hs];exact e5.1 h2)
    rw[e,←hs] at this
    exact this
  ·rename_i e
   rw[if_neg e] at h2
   exact h.ent2 m hm i hi h2
 ·obtain⟨t1,t2⟩:=h.told i hi m hm ht
  show 1≤((upd S.B f.node.toNat T.1 m).ent i).state∧∀d∈((upd S.B f.node.toNat T.1 m).ent i).first,d∈(S.C i).deps
  rw[at_]
  split
  ·rename_i e
   rw[e,←hs] at t1 t2
   obtain⟨k1,k2⟩:=keep1 i hi t1
   exact⟨k1,by rw[k2];exact t2⟩
  ·exact⟨t1,t2⟩
 ·have g1:1≤((upd S.B f.node.toNat T.1 m).ent x).state:=h1
  have g2:1≤((upd S.B f.node.toNat T.1 m).ent y).state:=h2
  clear h1 h2
  have hc:eA (S.C x).ops (S.C y).ops (ofL m)=true:=hc
  show (y:Int)∈((upd S.B f.node.toNat T.1 m).ent x).first∨(x:Int)∈((upd S.B f.node.toNat T.1 m).ent y).first
  rw[at_] at g1 g2 ⊢
  by_cases e:m=f.node.toNat
  ·rw[if_pos e] at g1 g2 ⊢
   subst e
   rw[hnat] at hc
   have old:1≤(s.ent x).state→1≤(s.ent y).state→(y:Int)∈(T.1.ent x).first∨(x:Int)∈(T.1.ent y).first:=fun o1 o2=>by
    rw[(keep1 x hx o1).2,(keep1 y hy o2).2]
    have:=h.conf _ hn6 x y hx hy hxy (by rw[←hs];exact o1) (by rw[←hs];exact o2) (by rw[hnat];exact hc)
    rw[←hs] at this
    exact this
   by_cases ex:x=f.id.toNat
   ·subst ex
    have hy1:1≤(s.ent y).state:=(l8 (other y (Ne.symm hxy))).2.2.2.1.1 g2
    by_cases z:(s.ent f.id.toNat).state=0
    ·left
     rw[mine.1 z]
     refine oK.2 ⟨hy,Ne.symm hxy,by omega,?_⟩
     have hyo:=h.ent1 _ hn6 y hy (by rw[←hs];exact hy1)
     rw[←hs] at hyo
     rw[hyo.2,hops.1,qM]
     exact hc
    ·exact old (by have:=hst0 _ hi32;omega) hy1
   ·by_cases ey:y=f.id.toNat
    ·subst ey
     have hx1:1≤(s.ent x).state:=(l8 (other x ex)).2.2.2.1.1 g1
     by_cases z:(s.ent f.id.toNat).state=0
     ·right
      rw[mine.1 z]
      refine oK.2 ⟨hx,ex,by omega,?_⟩
      have hxo:=h.ent1 _ hn6 x hx (by rw[←hs];exact hx1)
      rw[←hs] at hxo
      rw[hxo.2,hops.1]
      exact hc
     ·exact old hx1 (by have:=hst0 _ hi32;omega)
    ·exact old ((l8 (other x ex)).2.2.2.1.1 g1) ((l8 (other y ey)).2.2.2.1.1 g2)
  ·rw[if_neg e] at g1 g2 ⊢
   exact h.conf m hm x y hx hy hxy g1 g2 hc
theorem oJ {c:aE} {id:Int} {g:aD} (h:g∈cQ c id):c.begun=true∧(0≤id∧id<32)∧(0≤g.node∧g.node<6)∧g.id=id∧g.ops=c.ops∧((c.fixed=true∧g.kind=3∧g.deps=c.deps)∨(c.fixed=false∧g.kind=1)):=by
 unfold cQ at h
 split at h
 ·simp at h
 ·rename_i hn
  obtain⟨n,hn6,hg⟩:=List.mem_flatMap.1 h
  have hn6:=List.mem_range.1 hn6
  have hb:c.begun=true:=by
   cases e:c.begun
   ·exact absurd (Or.inr (Or.inl e)) hn
   ·rfl
  have hi0:0≤id:=by
   by_cases e:id<0
   ·exact absurd (Or.inr (Or.inr (Or.inl e))) hn
   ·omega
  have hi1:id<32:=by
   by_cases e:32≤id
   ·exact absurd (Or.inr (Or.inr (Or.inr (Or.inl e)))) hn
   ·omega
  unfold aE.send at hg
  cases hf:c.fixed
  ·rw[hf] at hg
   simp only[Bool.false_eq_true,if_false] at hg
   split at hg
   ·simp at hg
    subst hg
    exact⟨hb,⟨hi0,hi1⟩,⟨by show (0:Int)≤(n:Int);omega,by show (n:Int)<6;omega⟩,rfl,rfl,Or.inr ⟨rfl,rfl⟩⟩
   ·simp at hg
  ·rw[hf] at hg
   simp only[if_true] at hg
   split at hg
   ·simp at hg
    subst hg
    exact⟨hb,⟨hi0,hi1⟩,⟨by show (0:Int)≤(n:Int);omega,by show (n:Int)<6;omega⟩,rfl,rfl,Or.inl ⟨rfl,rfl,rfl⟩⟩
   ·simp at hg
theorem lW {c:aE} {id:Int} {f g:aD} (hg:g∈(aO c id f).2.1):g∈cQ (aO c id f).1 id∧(aO c id f).1.fixed=true:=by
 unfold aO at *
 split at hg
 ·simp at hg
 ·rename_i h1
  rw[if_neg h1]
  split at hg
  ·simp at hg
  ·rename_i h2
   rw[if_neg h2]
   split at hg
   ·simp at hg
   ·rename_i h3
    rw[if_neg h3]
    split at hg
    ·rename_i h4
     rw[if_pos h4]
     split at hg
     ·simp at hg
     ·rename_i h5
      rw[if_neg h5]
      have hg:g∈if (c.hear f).fixed=true then cQ (c.hear f) id else []:=hg
      split at hg
      ·rename_i h6;exact⟨hg,h6⟩
      ·simp at hg
    ·split at hg
     ·simp at hg
     ·split at hg<;>simp at hg
theorem pC {c:aE} {id:Int} {f:aD} (h:(aO c id f).2.2=0):c.begun=true∧f.id=id:=by
 unfold aO at h
 split at h
 ·exact absurd h (show (2:Int)≠0 by decide)
 ·rename_i h1
  constructor
  ·cases e:c.begun
   ·exact absurd (Or.inr (Or.inl e)) h1
   ·rfl
  ·by_cases e:f.id=id
   ·exact e
   ·exact absurd (Or.inr (Or.inr (Or.inl e))) h1
theorem iL.setC {S:Sys} (h:iL S) {i:Nat} (_hi:i<32) (c:aE) (N:aD→Prop)
  (hb:(S.C i).begun=true→c.begun=true∧c.ops=(S.C i).ops) (hf:(S.C i).fixed=true→c.fixed=true∧c.deps=(S.C i).deps)
  (ht:∀n,n<6→c.told n=true→1≤((S.B n).ent i).state∧∀d∈((S.B n).ent i).first,d∈c.deps) (hm:c.fixed=true→c.begun=true∧eG c.ops c.told=true)
  (hN:∀g,N g→sF g∧g.id.toNat=i∧c.begun=true∧g.ops=c.ops∧((c.fixed=true∧g.kind=3∧g.deps=c.deps)∨g.kind=1)):
  iL ⟨S.B,upd S.C i c,fun g=>S.M g∨N g⟩:=by
 have at_:∀m,upd S.C i c m=if m=i then c else S.C m:=fun m=>rfl
 refine⟨h.good,fun g hg=>?_,fun g hg hk=>?_,fun g hg hk=>?_,fun g hg hk=>?_,fun g hg hk=>?_,fun n hn j hj h1=>?_,fun n hn j hj h2=>?_,fun j hj n hn htl=>?_,fun n hn x y hx hy hxy h1 h2 hc=>?_,fun j hj hfx=>?_⟩
 ·rcases hg with hg | hg
  ·exact h.rng g hg
  ·exact (hN g hg).1
 ·show (upd S.C i c g.id.toNat).begun=true∧g.ops=(upd S.C i c g.id.toNat).ops
  rw[at_]
  rcases hg with hg | hg
  ·obtain⟨a1,a2⟩:=h.ask g hg hk
   split
   ·rename_i e
    rw[e] at a1 a2
    obtain⟨b1,b2⟩:=hb a1
    exact⟨b1,by rw[b2];exact a2⟩
   ·exact⟨a1,a2⟩
  ·obtain⟨_,e,b1,b2,_⟩:=hN g hg
   rw[if_pos e]
   exact⟨b1,b2⟩
 ·show ((upd S.C i c g.id.toNat).begun=true∧(upd S.C i c g.id.toNat).fixed=true)∧g.ops=(upd S.C i c g.id.toNat).ops∧g.deps=(upd S.C i c g.id.toNat).deps
  rw[at_]
  rcases hg with hg | hg
  ·obtain⟨⟨a1,a2⟩,a3,a4⟩:=h.com g hg hk
   split
   ·rename_i e
    rw[e] at a1 a2 a3 a4
    obtain⟨b1,b2⟩:=hb a1
    obtain⟨b3,b4⟩:=hf a2
    exact⟨⟨b1,b3⟩,by rw[b2];exact a3,by rw[b4];exact a4⟩
   ·exact⟨⟨a1,a2⟩,a3,a4⟩
  ·obtain⟨_,e,b1,b2,b3⟩:=hN g hg
   rw[if_pos e]
   rcases b3 with ⟨b3,_,b4⟩ | b3
   ·exact⟨⟨b1,b3⟩,b2,b4⟩
   ·omega
 ·rcases hg with hg | hg
  ·exact h.tel g hg hk
  ·obtain⟨_,_,_,_,b⟩:=hN g hg
   rcases b with ⟨_,b,_⟩ | b<;>omega
 ·rcases hg with hg | hg
  ·exact h.don g hg hk
  ·obtain⟨_,_,_,_,b⟩:=hN g hg
   rcases b with ⟨_,b,_⟩ | b<;>omega
 ·obtain⟨a1,a2⟩:=h.ent1 n hn j hj h1
  show (upd S.C i c j).begun=true∧((S.B n).ent j).ops=(upd S.C i c j).ops
  rw[at_]
  split
  ·rename_i e
   rw[e] at a1 a2 ⊢
   obtain⟨b1,b2⟩:=hb a1
   exact⟨b1,by rw[b2];exact a2⟩
  ·exact⟨a1,a2⟩
 ·obtain⟨a1,a2⟩:=h.ent2 n hn j hj h2
  show (upd S.C i c j).fixed=true∧((S.B n).ent j).deps=(upd S.C i c j).deps
  rw[at_]
  split
  ·rename_i e
   rw[e] at a1 a2 ⊢
   obtain⟨b1,b2⟩:=hf a1
   exact⟨b1,by rw[b2];exact a2⟩
  ·exact⟨a1,a2⟩
 ·have htl:(upd S.C i c j).told n=true:=htl
  show 1≤((S.B n).ent j).state∧∀d∈((S.B n).ent j).first,d∈(upd S.C i c j).deps
  rw[at_] at htl ⊢
  split
  ·rename_i e
   rw[if_pos e] at htl
   rw[e]
   exact ht n hn htl
  ·rename_i e
   rw[if_neg e] at htl
   exact h.told j hj n hn htl
 ·have hops:∀z,z<32→1≤((S.B n).ent z).state→(upd S.C i c z).ops=(S.C z).ops:=fun z hz hz1=>by
   rw[at_]
   split
   ·rename_i e
    rw[e]
    exact (hb (by rw[←e];exact (h.ent1 n hn z hz hz1).1)).2
   ·rfl
  have hc:eA (upd S.C i c x).ops (upd S.C i c y).ops (ofL n)=true:=hc
  rw[hops x hx h1,hops y hy h2] at hc
  exact h.conf n hn x y hx hy hxy h1 h2 hc
 ·have hfx:(upd S.C i c j).fixed=true:=hfx
  show (upd S.C i c j).begun=true∧eG (upd S.C i c j).ops (upd S.C i c j).told=true
  rw[at_] at hfx ⊢
  split
  ·rename_i e
   rw[if_pos e] at hfx
   exact hm hfx
  ·rename_i e
   rw[if_neg e] at hfx
   exact h.most j hj hfx
theorem iL.case {S:Sys} (h:iL S) {f:aD} (hM:S.M f) (h0:(aO (S.C f.id.toNat) f.id f).2.2=0):
  iL ⟨S.B,upd S.C f.id.toNat (aO (S.C f.id.toNat) f.id f).1,fun g=>S.M g∨g∈(aO (S.C f.id.toNat) f.id f).2.1⟩:=by
 obtain⟨hr1,hr2⟩:=h.rng f hM
 have hi32:f.id.toNat<32:=by omega
 have hn6:f.node.toNat<6:=by omega
 have hsend:∀g,g∈(aO (S.C f.id.toNat) f.id f).2.1→sF g∧g.id.toNat=f.id.toNat∧(aO (S.C f.id.toNat) f.id f).1.begun=true∧g.ops=(aO (S.C f.id.toNat) f.id f).1.ops∧
   (((aO (S.C f.id.toNat) f.id f).1.fixed=true∧g.kind=3∧g.deps=(aO (S.C f.id.toNat) f.id f).1.deps)∨g.kind=1):=fun g hg=>by
  obtain⟨h1,h2⟩:=lW hg
  obtain⟨b1,b2,b3,b4,b5,b6⟩:=oJ h1
  refine⟨⟨b3,by rw[b4];exact b2⟩,by rw[b4],b1,b5,?_⟩
  rcases b6 with b6 | b6
  ·exact Or.inl b6
  ·exact Or.inr b6.2
 rcases gE (S.C f.id.toNat) f.id f with ⟨h1,_⟩ | ⟨_,_,hk,hf,_,_,he,_⟩ | ⟨_,_,_,hs,_,_⟩
 ·exact absurd h0 h1
 ·refine h.setC hi32 _ _ ?_ ?_ ?_ ?_ hsend
  ·rw[he];exact fun e=>⟨e,rfl⟩
  ·intro e;rw[hf] at e;cases e
  ·rw[he]
   intro n hn ht
   have ht:upd (S.C f.id.toNat).told f.node.toNat true n=true:=ht
   show _∧∀d∈((S.B n).ent f.id.toNat).first,d∈gX (S.C f.id.toNat).deps f.deps
   by_cases e:n=f.node.toNat
   ·subst e
    obtain⟨t1,t2⟩:=h.tel f hM hk
    refine⟨t1,fun d hd=>DN (by rw[t2];exact hd) (zI (h.good _ hn) hi32 d hd)⟩
   ·rw[aN _ _ e] at ht
    obtain⟨t1,t2⟩:=h.told _ hi32 n hn ht
    exact⟨t1,fun d hd=>GA (t2 d hd) (zI (h.good _ hn) hi32 d hd)⟩
  ·rw[he]
   intro e
   exact⟨(pC h0).1,e⟩
 ·refine h.setC hi32 _ _ ?_ ?_ ?_ ?_ hsend
  ·exact fun e=>⟨by rw[hs.begun];exact e,hs.ops⟩
  ·exact fun e=>⟨by rw[hs.fixed];exact e,hs.deps⟩
  ·intro n hn ht
   rw[hs.told] at ht
   rw[hs.deps]
   exact h.told _ hi32 n hn ht
  ·intro e
   rw[hs.fixed] at e
   obtain⟨m1,m2⟩:=h.most _ hi32 e
   exact⟨by rw[hs.begun];exact m1,by rw[hs.ops,hs.told];exact m2⟩
theorem iL.again {S:Sys} (h:iL S) {i:Nat} (hi:i<32):iL ⟨S.B,S.C,fun g=>S.M g∨g∈cQ (S.C i) (i:Int)⟩:=by
  have e:upd S.C i (S.C i)=S.C:=by
    funext j
    unfold upd
    split
    ·rename_i e;rw[e]
    ·rfl
  have:=h.setC hi (S.C i) (fun g=>g∈cQ (S.C i) (i:Int)) (fun e=>⟨e,rfl⟩) (fun e=>⟨e,rfl⟩) (fun n hn ht=>h.told i hi n hn ht) (fun e=>h.most i hi e) (fun g hg=>by
    obtain⟨b1,b2,b3,b4,b5,b6⟩:=oJ hg
    refine⟨⟨b3,by rw[b4];exact b2⟩,by rw[b4];omega,b1,b5,?_⟩
    rcases b6 with b6 | b6
    ·exact Or.inl b6
    ·exact Or.inr b6.2)
  rw[e] at this
  exact this
theorem iL.begin {S:Sys} (h:iL S) {i:Nat} (hi:i<32) (hz:S.C i=cA) (ops:List OpL):
  iL ⟨S.B,upd S.C i { cA with begun:=true,ops:=ops },fun g=>S.M g∨g∈cQ { cA with begun:=true,ops:=ops } (i:Int)⟩:=by
 refine h.setC hi _ _ (fun e=>?_) (fun e=>?_) (fun n hn ht=>?_) (fun e=>?_) (fun g hg=>?_)
 ·rw[hz] at e;cases e
 ·rw[hz] at e;cases e
 ·cases ht
 ·cases e
 ·obtain⟨b1,b2,b3,b4,b5,b6⟩:=oJ hg
  refine⟨⟨b3,by rw[b4];exact b2⟩,by rw[b4];omega,b1,b5,?_⟩
  rcases b6 with b6 | b6
  ·exact Or.inl b6
  ·exact Or.inr b6.2
theorem iL.zero:iL ⟨fun _=>dP,fun _=>cA,fun _=>False⟩:=by
 refine⟨fun _ _=>FX,fun _ h=>h.elim,fun _ h=>h.elim,fun _ h=>h.elim,fun _ h=>h.elim,fun _ h=>h.elim,fun n _ i _ h=>?_,fun n _ i _ h=>?_,fun i _ n _ h=>?_,fun n _ x y _ _ _ h=>?_,fun i _ h=>?_⟩
 ·exact absurd h (show ¬ (1:Int)≤0 by decide)
 ·exact absurd h (show ¬ (2:Int)≤0 by decide)
 ·cases h
 ·exact absurd h (show ¬ (1:Int)≤0 by decide)
 ·cases h
def Sys.graph (S:Sys):bH:=⟨fun i=>(S.C i).fixed,fun i=>(S.C i).deps⟩
theorem uX {A A':Nat→Nat→Bool} {P:Nat→Prop} (hs:∀x,P x→∀y,A x y=A' x y) (hc:∀x y,P x→A x y=true→P y) {x y:Nat} (h:b9 A x y):P x→b9 A' x y:=by
 induction h using b9.ind with
 | refl x=>exact fun _=> .refl x
 | step a h ih=>exact fun hx=> .step (by rw[←hs _ hx];exact a) (ih (hc _ _ hx a))
theorem pU {g g':bH} {P:Nat→Prop} (h32:∀x,P x→x<32) (hs:∀x,P x→∀y,g.adj x y=g'.adj x y) (hc:∀x y,P x→g.adj x y=true→P y) {x:Nat} (hx:P x) (y:Nat):cG g x y=cG g' x y:=by
 rw[Bool.eq_iff_iff,cL g (h32 x hx),cL g' (h32 x hx)]
 exact⟨fun h=>uX hs hc h hx,fun h=>uX (fun x hx y=>(hs x hx y).symm) (fun x y hx a=>hc x y hx (by rw[hs x hx];exact a)) h hx⟩
theorem iL.sorted {S:Sys} (h:iL S) {n:Nat} (hn:n<6) (hS:iF (S.B n)):nH (cG S.graph) (S.B n).did:=by
 refine hS.sorted.later fun x hx y _=>?_
 refine pU (P:=fun x=>x∈(S.B n).did) hS.sorted.lt (fun x hx y=>?_) (fun x y hx a=>?_) hx y
 ·have hx32:=hS.sorted.lt x hx
  have h3:=(mV (h.good n hn) hx32).1 hx
  obtain⟨e1,e2⟩:=h.ent2 n hn x hx32 (by rw[h3];decide)
  have k:(S.B n).graph.known x=S.graph.known x:=by
   show decide (2≤((S.B n).ent x).state)=(S.C x).fixed
   rw[h3,e1];rfl
  have d:(S.B n).graph.deps x=S.graph.deps x:=e2
  unfold bH.adj
  rw[k,d]
 ·exact hS.sorted.closed x hx y (bH.adj_lt _ x y a) ((cL _ (hS.sorted.lt x hx) y).2 (.one a))
theorem iL.did_fixed {S:Sys} (h:iL S) {n:Nat} (hn:n<6) {x:Nat} (hx:x<32) (hd:x∈(S.B n).did):(S.C x).fixed=true:=
 (h.ent2 n hn x hx (by rw[(mV (h.good n hn) hx).1 hd];decide)).1
def after (sh:Int) (ops:Nat→List OpL):List Nat→(Nat→Int)→(Nat→Int)
 | [],v=>v
 | x::l,v=>after sh ops l (cN sh 0 (ops x) v).1
theorem qV (sh:Int) (ops:Nat→List OpL):∀(l m:List Nat) (v:Nat→Int),after sh ops (l++m) v=after sh ops m (after sh ops l v)
 | [],_,_=>rfl
 | x::l,m,v=>qV sh ops l m (cN sh 0 (ops x) v).1
theorem oW (sh:Int) {ops ops':Nat→List OpL}:∀(l:List Nat) (v:Nat→Int),(∀x∈l,ops x=ops' x)→after sh ops l v=after sh ops' l v
 | [],_,_=>rfl
 | x::l,v,h=>by
  show after sh ops l (cN sh 0 (ops x) v).1=after sh ops' l (cN sh 0 (ops' x) v).1
  rw[h x (by simp),oW sh l _ fun y hy=>h y (by simp[hy])]
structure jY (sh:Int) (s:aA):Prop where
 all:s.vals=after sh (fun x=>(s.ent x).ops) s.did fun _=>0
 each:∀pre x post,s.did=pre++x::post→(s.ent x).ats=(cN sh 0 (s.ent x).ops (after sh (fun x=>(s.ent x).ops) pre fun _=>0)).2.1∧(s.ent x).vals=(cN sh 0 (s.ent x).ops (after sh (fun x=>(s.ent x).ops) pre fun _=>0)).2.2
theorem KT (sh:Int):jY sh dP:=⟨rfl,by intro pre x post e;simp[dP,aA.did] at e⟩
theorem jY.same {sh:Int} {s t:aA} (V:jY sh s) (hd:t.did=s.did) (hv:t.vals=s.vals) (he:∀x∈s.did,t.ent x=s.ent x):jY sh t:=by
 refine⟨?_,fun pre x post e=>?_⟩
 ·rw[hv,hd,V.all]
  exact oW sh _ _ fun x hx=>by rw[he x hx]
 ·rw[hd] at e
  have hx:x∈s.did:=by rw[e];simp
  rw[he x hx]
  have:after sh (fun x=>(t.ent x).ops) pre (fun _=>0)=after sh (fun x=>(s.ent x).ops) pre (fun _=>0):=oW sh _ _ fun y hy=>by rw[he y (by rw[e];simp[hy])]
  rw[this]
  exact V.each pre x post e
theorem KQ {sh:Int} {s:aA} (h:bQ s) (V:jY sh s) {n:Nat} (hn:n<32) (hs:(s.ent n).state=2):jY sh (s.exec sh n):=by
 have ops:(fun x=>((s.exec sh n).ent x).ops)=fun x=>(s.ent x).ops:=by
  funext x
  exact congrArg Prod.fst (xA s sh hs x)
 have did:(s.exec sh n).did=s.did++[n]:=by unfold aA.did aA.exec;simp
 have no:n ∉ s.did:=fun e=>by
  have:=(mV h hn).1 e
  omega
 have same:(s.exec sh n).ent n=⟨3,(s.ent n).ops,(s.ent n).first,(s.ent n).deps,(cN sh 0 (s.ent n).ops s.vals).2.1,(cN sh 0 (s.ent n).ops s.vals).2.2⟩:=aT _ _ _
 refine⟨?_,fun pre x post e=>?_⟩
 ·rw[ops,did,qV]
  show (cN sh 0 (s.ent n).ops s.vals).1=(cN sh 0 (s.ent n).ops (after sh (fun x=>(s.ent x).ops) s.did fun _=>0)).1
  rw[←V.all]
 ·rw[ops]
  rw[did] at e
  rw[List.append_eq_append_iff] at e
  have last:∀p q,[n]=p++x::q→s.did++p=pre→((s.exec sh n).ent x).ats=(cN sh 0 ((s.exec sh n).ent x).ops (after sh (fun x=>(s.ent x).ops) pre fun _=>0)).2.1∧((s.exec sh n).ent x).vals=(cN sh 0 ((s.exec sh n).ent x).ops (after sh (fun x=>(s.ent x).ops) pre fun _=>0)).2.2:=by
   intro p q e1 e2
   cases p with
   | nil=>
    simp at e1 e2
    obtain⟨rfl,_⟩:=e1
    rw[same,←e2,←V.all]
    exact⟨rfl,rfl⟩
   | cons a p=>simp at e1
  rcases e with ⟨qs,e1,e2⟩ | ⟨bs,e1,e2⟩
  ·exact last qs post e2 e1.symm
  ·cases bs with
   | nil=>exact last [] post (by simpa using e2.symm) (by simpa using e1)
   | cons b bs=>
    simp only[List.cons_append,List.cons.injEq] at e2
    obtain⟨rfl,_⟩:=e2
    have hx:x∈s.did:=by rw[e1];simp
    have:(s.exec sh n).ent x=s.ent x:=aN _ _ (fun e=>no (e ▸ hx))
    rw[this]
    exact V.each pre x bs e1
theorem xX (sh:Int):∀(l:List Nat) {s:aA},(∀x∈l,x<32)→bQ s→jY sh s→jY sh (s.execs sh l)
 | [],_,_,_,V=>V
 | a::l,s,hl,h,V=>by
  have h1:bQ (aA.execIf sh s a)∧jY sh (aA.execIf sh s a):=by
   unfold aA.execIf
   split
   ·rename_i e;exact⟨xE h sh (hl a (by simp)) e,KQ h V (hl a (by simp)) e⟩
   ·exact⟨h,V⟩
  exact xX (s:=aA.execIf sh s a) sh l (fun x hx=>hl x (by simp[hx])) h1.1 h1.2
theorem EW {sh:Int} {s:aA} (h:bQ s) (V:jY sh s):jY sh (s.settle sh):=by
 have:∀(l:List Nat) (t:aA),bQ t→jY sh t→jY sh (l.foldl (aA.round s.graph sh) t):=by
  intro l
  induction l with
  | nil=>exact fun t _ ht=>ht
  | cons a l ih=>
   intro t ht hv
   have h1:bQ (aA.round s.graph sh t a)∧jY sh (aA.round s.graph sh t a):=by
    unfold aA.round
    split
    ·exact⟨lN (s:=t) sh _ (kO _ _) ht,xX (s:=t) sh _ (kO _ _) ht hv⟩
    ·exact⟨ht,hv⟩
   exact ih _ h1.1 h1.2
 exact this _ s h V
theorem KR {s:aA} {who:Int} {f:aD} (V:jY (ofL who) s):jY (ofL who) (aJ s who f).1:=by
 rcases dK s who f with ⟨_,h1,_⟩ | ⟨hg,hf,_,_,_,_,⟨hk,_,e⟩ | ⟨hk,e⟩⟩
 ·rw[h1];exact V
 ·rw[e]
  obtain⟨i1,i2,_⟩:=j9 hf
  show jY _ (s.asked (ofL who) f)
  unfold aA.asked
  split
  ·rename_i h0
   refine V.same rfl rfl fun x hx=>e7 s _ f fun e=>?_
   subst e
   have:=(mV hg (by omega)).1 hx
   omega
  ·exact V
 ·rw[e]
  obtain⟨i1,i2,_⟩:=j9 hf
  show jY _ (s.commit (ofL who) f)
  unfold aA.commit
  split
  ·rename_i h0
   refine EW (lS hg _ hf hk h0) (V.same rfl rfl fun x hx=>aN _ _ fun e=>?_)
   subst e
   have:=(mV hg (by omega)).1 hx
   omega
  ·exact V
def uG (a:Int):Prop:= -1099511627776≤a∧a≤1099511627776
theorem FK (v kind n:Int):uG (doL v kind n):=by
 unfold doL
 split
 ·exact⟨sL _,sK _⟩
 ·split<;>exact⟨sL _,sK _⟩
theorem BM {g:bH} {n:Nat} (hn:n<32):dX g (n:Int)=if j5 g (n:Int)=true then dQ (cG g) (cG g n) 32 else []:=by
 cases hr:j5 g (n:Int)
 ·rw[if_neg (by simp)]
  unfold dX
  rw[hr]
  rfl
 ·rw[if_pos rfl,←vD g hn]
  unfold dX
  rw[hr]
  rfl
structure gA (S:Sys) (a b:Nat):Prop where
 fixed:∀d,d<32→cG S.graph b d=true→(S.C d).fixed=true∧d≠a
 begun:(S.C a).begun=true
 first:∀n,n<6→(S.C b).told n=true→1≤((S.B n).ent a).state→eA (S.C a).ops (S.C b).ops (ofL n)=true→(b:Int)∈((S.B n).ent a).first
theorem gA.self {S:Sys} {a b:Nat} (hb:b<32) (h:gA S a b):(S.C b).fixed=true∧b≠a:=h.fixed b hb ((cL _ hb b).2 (.refl b))
theorem gA.new {S:Sys} {a b:Nat} (hI:iL S) (ha:a<32) (hz:(S.C a).begun=false) {m:Nat} (hm:m<6) (sm:iF (S.B m)) (hd:b∈(S.B m).did) (c:aE) (hc:c.begun=true) (N:aD→Prop):
  gA ⟨S.B,upd S.C a c,N⟩ a b:=by
 have hD:=hI.sorted hm sm
 have hb:=hD.lt b hd
 have na:∀d,d<32→(S.C d).fixed=true→d≠a:=fun d hd32 hf e=>by
  subst e
  rw[(hI.most d hd32 hf).1] at hz;cases hz
 have fixedD:∀d∈(S.B m).did,(S.C d).fixed=true:=fun d hdd=>hI.did_fixed hm (hD.lt d hdd) hdd
 have same:∀d,cG S.graph b d=cG (Sys.graph ⟨S.B,upd S.C a c,N⟩) b d:=by
  intro d
  refine pU (P:=fun x=>x∈(S.B m).did) hD.lt (fun x hx y=>?_) (fun x y hx e=>hD.closed x hx y (bH.adj_lt _ x y e) ((cL _ (hD.lt x hx) y).2 (.one e))) hd d
  have hne:=na x (hD.lt x hx) (fixedD x hx)
  have e:upd S.C a c x=S.C x:=aN _ _ hne
  unfold bH.adj Sys.graph
  simp only[e]
 refine⟨fun d hd32 hbd=>?_,by show (upd S.C a c a).begun=true;rw[aT];exact hc,fun n hn _ h1 _=>?_⟩
 ·rw[←same] at hbd
  have hdd:=hD.closed b hd d hd32 hbd
  have hne:=na d hd32 (fixedD d hdd)
  refine⟨?_,hne⟩
  show (upd S.C a c d).fixed=true
  rw[aN _ _ hne]
  exact fixedD d hdd
 ·exfalso
  have:=(hI.ent1 n hn a ha h1).1
  rw[hz] at this;cases this
theorem gA.later {S T:Sys} {a b:Nat} (hI:iL S) (ha:a<32) (hb:b<32) (h:gA S a b)
  (hf:∀d,d<32→(S.C d).fixed=true→(T.C d).fixed=true∧(T.C d).deps=(S.C d).deps∧(T.C d).told=(S.C d).told)
  (hbg:∀d,d<32→(S.C d).begun=true→(T.C d).begun=true∧(T.C d).ops=(S.C d).ops)
  (hB:∀n,n<6→1≤((S.B n).ent a).state→((T.B n).ent a).first=((S.B n).ent a).first)
  (hN:∀n,n<6→((S.B n).ent a).state<1→1≤((T.B n).ent a).state→1≤((S.B n).ent b).state→eA (S.C b).ops (S.C a).ops (ofL n)=true→(b:Int)∈((T.B n).ent a).first):gA T a b:=by
 obtain⟨fb,hne⟩:=h.self hb
 have same:∀d,cG S.graph b d=cG T.graph b d:=by
  intro d
  refine pU (P:=fun x=>x<32∧cG S.graph b x=true) (fun x hx=>hx.1) (fun x hx y=>?_) (fun x y hx e=>?_) ⟨hb,(cL _ hb b).2 (.refl b)⟩ d
  ·obtain⟨fx,_⟩:=h.fixed x hx.1 hx.2
   obtain⟨e1,e2,_⟩:=hf x hx.1 fx
   unfold bH.adj Sys.graph
   simp only[fx,e1,e2]
  ·have hy:=bH.adj_lt _ x y e
   exact⟨hy,(cL _ hb y).2 (((cL _ hb x).1 hx.2).trans (.one e))⟩
 have opsa:=(hbg a ha h.begun)
 have opsb:=(hbg b hb (hI.most b hb fb).1)
 refine⟨fun d hd hbd=>?_,opsa.1,fun n hn ht h1 hc=>?_⟩
 ·rw[←same] at hbd
  obtain⟨fd,hda⟩:=h.fixed d hd hbd
  exact⟨(hf d hd fd).1,hda⟩
 ·rw[(hf b hb fb).2.2] at ht
  rw[opsa.2,opsb.2] at hc
  by_cases h0:1≤((S.B n).ent a).state
  ·rw[hB n hn h0]
   exact h.first n hn ht h0 hc
  ·exact hN n hn (by omega) h1 (hI.told b hb n hn ht).1 (by rw[qM];exact hc)
theorem wZ (sh:Int):∀(l:List (Int × Int)) (c:aE) (k:Nat),(c.dones sh l).has k=true→c.has k=true∨∃p∈l,p.1.toNat=k∧(c.dones sh l).vals k=p.2
 | [],_,_,h=>Or.inl h
 | p::l,c,k,h=>by
  have e:c.dones sh (p::l)=(aE.done1 sh c p).dones sh l:=rfl
  rw[e] at h ⊢
  rcases wZ sh l (aE.done1 sh c p) k h with h1 | ⟨q,hq,h1,h2⟩
  ·by_cases hc:c.has k=true
   ·exact Or.inl hc
   ·right
    refine⟨p,by simp,?_⟩
    have kv:=((oX sh l (aE.done1 sh c p)).2 k h1).2
    rw[kv]
    unfold aE.done1 at h1 ⊢
    split at h1
    ·rename_i hp
     rw[if_pos hp]
     have h1:upd c.has p.1.toNat true k=true:=h1
     by_cases ek:k=p.1.toNat
     ·refine⟨ek.symm,?_⟩
      show upd c.vals p.1.toNat p.2 k=p.2
      rw[ek,aT]
     ·rw[aN _ _ ek] at h1
      exact absurd h1 hc
    ·exact absurd h1 hc
  ·exact Or.inr ⟨q,by simp[hq],h1,h2⟩
theorem yX:∀(l:Int) (n:Nat) (zs:List Int),dM l n zs=true→∀z∈zs,l<z
 | _,_,[],_=>by simp
 | l,n,k::r,h=>by
  unfold dM at h
  simp only[Bool.and_eq_true,decide_eq_true_iff] at h
  intro z hz
  rcases List.mem_cons.1 hz with e | e
  ·rw[e];exact h.1.1
  ·have:=yX k n r h.2 z e
   omega
theorem IB {c:aE} {id:Int} {f:aD} {k:Nat} (h:(aO c id f).1.has k=true):c.has k=true∨(f.kind=5∧∃p∈f.ats.zip f.vals,p.1.toNat=k∧(aO c id f).1.vals k=p.2):=by
 unfold aO at *
 split
 ·rename_i h1;rw[if_pos h1] at h;exact Or.inl h
 ·rename_i h1
  rw[if_neg h1] at h
  split
  ·rename_i h2;rw[if_pos h2] at h;exact Or.inl h
  ·rename_i h2
   rw[if_neg h2] at h
   split
   ·rename_i h3;rw[if_pos h3] at h;exact Or.inl h
   ·rename_i h3
    rw[if_neg h3] at h
    split
    ·rename_i h4
     rw[if_pos h4] at h
     split at h<;>exact Or.inl h
    ·rename_i h4
     rw[if_neg h4] at h
     split
     ·rename_i h5;rw[if_pos h5] at h;exact Or.inl h
     ·rename_i h5
      rw[if_neg h5] at h
      split
      ·rename_i h6;rw[if_pos h6] at h;exact Or.inl h
      ·rename_i h6
       rw[if_neg h6] at h
       have hk:f.kind=5:=by
        have hg:aL f=0:=by
         by_cases e:aL f=0
         ·exact e
         ·exact absurd e h2
        unfold aL at hg
        split at hg
        ·exact absurd hg (by decide)
        ·rename_i hk
         omega
       rcases wZ (ofL f.node) _ c k h with e | e
       ·exact Or.inl e
       ·exact Or.inr ⟨hk,e⟩
structure f8 (S:Sys):Prop where
 s:iL S
 sort:∀n,n<6→iF (S.B n)
 val:∀n:Nat,n<6→jY (ofL (n:Int)) (S.B n)
 state:∀n,n<6→∀j,0≤((S.B n).ent j).state
 case:∀i,i<32→(S.C i).begun=true→nY (S.C i).ops (S.C i)
 zero:∀i,i<32→(S.C i).begun=false→S.C i=cA
 has:∀i,i<32→∀k,(S.C i).has k=true→∃m,m<6∧((S.B m).ent i).state=3∧((k:Int),(S.C i).vals k)∈((S.B m).ent i).ats.zip ((S.B m).ent i).vals
theorem f8.start:f8 ⟨fun _=>dP,fun _=>cA,fun _=>False⟩:=
 ⟨iL.zero,fun _ _=>H9,fun _ _=>KT _,fun _ _ _=>Int.le_refl _,fun i _ h=>(by cases h),fun _ _ _=>rfl,fun i _ k h=>(by cases h)⟩
theorem f8.node {S:Sys} (h:f8 S) {f:aD} (hM:S.M f) (hk:f.kind=1∨f.kind=3) (h0:(aJ (S.B f.node.toNat) f.node f).2.2=0):
  f8 ⟨upd S.B f.node.toNat (aJ (S.B f.node.toNat) f.node f).1,S.C,fun g=>S.M g∨g∈(aJ (S.B f.node.toNat) f.node f).2.1⟩:=by
 obtain⟨hr1,hr2⟩:=h.s.rng f hM
 have hn6:f.node.toNat<6:=by omega
 have hnat:(f.node.toNat:Int)=f.node:=by omega
 have K:=mR (S.B f.node.toNat) f.node f (h.state _ hn6)
 refine⟨h.s.node hM hk h0,fun n hn=>?_,fun n hn=>?_,fun n hn j=>?_,h.case,h.zero,fun i hi k hh=>?_⟩
 ·show iF (upd S.B f.node.toNat _ n)
  by_cases e:n=f.node.toNat
  ·rw[e,aT];exact IG (h.sort _ hn6)
  ·rw[aN _ _ e];exact h.sort n hn
 ·show jY (ofL (n:Int)) (upd S.B f.node.toNat _ n)
  by_cases e:n=f.node.toNat
  ·rw[e,aT,hnat]
   have:=h.val _ hn6
   rw[hnat] at this
   exact KR this
  ·rw[aN _ _ e];exact h.val n hn
 ·show 0≤((upd S.B f.node.toNat _ n).ent j).state
  by_cases e:n=f.node.toNat
  ·rw[e,aT]
   exact Int.le_trans (h.state _ hn6 j) (K.state j)
  ·rw[aN _ _ e];exact h.state n hn j
 ·obtain⟨m,hm,h3,hz⟩:=h.has i hi k hh
  refine⟨m,hm,?_⟩
  show ((upd S.B f.node.toNat (aJ (S.B f.node.toNat) f.node f).1 m).ent i).state=3∧_∈((upd S.B f.node.toNat (aJ (S.B f.node.toNat) f.node f).1 m).ent i).ats.zip ((upd S.B f.node.toNat (aJ (S.B f.node.toNat) f.node f).1 m).ent i).vals
  by_cases e:m=f.node.toNat
  ·subst e
   rw[aT]
   have same:=K.done i h3
   rw[same]
   exact⟨h3,hz⟩
  ·rw[aN _ _ e]
   exact⟨h3,hz⟩
theorem eY (C:Nat→aE) (i:Nat) (c:aE):∀j,(j=i∧upd C i c j=c)∨(j≠i∧upd C i c j=C j):=by
 intro j
 by_cases e:j=i
 ·exact Or.inl ⟨e,by rw[e,aT]⟩
 ·exact Or.inr ⟨e,aN _ _ e⟩
theorem f8.answer {S:Sys} (h:f8 S) {f:aD} (hM:S.M f) (h0:(aO (S.C f.id.toNat) f.id f).2.2=0):
  f8 ⟨S.B,upd S.C f.id.toNat (aO (S.C f.id.toNat) f.id f).1,fun g=>S.M g∨g∈(aO (S.C f.id.toNat) f.id f).2.1⟩:=by
 obtain⟨hr1,hr2⟩:=h.s.rng f hM
 have hi32:f.id.toNat<32:=by omega
 have hn6:f.node.toNat<6:=by omega
 obtain⟨hb,_⟩:=pC h0
 obtain⟨rs,kv⟩:=AH (id:=f.id) (f:=f) (h.case _ hi32 hb)
 refine⟨h.s.case hM h0,h.sort,h.val,h.state,fun i hi e=>?_,fun i hi e=>?_,fun i hi k hh=>?_⟩
 ·have e:(upd S.C f.id.toNat (aO (S.C f.id.toNat) f.id f).1 i).begun=true:=e
  show nY (upd S.C f.id.toNat (aO (S.C f.id.toNat) f.id f).1 i).ops (upd S.C f.id.toNat (aO (S.C f.id.toNat) f.id f).1 i)
  rcases eY S.C f.id.toNat (aO (S.C f.id.toNat) f.id f).1 i with ⟨_,e2⟩ | ⟨_,e2⟩
  ·rw[e2,rs.eops];exact rs
  ·rw[e2] at e ⊢;exact h.case i hi e
 ·have e:(upd S.C f.id.toNat (aO (S.C f.id.toNat) f.id f).1 i).begun=false:=e
  show upd S.C f.id.toNat (aO (S.C f.id.toNat) f.id f).1 i=cA
  rcases eY S.C f.id.toNat (aO (S.C f.id.toNat) f.id f).1 i with ⟨_,e2⟩ | ⟨_,e2⟩
  ·rw[e2,rs.begun] at e;cases e
  ·rw[e2] at e ⊢;exact h.zero i hi e
 ·have hh:(upd S.C f.id.toNat (aO (S.C f.id.toNat) f.id f).1 i).has k=true:=hh
  show ∃m,m<6∧((S.B m).ent i).state=3∧((k:Int),(upd S.C f.id.toNat (aO (S.C f.id.toNat) f.id f).1 i).vals k)∈((S.B m).ent i).ats.zip ((S.B m).ent i).vals
  rcases eY S.C f.id.toNat (aO (S.C f.id.toNat) f.id f).1 i with ⟨e1,e2⟩ | ⟨_,e2⟩
  ·rw[e2] at hh ⊢
   clear e2
   subst e1
   rename (aO (S.C f.id.toNat) f.id f).1.has k=true=>hh2
   rcases IB hh2 with e | ⟨hk,p,hp,h1,h2⟩
   ·rw[(kv k e).2]
    exact h.has _ hi32 k e
   ·obtain⟨d1,d2,d3⟩:=h.s.don f hM hk
    refine⟨f.node.toNat,hn6,d1,?_⟩
    rw[←d2,←d3,h2]
    have F:=(h.s.good _ hn6).fine hi32 (by rw[d1];decide)
    have hz:p.1∈f.ats:=(List.of_mem_zip (a:=p.1) (b:=p.2) hp).1
    rw[d2] at hz
    have:=yX _ _ _ F.ats _ hz
    have e:(k:Int)=p.1:=by omega
    rw[e]
    exact hp
  ·rw[e2] at hh ⊢;exact h.has i hi k hh
theorem f8.again {S:Sys} (h:f8 S) {i:Nat} (hi:i<32):f8 ⟨S.B,S.C,fun g=>S.M g∨g∈cQ (S.C i) (i:Int)⟩:=
 ⟨h.s.again hi,h.sort,h.val,h.state,h.case,h.zero,h.has⟩
theorem f8.begin {S:Sys} (h:f8 S) {i:Nat} (hi:i<32) (hb:(S.C i).begun=false) {ops:List OpL} (h0:(bE (i:Int) ops).2.2=0):
  f8 ⟨S.B,upd S.C i (bE (i:Int) ops).1,fun g=>S.M g∨g∈(bE (i:Int) ops).2.1⟩:=by
 have rs:=xO h0
 have hz:=h.zero i hi hb
 have e:bE (i:Int) ops=({ cA with begun:=true,ops:=ops },cQ { cA with begun:=true,ops:=ops } (i:Int),0):=by
  unfold bE at *
  split at h0
  ·exact absurd h0 (show (2:Int)≠0 by decide)
  ·rename_i h1
   rw[if_neg h1]
   split at h0
   ·exact absurd h0 (show (1:Int)≠0 by decide)
   ·rename_i h2
    rw[if_neg h2]
 rw[e] at rs ⊢
 refine⟨h.s.begin hi hz ops,h.sort,h.val,h.state,fun j hj eb=>?_,fun j hj eb=>?_,fun j hj k hh=>?_⟩
 ·have eb:(upd S.C i { cA with begun:=true,ops:=ops } j).begun=true:=eb
  show nY (upd S.C i { cA with begun:=true,ops:=ops } j).ops (upd S.C i { cA with begun:=true,ops:=ops } j)
  rcases eY S.C i { cA with begun:=true,ops:=ops } j with ⟨_,e2⟩ | ⟨_,e2⟩
  ·rw[e2];exact rs
  ·rw[e2] at eb ⊢;exact h.case j hj eb
 ·have eb:(upd S.C i { cA with begun:=true,ops:=ops } j).begun=false:=eb
  show upd S.C i { cA with begun:=true,ops:=ops } j=cA
  rcases eY S.C i { cA with begun:=true,ops:=ops } j with ⟨_,e2⟩ | ⟨_,e2⟩
  ·rw[e2] at eb;cases eb
  ·rw[e2] at eb ⊢;exact h.zero j hj eb
 ·have hh:(upd S.C i { cA with begun:=true,ops:=ops } j).has k=true:=hh
  show ∃m,m<6∧((S.B m).ent j).state=3∧((k:Int),(upd S.C i { cA with begun:=true,ops:=ops } j).vals k)∈((S.B m).ent j).ats.zip ((S.B m).ent j).vals
  rcases eY S.C i { cA with begun:=true,ops:=ops } j with ⟨_,e2⟩ | ⟨_,e2⟩
  ·rw[e2] at hh;cases hh
  ·rw[e2] at hh ⊢;exact h.has j hj k hh
theorem zK {zs:List OpL} (h:bN zs=true):∀o∈zs,0≤o.2.1∧o.2.1<8:=by
 intro o ho
 unfold bN at h
 rw[Bool.and_eq_true] at h
 obtain⟨i,hi,e⟩:=List.getElem_of_mem ho
 have:=List.all_eq_true.1 h.2 i (List.mem_range.2 hi)
 unfold jG at this
 rw[Bool.and_eq_true] at this
 have g:=this.1
 rw[List.getD_eq_getElem?_getD,List.getElem?_eq_getElem hi,Option.getD_some,e] at g
 unfold fF at g
 have:=of_decide_eq_true g
 exact⟨this.1,this.2.1⟩
theorem f8.ops {S:Sys} (h:f8 S) {i:Nat} (hi:i<32) (hb:(S.C i).begun=true):bN (S.C i).ops=true:=by
 have g:=(h.case i hi hb).good
 rw[kC hb,Bool.and_eq_true] at g
 exact g.1
theorem f8.somewhere {S:Sys} (h:f8 S) {x:Nat} (hx:x<32) (hb:(S.C x).begun=true) (hr:(cP (S.C x)).2=true):∃m,m<6∧x∈(S.B m).did:=by
 have hg:=h.ops hx hb
 have hp:0<(S.C x).ops.length:=by
  unfold bN at hg
  simp at hg
  omega
 obtain⟨m,hm,h3,_⟩:=h.has x hx 0 ((MJ (h.case x hx hb) hr).1 0 hp)
 exact⟨m,hm,(mV (h.s.good m hm) hx).2 h3⟩
theorem gA.node {S:Sys} (h:f8 S) {a b:Nat} (ha:a<32) (hb:b<32) (L:gA S a b) {f:aD} (hM:S.M f) (hk:f.kind=1∨f.kind=3) (h0:(aJ (S.B f.node.toNat) f.node f).2.2=0) (N:aD→Prop):
  gA ⟨upd S.B f.node.toNat (aJ (S.B f.node.toNat) f.node f).1,S.C,N⟩ a b:=by
 obtain⟨hr1,hr2⟩:=h.s.rng f hM
 have hn6:f.node.toNat<6:=by omega
 have hnat:(f.node.toNat:Int)=f.node:=by omega
 have K:=mR (S.B f.node.toNat) f.node f (h.state _ hn6)
 obtain⟨fb,hne⟩:=L.self hb
 refine L.later h.s ha hb (fun d _ hf=>⟨hf,rfl,rfl⟩) (fun d _ hf=>⟨hf,rfl⟩) (fun n hn h1=>?_) (fun n hn h1 h2 h3 hc=>?_)
 ·show ((upd S.B f.node.toNat _ n).ent a).first=_
  by_cases e:n=f.node.toNat
  ·rw[e] at h1 ⊢
   rw[aT]
   exact K.first a (by omega)
  ·rw[aN _ _ e]
 ·have h2:1≤((upd S.B f.node.toNat (aJ (S.B f.node.toNat) f.node f).1 n).ent a).state:=h2
  show (b:Int)∈((upd S.B f.node.toNat (aJ (S.B f.node.toNat) f.node f).1 n).ent a).first
  by_cases e:n=f.node.toNat
  ·rw[e] at h1 h2 h3 hc ⊢
   rw[aT] at h2 ⊢
   rw[hnat] at hc
   have ea:a=f.id.toNat:=by
    by_cases ea:a=f.id.toNat
    ·exact ea
    ·have:=congrArg (fun c=>c.2.2.2.1) (mQ (s:=S.B f.node.toNat) (who:=f.node) (f:=f) ea)
     have this:decide (1≤((aJ (S.B f.node.toNat) f.node f).1.ent a).state)=decide (1≤((S.B f.node.toNat).ent a).state):=this
     rw[decide_eq_true h2,decide_eq_false (by omega)] at this
     cases this
   have hs0:=h.state _ hn6 a
   have first:((aJ (S.B f.node.toNat) f.node f).1.ent a).first=(S.B f.node.toNat).ahead a f.ops (ofL f.node)∧f.ops=(S.C a).ops:=by
    rw[ea] at h1 hs0 ⊢
    rcases hk with hk | hk
    ·refine⟨?_,(h.s.ask f hM hk).2⟩
     rw[nO h0 hk,if_pos (by omega)]
    ·refine⟨?_,(h.s.com f hM hk).2.1⟩
     have:=lY h0 hk
     rw[if_pos (by omega),if_pos (by omega)] at this
     exact congrArg (fun c=>c.2.1) this
   rw[first.1,first.2]
   exact oK.2 ⟨hb,hne,by omega,by rw[(h.s.ent1 _ hn6 b hb h3).2];exact hc⟩
  ·rw[aN _ _ e] at h2
   omega
theorem gA.setC {S:Sys} (h:f8 S) {a b:Nat} (ha:a<32) (hb:b<32) (L:gA S a b) {i:Nat} (c:aE) (hf:(S.C i).fixed=true→c.fixed=true∧c.deps=(S.C i).deps∧c.told=(S.C i).told) (hg:(S.C i).begun=true→c.begun=true∧c.ops=(S.C i).ops) (N:aD→Prop):
  gA ⟨S.B,upd S.C i c,N⟩ a b:=by
 refine L.later h.s ha hb (fun d _ e=>?_) (fun d _ e=>?_) (fun n hn h1=>rfl) (fun n hn h1 h2 h3 hc=>absurd h2 (by show ¬ 1≤((S.B n).ent a).state;omega))
 ·show (upd S.C i c d).fixed=true∧(upd S.C i c d).deps=_∧(upd S.C i c d).told=_
  rcases eY S.C i c d with ⟨e1,e2⟩ | ⟨_,e2⟩
  ·rw[e2]
   subst e1
   exact hf e
  ·rw[e2]
   exact⟨e,rfl,rfl⟩
 ·show (upd S.C i c d).begun=true∧(upd S.C i c d).ops=_
  rcases eY S.C i c d with ⟨e1,e2⟩ | ⟨_,e2⟩
  ·rw[e2]
   subst e1
   exact hg e
  ·rw[e2]
   exact⟨e,rfl⟩
theorem gA.answer {S:Sys} (h:f8 S) {a b:Nat} (ha:a<32) (hb:b<32) (L:gA S a b) (f:aD) (N:aD→Prop):gA ⟨S.B,upd S.C f.id.toNat (aO (S.C f.id.toNat) f.id f).1,N⟩ a b:=by
 refine L.setC h ha hb _ (fun e=>?_) (fun e=>?_) N
 ·rcases gE (S.C f.id.toNat) f.id f with ⟨_,h1,_⟩ | ⟨_,_,_,hf,_⟩ | ⟨_,_,_,hs,_⟩
  ·rw[h1];exact⟨e,rfl,rfl⟩
  ·rw[hf] at e;cases e
  ·exact⟨by rw[hs.fixed];exact e,hs.deps,hs.told⟩
 ·rcases gE (S.C f.id.toNat) f.id f with ⟨_,h1,_⟩ | ⟨_,_,_,_,_,_,he,_⟩ | ⟨_,_,_,hs,_⟩
  ·rw[h1];exact⟨e,rfl⟩
  ·rw[he];exact⟨e,rfl⟩
  ·exact⟨by rw[hs.begun];exact e,hs.ops⟩
theorem gA.begin {S:Sys} (h:f8 S) {a b:Nat} (ha:a<32) (hb:b<32) (L:gA S a b) {i:Nat} (hi:i<32) (hz:(S.C i).begun=false) (c:aE) (N:aD→Prop):gA ⟨S.B,upd S.C i c,N⟩ a b:=
 L.setC h ha hb c (fun e=>by rw[(h.s.most i hi e).1] at hz;cases hz) (fun e=>by rw[e] at hz;cases hz) N
theorem gA.sent {S:Sys} {a b:Nat} (L:gA S a b) (N:aD→Prop):gA ⟨S.B,S.C,N⟩ a b:=⟨L.fixed,L.begun,L.first⟩
theorem f8.late {S:Sys} (h:f8 S) {a b:Nat} (ha:a<32) (hb:b<32) (hz:(S.C a).begun=false) (hbb:(S.C b).begun=true) (hr:(cP (S.C b)).2=true) (c:aE) (hc:c.begun=true) (N:aD→Prop):gA ⟨S.B,upd S.C a c,N⟩ a b:=by
 obtain⟨m,hm,hd⟩:=h.somewhere hb hbb hr
 exact gA.new h.s ha hz hm (h.sort m hm) hd c hc N
def iR (s:aA):Prop:=∀i,∀v∈(s.ent i).vals,uG v
theorem qF (sh:Int):∀(ops:List OpL) (i:Nat) (v:Nat→Int),∀w∈(cN sh i ops v).2.2,uG w
 | [],_,_,w,h=>by simp[cN] at h
 | o::r,i,v,w,h=>by
  unfold cN at h
  split at h
  ·rcases List.mem_cons.1 h with e | e
   ·rw[e];exact FK _ _ _
   ·exact qF sh r (i+1) _ w e
  ·exact qF sh r (i+1) _ w h
theorem IM:iR dP:=by intro i v h;simp[dP,kD] at h
theorem IL {s:aA} (h:iR s) (sh:Int) (n:Nat):iR (s.exec sh n):=by
 intro i v hv
 by_cases e:i=n
 ·subst e
  have:((s.exec sh i).ent i).vals=(cN sh 0 (s.ent i).ops s.vals).2.2:=congrArg cW.vals (aT _ _ _)
  rw[this] at hv
  exact qF _ _ _ _ v hv
 ·have:(s.exec sh n).ent i=s.ent i:=aN _ _ e
  rw[this] at hv
  exact h i v hv
theorem vP (sh:Int):∀(l:List Nat) {s:aA},iR s→iR (s.execs sh l)
 | [],_,h=>h
 | a::l,s,h=>by
  have h1:iR (aA.execIf sh s a):=by
   unfold aA.execIf
   split
   ·exact IL h sh a
   ·exact h
  exact vP (s:=aA.execIf sh s a) sh l h1
theorem CI {s:aA} (h:iR s) (sh:Int):iR (s.settle sh):=by
 have:∀(l:List Nat) (t:aA),iR t→iR (l.foldl (aA.round s.graph sh) t):=by
  intro l
  induction l with
  | nil=>exact fun t ht=>ht
  | cons a l ih=>
   intro t ht
   refine ih _ ?_
   unfold aA.round
   split
   ·exact vP (s:=t) sh _ ht
   ·exact ht
 exact this _ s h
theorem xY {s:aA} {who:Int} {f:aD} (h:iR s):iR (aJ s who f).1:=by
 rcases dK s who f with ⟨_,h1,_⟩ | ⟨_,_,_,_,_,_,⟨_,_,e⟩ | ⟨_,e⟩⟩
 ·rw[h1];exact h
 ·rw[e]
  show iR (s.asked (ofL who) f)
  unfold aA.asked
  split
  ·intro i v hv
   by_cases ei:i=f.id.toNat
   ·rw[ei,jI] at hv
    simp at hv
   ·rw[e7 s _ f ei] at hv
    exact h i v hv
  ·exact h
 ·rw[e]
  show iR (s.commit (ofL who) f)
  unfold aA.commit
  split
  ·refine CI (fun i v hv=>?_) _
   by_cases ei:i=f.id.toNat
   ·rw[ei,kP] at hv
    exact h _ v hv
   ·have:(s.placed (ofL who) f).ent i=s.ent i:=aN _ _ ei
    rw[this] at hv
    exact h i v hv
  ·exact h
theorem xV:∀(xs vs:List Int) (l:Int) (n:Nat),n≤4→dM l n xs=true→(∀v∈vs,uG v)→cC l xs vs=true
 | [],_,_,_,_,_,_=>by unfold cC;rfl
 | _::_,[],_,_,_,_,_=>by unfold cC;rfl
 | a::xs,v::vs,l,n,hn,ha,hv=>by
  unfold dM at ha
  simp only[Bool.and_eq_true,decide_eq_true_iff] at ha
  unfold cC
  have hw:=hv v (by simp)
  rw[xV xs vs a n hn ha.2 (fun w h=>hv w (by simp[h])),show decide (-1099511627776≤v∧v≤1099511627776)=true from decide_eq_true hw]
  have:(decide (a≤l) || decide (4≤a))=false:=by
   rw[Bool.or_eq_false_iff]
   exact⟨decide_eq_false (by omega),decide_eq_false (by omega)⟩
  rw[this]
  rfl
theorem FV {zs:List OpL} (h:bN zs=true):zs.length≤4:=(GM h).1
theorem oS {s:aA} {who:Int} {f:aD} (hw:iR s):∀g∈(aJ s who f).2.1,aL g=0∧g.kind≠1∧g.kind≠3:=by
 intro g hg
 have hw':=xY (who:=who) (f:=f) hw
 have hgood:(aJ s who f).2.2=0→bQ (aJ s who f).1:=xT
 rcases dK s who f with ⟨_,_,h1⟩ | ⟨_,hf,h0,hn,w0,w5,⟨_,_,e⟩ | ⟨_,e⟩⟩
 ·rw[h1] at hg;simp at hg
 ·have G:=hgood h0
  obtain⟨i1,i2,_⟩:=j9 hf
  rw[e] at hg G
  have hg:g∈[(⟨2,who,f.id,[],((s.asked (ofL who) f).ent f.id.toNat).first,[],[]⟩:aD)]:=hg
  rw[List.mem_singleton] at hg
  subst hg
  have G:bQ (s.asked (ofL who) f):=G
  have hfi:bC (-1) ((s.asked (ofL who) f).ent f.id.toNat).first=true∧d9 ((s.asked (ofL who) f).ent f.id.toNat).first f.id=false:=by
   rcases G.ent f.id.toNat (by omega) with e | F
   ·rw[e];exact⟨rfl,rfl⟩
   ·have:=F.first
    rw[show ((f.id.toNat:Nat):Int)=f.id by omega] at this
    exact this
  refine⟨?_,(show (2:Int)≠1 by decide),(show (2:Int)≠3 by decide)⟩
  unfold aL eF dO dT
  simp only[hfi.1,hfi.2]
  rw[if_neg (by decide),if_neg (by omega)]
  rfl
 ·have G:=hgood h0
  obtain⟨i1,i2,_⟩:=j9 hf
  rw[e] at hg G hw'
  have hg:g∈(s.commit (ofL who) f).answers (ofL who) who f.id:=hg
  have G:bQ (s.commit (ofL who) f):=G
  have hw':iR (s.commit (ofL who) f):=hw'
  unfold aA.answers at hg
  rcases List.mem_cons.1 hg with hg | hg
  ·subst hg
   refine⟨?_,(show (4:Int)≠1 by decide),(show (4:Int)≠3 by decide)⟩
   unfold aL eF dO dT
   simp only
   rw[if_neg (by decide),if_neg (by omega)]
   rfl
  ·split at hg
   ·rename_i h3
    rw[List.mem_singleton] at hg
    subst hg
    refine⟨?_,(show (5:Int)≠1 by decide),(show (5:Int)≠3 by decide)⟩
    have F:=G.fine (n:=f.id.toNat) (by omega) (by rw[h3.1];decide)
    have t:=xV _ ((s.commit (ofL who) f).ent f.id.toNat).vals (-1) _ (FV F.ops) F.ats (hw' _)
    unfold aL eF dO dT
    simp only[t,F.vals]
    rw[if_neg (by decide),if_neg (by omega)]
    simp
   ·simp at hg
theorem lJ {c:aE} {id:Int} {g:aD} (h:g∈cQ c id):aL g=0:=by
 obtain⟨hb,hid,hn,eid,eops,_⟩:=oJ h
 unfold cQ at h
 split at h
 ·simp at h
 ·rename_i hno
  have hg:dW c=true:=by
   cases e:dW c
   ·exact absurd (Or.inl e) hno
   ·rfl
  have hd:d9 c.deps id=false:=by
   cases e:d9 c.deps id
   ·rfl
   ·exact absurd (Or.inr (Or.inr (Or.inr (Or.inr e)))) hno
  rw[kC hb,Bool.and_eq_true] at hg
  obtain⟨n,hn6,hg1⟩:=List.mem_flatMap.1 h
  have hn6:=List.mem_range.1 hn6
  unfold aE.send at hg1
  split at hg1
  ·split at hg1
   ·rw[List.mem_singleton] at hg1
    subst hg1
    unfold aL eF dO dT
    simp only[hg.1,hg.2,hd]
    rw[if_neg (by decide),if_neg (by omega)]
    rfl
   ·simp at hg1
  ·split at hg1
   ·rw[List.mem_singleton] at hg1
    subst hg1
    unfold aL eF dO dT
    simp only[hg.1]
    rw[if_neg (by decide),if_neg (by omega)]
    rfl
   ·simp at hg1
def kY (s:aA):Prop:=∀i,i<32→(s.ent i).state=2→j5 s.graph (i:Int)=false
theorem AN:kY dP:=fun i _ h=>absurd h (show (0:Int)≠2 by decide)
theorem zH (s:aA) (sh:Int) (n:Nat):(aA.execIf sh s n).graph=s.graph:=by
 unfold aA.execIf
 split
 ·rename_i h;exact uU s sh n h
 ·rfl
theorem s4 (sh:Int):∀(l:List Nat) (s:aA),(s.execs sh l).graph=s.graph
 | [],_=>rfl
 | a::l,s=>(s4 sh l (aA.execIf sh s a)).trans (zH s sh a)
theorem DA {s:aA} {sh:Int} {n i:Nat} (h:((aA.execIf sh s n).ent i).state=2):(s.ent i).state=2∧i≠n:=by
 unfold aA.execIf at h
 split at h
 ·rename_i e
  by_cases ei:i=n
  ·subst ei
   have:((s.exec sh i).ent i).state=3:=congrArg cW.state (aT _ _ _)
   rw[this] at h
   exact absurd h (by decide)
  ·have:(s.exec sh n).ent i=s.ent i:=aN _ _ ei
   rw[this] at h
   exact⟨h,ei⟩
 ·rename_i e
  exact⟨h,fun k=>e (k ▸ h)⟩
theorem q7 (sh:Int):∀(l:List Nat) {s:aA} {i:Nat},((s.execs sh l).ent i).state=2→(s.ent i).state=2∧i ∉ l
 | [],_,_,h=>⟨h,by simp⟩
 | a::l,s,i,h=>by
  obtain⟨h1,h2⟩:=q7 sh l (s:=aA.execIf sh s a) h
  obtain⟨h3,h4⟩:=DA h1
  exact⟨h3,by simp[h2,h4]⟩
theorem B0 (g:bH) (sh:Int) (t:aA) (n:Nat):(aA.round g sh t n).graph=t.graph:=by
 unfold aA.round
 split
 ·exact s4 sh _ t
 ·rfl
theorem xQ {g:bH} {sh:Int} {t:aA} {n i:Nat} (h:((aA.round g sh t n).ent i).state=2):(t.ent i).state=2:=by
 unfold aA.round at h
 split at h
 ·exact (q7 sh _ h).1
 ·exact h
theorem DX {g:bH} {n:Nat} (hn:n<32) (hr:j5 g (n:Int)=true):n∈dX g (n:Int):=by
 rw[BM hn,if_pos hr]
 exact (AC (y8 g hn) n).2 ((cL g hn n).2 (.refl n))
theorem EJ {g:bH} {sh:Int} {t:aA} {n:Nat} (hn:n<32) (hr:j5 g (n:Int)=true):((aA.round g sh t n).ent n).state≠2:=by
 intro h
 have h2:=xQ h
 unfold aA.round at h
 rw[if_pos h2] at h
 exact (q7 sh _ h).2 (DX hn hr)
theorem AL (s:aA) (sh:Int):kY (s.settle sh)∧(s.settle sh).graph=s.graph:=by
 have:∀k,k≤32→(∀i,i<k→(((List.range k).foldl (aA.round s.graph sh) s).ent i).state=2→j5 s.graph (i:Int)=false)∧((List.range k).foldl (aA.round s.graph sh) s).graph=s.graph:=by
  intro k
  induction k with
  | zero=>exact fun _=>⟨fun i hi=>absurd hi (Nat.not_lt_zero i),rfl⟩
  | succ k ih=>
   intro hk
   obtain⟨i1,i2⟩:=ih (by omega)
   rw[List.range_succ,List.foldl_append]
   refine⟨fun i hi h=>?_,?_⟩
   ·have h:((aA.round s.graph sh ((List.range k).foldl (aA.round s.graph sh) s) k).ent i).state=2:=h
    by_cases e:i<k
    ·exact i1 i e (xQ h)
    ·obtain rfl:i=k:=by omega
     cases hr:j5 s.graph (i:Int)
     ·rfl
     ·exact absurd h (EJ (by omega) hr)
   ·exact (B0 s.graph sh _ k).trans i2
 obtain⟨h1,h2⟩:=this 32 (Nat.le_refl _)
 refine⟨fun i hi h=>?_,h2⟩
 have e:(s.settle sh).graph=s.graph:=h2
 rw[e]
 exact h1 i hi h
theorem AM {s:aA} {who:Int} {f:aD} (h:kY s):kY (aJ s who f).1:=by
 rcases dK s who f with ⟨_,h1,_⟩ | ⟨hg,hf,_,_,_,_,⟨hk,_,e⟩ | ⟨hk,e⟩⟩
 ·rw[h1];exact h
 ·rw[e]
  show kY (s.asked (ofL who) f)
  intro i hi h2
  rw[oY hg (ofL who) hf]
  refine h i hi ?_
  unfold aA.asked at h2
  split at h2
  ·by_cases ei:i=f.id.toNat
   ·rw[ei,jI] at h2
    exact absurd h2 (show (1:Int)≠2 by decide)
   ·rw[e7 s _ f ei] at h2
    exact h2
  ·exact h2
 ·rw[e]
  show kY (s.commit (ofL who) f)
  unfold aA.commit
  split
  ·exact (AL _ _).1
  ·exact h
def Sys.took (S:Sys) (f:aD):Sys:=⟨upd S.B f.node.toNat (aJ (S.B f.node.toNat) f.node f).1,S.C,fun g=>S.M g∨g∈(aJ (S.B f.node.toNat) f.node f).2.1⟩
structure jW (S:Sys):Prop where
 own:∀i:Nat,i<32→d9 (S.C i).deps (i:Int)=false
 most:∀i,i<32→(S.C i).begun=true→(S.C i).fixed=false→eG (S.C i).ops (S.C i).told=false
 kn:∀f,S.M f→f.kind=4→2≤((S.B f.node.toNat).ent f.id.toNat).state
 known:∀i,i<32→∀k,k<6→(S.C i).known k=true→2≤((S.B k).ent i).state
 settled:∀n,n<6→kY (S.B n)
 ask:∀f,S.M f→f.kind=1→bO f.ops (ofL f.node)=true
 first:∀n,n<6→∀i,i<32→∀d:Nat,(d:Int)∈((S.B n).ent i).first→(S.C d).begun=true
 deps:∀i,i<32→∀d:Nat,(d:Int)∈(S.C i).deps→(S.C d).begun=true
theorem jW.start:jW ⟨fun _=>dP,fun _=>cA,fun _=>False⟩:=by
 refine⟨fun _ _=>rfl,fun i _ h=>?_,fun _ h=>h.elim,fun i _ k _ h=>?_,fun _ _=>AN,fun _ h=>h.elim,fun n _ i _ d h=>?_,fun i _ d h=>?_⟩
 ·cases h
 ·cases h
 ·have h:(d:Int)∈([]:List Int):=h
  simp at h
 ·have h:(d:Int)∈([]:List Int):=h
  simp at h
theorem ES {s:aA} {who:Int} {f:aD} (h0:∀n,0≤(s.ent n).state) (i:Nat):(s.ent i).state≤((aJ s who f).1.ent i).state:=(mR s who f h0).state i
theorem jW.node {S:Sys} (h:f8 S) (u:jW S) {f:aD} (hM:S.M f) (hk:f.kind=1∨f.kind=3) (h0:(aJ (S.B f.node.toNat) f.node f).2.2=0):jW (S.took f):=by
 obtain⟨hr1,hr2⟩:=h.s.rng f hM
 have hn6:f.node.toNat<6:=by omega
 have hnat:(f.node.toNat:Int)=f.node:=by omega
 have st:∀n,n<6→∀i,((S.B n).ent i).state≤(((S.took f).B n).ent i).state:=fun n hn i=>by
  show _≤((upd S.B f.node.toNat (aJ (S.B f.node.toNat) f.node f).1 n).ent i).state
  by_cases e:n=f.node.toNat
  ·subst e
   rw[aT];exact ES (h.state _ hn6) i
  ·rw[aN _ _ e];exact Int.le_refl _
 have K:=mR (S.B f.node.toNat) f.node f (h.state _ hn6)
 refine⟨u.own,u.most,fun g hg hg4=>?_,fun i hi k hk6 hkn=>Int.le_trans (u.known i hi k hk6 hkn) (st k hk6 i),fun n hn=>?_,fun g hg hg1=>?_,fun n hn i hi d hd=>?_,u.deps⟩
 ·rcases hg with hg | hg
  ·obtain⟨q1,q2⟩:=h.s.rng g hg
   exact Int.le_trans (u.kn g hg hg4) (st _ (by omega) _)
  ·rcases dK (S.B f.node.toNat) f.node f with ⟨hh,_⟩ | ⟨_,hf,_,_,_,_,⟨_,_,e⟩ | ⟨hk3,e⟩⟩
   ·exact absurd h0 hh
   ·rw[e] at hg
    have hg:g∈[(⟨2,f.node,f.id,[],_,[],[]⟩:aD)]:=hg
    rw[List.mem_singleton] at hg
    rw[hg] at hg4
    exact absurd hg4 (show (2:Int)≠4 by decide)
   ·have hgg:g.node=f.node∧g.id=f.id:=by
     rw[e] at hg
     have hg:g∈((S.B f.node.toNat).commit (ofL f.node) f).answers (ofL f.node) f.node f.id:=hg
     unfold aA.answers at hg
     rcases List.mem_cons.1 hg with hg | hg
     ·rw[hg];exact⟨rfl,rfl⟩
     ·split at hg
      ·rw[List.mem_singleton] at hg
       rw[hg];exact⟨rfl,rfl⟩
      ·simp at hg
    rw[hgg.1,hgg.2]
    show 2≤((upd S.B f.node.toNat (aJ (S.B f.node.toNat) f.node f).1 f.node.toNat).ent f.id.toNat).state
    rw[aT]
    have:=congrArg (fun c=>c.2.2.2.2) (lY h0 hk3)
    have this:decide (2≤((aJ (S.B f.node.toNat) f.node f).1.ent f.id.toNat).state)=_:=this
    by_cases hlt:((S.B f.node.toNat).ent f.id.toNat).state<2
    ·rw[if_pos hlt] at this
     exact of_decide_eq_true this
    ·exact Int.le_trans (by omega) (K.state f.id.toNat)
 ·show kY (upd S.B f.node.toNat _ n)
  by_cases e:n=f.node.toNat
  ·rw[e,aT];exact AM (u.settled _ hn6)
  ·rw[aN _ _ e];exact u.settled n hn
 ·rcases hg with hg | hg
  ·exact u.ask g hg hg1
  ·rcases dK (S.B f.node.toNat) f.node f with ⟨hh,_⟩ | ⟨_,hf,_,_,_,_,⟨_,_,e⟩ | ⟨hk3,e⟩⟩
   ·exact absurd h0 hh
   ·rw[e] at hg
    have hg:g∈[(⟨2,f.node,f.id,[],_,[],[]⟩:aD)]:=hg
    rw[List.mem_singleton] at hg
    rw[hg] at hg1
    exact absurd hg1 (show (2:Int)≠1 by decide)
   ·rw[e] at hg
    have hg:g∈((S.B f.node.toNat).commit (ofL f.node) f).answers (ofL f.node) f.node f.id:=hg
    unfold aA.answers at hg
    rcases List.mem_cons.1 hg with hg | hg
    ·rw[hg] at hg1
     exact absurd hg1 (show (4:Int)≠1 by decide)
    ·split at hg
     ·rw[List.mem_singleton] at hg
      rw[hg] at hg1
      exact absurd hg1 (show (5:Int)≠1 by decide)
     ·simp at hg
 ·have hd:(d:Int)∈((upd S.B f.node.toNat (aJ (S.B f.node.toNat) f.node f).1 n).ent i).first:=hd
  show (S.C d).begun=true
  by_cases e:n=f.node.toNat
  ·rw[e,aT] at hd
   have old:(d:Int)∈((S.B f.node.toNat).ent i).first→(S.C d).begun=true:=fun h1=>u.first _ hn6 i hi d h1
   have new:∀ops sh,(d:Int)∈(S.B f.node.toNat).ahead i ops sh→(S.C d).begun=true:=fun ops sh h1=>by
    obtain⟨d32,_,ds,_⟩:=oK.1 h1
    exact (h.s.ent1 _ hn6 d d32 (by omega)).1
   by_cases ei:i=f.id.toNat
   ·subst ei
    rcases hk with hk | hk
    ·rw[nO h0 hk] at hd
     split at hd
     ·exact new _ _ hd
     ·exact old hd
    ·have:=congrArg (fun c=>c.2.1) (lY h0 hk)
     have this:((aJ (S.B f.node.toNat) f.node f).1.ent f.id.toNat).first=_:=this
     rw[this] at hd
     split at hd
     ·have hd:(d:Int)∈(if ((S.B f.node.toNat).ent f.id.toNat).state=0 then (S.B f.node.toNat).ahead f.id.toNat f.ops (ofL f.node) else ((S.B f.node.toNat).ent f.id.toNat).first):=hd
      split at hd
      ·exact new _ _ hd
      ·exact old hd
     ·exact old hd
   ·have:=congrArg (fun c=>c.2.1) (mQ (s:=S.B f.node.toNat) (who:=f.node) (f:=f) ei)
    have this:((aJ (S.B f.node.toNat) f.node f).1.ent i).first=((S.B f.node.toNat).ent i).first:=this
    rw[this] at hd
    exact old hd
  ·rw[aN _ _ e] at hd
   exact u.first n hn i hi d hd
theorem sV (sh:Int):∀(l:List (Int × Int)) (c:aE),(c.dones sh l).known=c.known
 | [],_=>rfl
 | p::l,c=>by
  show ((aE.done1 sh c p).dones sh l).known=c.known
  rw[sV sh l]
  unfold aE.done1
  split<;>rfl
theorem CG {c:aE} {id:Int} {f:aD} {k:Nat} (h:(aO c id f).1.known k=true):c.known k=true∨(f.kind=4∧k=f.node.toNat):=by
 unfold aO at h
 split at h
 ·exact Or.inl h
 ·split at h
  ·exact Or.inl h
  ·split at h
   ·exact Or.inl h
   ·split at h
    ·split at h<;>exact Or.inl h
    ·split at h
     ·exact Or.inl h
     ·split at h
      ·rename_i h4
       have h:upd c.known f.node.toNat true k=true:=h
       by_cases e:k=f.node.toNat
       ·exact Or.inr ⟨h4,e⟩
       ·rw[aN _ _ e] at h;exact Or.inl h
      ·have h:(c.dones (ofL f.node) (f.ats.zip f.vals)).known k=true:=h
       rw[sV] at h
       exact Or.inl h
theorem i7 {c:aE} {id:Int} {g:aD} (h:g∈cQ c id):(g.kind=1→bO g.ops (ofL g.node)=true)∧g.kind≠4:=by
 unfold cQ at h
 split at h
 ·simp at h
 ·obtain⟨n,_,hg⟩:=List.mem_flatMap.1 h
  unfold aE.send at hg
  split at hg
  ·split at hg
   ·rw[List.mem_singleton] at hg
    rw[hg]
    exact⟨fun e=>absurd e (show (3:Int)≠1 by decide),(show (3:Int)≠4 by decide)⟩
   ·simp at hg
  ·split at hg
   ·rename_i ht
    rw[List.mem_singleton] at hg
    rw[hg]
    rw[Bool.and_eq_true] at ht
    exact⟨fun _=>ht.1,(show (1:Int)≠4 by decide)⟩
   ·simp at hg
theorem uC (c:aE) (id:Int) (f:aD):(aO c id f).1.begun=c.begun:=by
 rcases gE c id f with ⟨_,h1,_⟩ | ⟨_,_,_,_,_,_,he,_⟩ | ⟨_,_,_,hs,_⟩
 ·rw[h1]
 ·rw[he];rfl
 ·exact hs.begun
theorem tR {zs:List Int} {n:Int}:d9 zs n=true↔n∈zs:=by
 unfold d9 eqB
 simp
theorem jW.answer {S:Sys} (h:f8 S) (u:jW S) {f:aD} (hM:S.M f) (h0:(aO (S.C f.id.toNat) f.id f).2.2=0):
  jW ⟨S.B,upd S.C f.id.toNat (aO (S.C f.id.toNat) f.id f).1,fun g=>S.M g∨g∈(aO (S.C f.id.toNat) f.id f).2.1⟩:=by
 obtain⟨hr1,hr2⟩:=h.s.rng f hM
 have hi32:f.id.toNat<32:=by omega
 have hn6:f.node.toNat<6:=by omega
 have hnat:(f.id.toNat:Int)=f.id:=by omega
 have beg:∀d,(upd S.C f.id.toNat (aO (S.C f.id.toNat) f.id f).1 d).begun=(S.C d).begun:=fun d=>by
  rcases eY S.C f.id.toNat (aO (S.C f.id.toNat) f.id f).1 d with ⟨e1,e2⟩ | ⟨_,e2⟩
  ·rw[e2,uC,e1]
  ·rw[e2]
 have D:∀d:Nat,(d:Int)∈(aO (S.C f.id.toNat) f.id f).1.deps→(S.C d).begun=true:=by
  intro d hd
  rcases gE (S.C f.id.toNat) f.id f with ⟨h1,_⟩ | ⟨_,_,hk,_,_,_,he,_⟩ | ⟨_,_,_,hs,_⟩
  ·exact absurd h0 h1
  ·rw[he] at hd
   have hd:(d:Int)∈gX (S.C f.id.toNat).deps f.deps:=hd
   rcases (pW.1 hd).2 with e | e
   ·exact u.deps _ hi32 d e
   ·rw[(h.s.tel f hM hk).2] at e
    exact u.first _ hn6 _ hi32 d e
  ·rw[hs.deps] at hd
   exact u.deps _ hi32 d hd
 have O:d9 (aO (S.C f.id.toNat) f.id f).1.deps (f.id.toNat:Int)=false:=by
  have old:=u.own _ hi32
  rcases gE (S.C f.id.toNat) f.id f with ⟨h1,_⟩ | ⟨_,hg,hk,_,_,_,he,_⟩ | ⟨_,_,_,hs,_⟩
  ·exact absurd h0 h1
  ·rw[he]
   show d9 (gX (S.C f.id.toNat).deps f.deps) (f.id.toNat:Int)=false
   cases e:d9 (gX (S.C f.id.toNat).deps f.deps) (f.id.toNat:Int)
   ·rfl
   ·rcases (pW.1 (tR.1 e)).2 with e | e
    ·rw[tR.2 e] at old;cases old
    ·have F:=h.s.tel f hM hk
     rw[F.2] at e
     have:=((h.s.good _ hn6).fine hi32 (by have:=F.1;omega)).first.2
     rw[tR.2 e] at this;cases this
  ·rw[hs.deps];exact old
 refine⟨fun i hi=>?_,fun i hi hb hf=>?_,fun g hg hg4=>?_,fun i hi k hk hkn=>?_,u.settled,fun g hg hg1=>?_,fun n hn i hi d hd=>?_,fun i hi d hd=>?_⟩
 ·show d9 (upd S.C f.id.toNat (aO (S.C f.id.toNat) f.id f).1 i).deps (i:Int)=false
  rcases eY S.C f.id.toNat (aO (S.C f.id.toNat) f.id f).1 i with ⟨e1,e2⟩ | ⟨_,e2⟩
  ·rw[e2,e1];exact O
  ·rw[e2];exact u.own i hi
 ·have hb:(upd S.C f.id.toNat (aO (S.C f.id.toNat) f.id f).1 i).begun=true:=hb
  have hf:(upd S.C f.id.toNat (aO (S.C f.id.toNat) f.id f).1 i).fixed=false:=hf
  show eG (upd S.C f.id.toNat (aO (S.C f.id.toNat) f.id f).1 i).ops (upd S.C f.id.toNat (aO (S.C f.id.toNat) f.id f).1 i).told=false
  rw[beg] at hb
  rcases eY S.C f.id.toNat (aO (S.C f.id.toNat) f.id f).1 i with ⟨e1,e2⟩ | ⟨_,e2⟩
  ·rw[e2] at hf ⊢
   rcases gE (S.C f.id.toNat) f.id f with ⟨h1,_⟩ | ⟨_,_,_,_,_,_,he,_⟩ | ⟨_,_,_,hs,_⟩
   ·exact absurd h0 h1
   ·rw[he] at hf ⊢
    exact hf
   ·rw[hs.ops,hs.told]
    rw[hs.fixed] at hf
    rw[e1] at hb
    exact u.most _ hi32 hb hf
  ·rw[e2] at hf ⊢
   exact u.most i hi hb hf
 ·rcases hg with hg | hg
  ·exact u.kn g hg hg4
  ·exact absurd hg4 (i7 (lW hg).1).2
 ·have hkn:(upd S.C f.id.toNat (aO (S.C f.id.toNat) f.id f).1 i).known k=true:=hkn
  show 2≤((S.B k).ent i).state
  rcases eY S.C f.id.toNat (aO (S.C f.id.toNat) f.id f).1 i with ⟨e1,e2⟩ | ⟨_,e2⟩
  ·rw[e2] at hkn
   rw[e1]
   rcases CG hkn with e | ⟨e,ek⟩
   ·exact u.known _ hi32 k hk e
   ·rw[ek]
    exact u.kn f hM e
  ·rw[e2] at hkn
   exact u.known i hi k hk hkn
 ·rcases hg with hg | hg
  ·exact u.ask g hg hg1
  ·exact (i7 (lW hg).1).1 hg1
 ·exact (beg d).trans (u.first n hn i hi d hd)
 ·have hd:(d:Int)∈(upd S.C f.id.toNat (aO (S.C f.id.toNat) f.id f).1 i).deps:=hd
  refine (beg d).trans ?_
  rcases eY S.C f.id.toNat (aO (S.C f.id.toNat) f.id f).1 i with ⟨e1,e2⟩ | ⟨_,e2⟩
  ·rw[e2] at hd;exact D d hd
  ·rw[e2] at hd;exact u.deps i hi d hd
theorem jW.again {S:Sys} (u:jW S) (i:Nat):jW ⟨S.B,S.C,fun g=>S.M g∨g∈cQ (S.C i) (i:Int)⟩:=by
 refine⟨u.own,u.most,fun g hg hg4=>?_,u.known,u.settled,fun g hg hg1=>?_,u.first,u.deps⟩
 ·rcases hg with hg | hg
  ·exact u.kn g hg hg4
  ·exact absurd hg4 (i7 hg).2
 ·rcases hg with hg | hg
  ·exact u.ask g hg hg1
  ·exact (i7 hg).1 hg1
theorem GL {ops:List OpL} (h:bN ops=true):eG ops (fun _=>false)=false:=by
 have hk:=zK h
 have e0:nK (fun _=>false) 0=0:=rfl
 have e1:nK (fun _=>false) 1=0:=rfl
 unfold eG
 rw[e0,e1]
 cases ops with
 | nil=>unfold bN at h;simp at h
 | cons o r=>
  have:=hk o (by simp)
  by_cases ho:o.2.1 % 2=0
  ·have:bO (o::r) 0=true:=List.any_eq_true.2 ⟨o,by simp,by simp[lE,ho]⟩
   rw[this]
   rfl
  ·have:bO (o::r) 1=true:=List.any_eq_true.2 ⟨o,by simp,by simp[lE];omega⟩
   rw[this]
   simp
theorem jW.begin {S:Sys} (u:jW S) {i:Nat} {ops:List OpL} (h0:(bE (i:Int) ops).2.2=0):
  jW ⟨S.B,upd S.C i (bE (i:Int) ops).1,fun g=>S.M g∨g∈(bE (i:Int) ops).2.1⟩:=by
 have hgo:=(xB h0).2.1
 have e:bE (i:Int) ops=({ cA with begun:=true,ops:=ops },cQ { cA with begun:=true,ops:=ops } (i:Int),0):=by
  unfold bE at *
  split at h0
  ·exact absurd h0 (show (2:Int)≠0 by decide)
  ·rename_i h1
   rw[if_neg h1]
   split at h0
   ·exact absurd h0 (show (1:Int)≠0 by decide)
   ·rename_i h2
    rw[if_neg h2]
 rw[e]
 obtain⟨c,hc⟩:=zNm ({ cA with begun:=true,ops:=ops }:aE)
 show jW ⟨S.B,upd S.C i { cA with begun:=true,ops:=ops },fun g=>S.M g∨g∈cQ { cA with begun:=true,ops:=ops } (i:Int)⟩
 rw[←hc]
 have beg:∀d,(S.C d).begun=true→(upd S.C i c d).begun=true:=fun d hd=>by
  rcases eY S.C i c d with ⟨_,e2⟩ | ⟨_,e2⟩
  ·rw[e2,hc]
  ·rw[e2];exact hd
 refine⟨fun j hj=>?_,fun j hj hbj hf=>?_,fun g hg hg4=>?_,fun j hj k hk hkn=>?_,u.settled,fun g hg hg1=>?_,fun n hn j hj d hd=>beg d (u.first n hn j hj d hd),fun j hj d hd=>?_⟩
 ·show d9 (upd S.C i c j).deps (j:Int)=false
  rcases eY S.C i c j with ⟨_,e2⟩ | ⟨_,e2⟩
  ·rw[e2,hc];rfl
  ·rw[e2];exact u.own j hj
 ·have hbj:(upd S.C i c j).begun=true:=hbj
  have hf:(upd S.C i c j).fixed=false:=hf
  show eG (upd S.C i c j).ops (upd S.C i c j).told=false
  rcases eY S.C i c j with ⟨_,e2⟩ | ⟨_,e2⟩
  ·rw[e2,hc];exact GL hgo
  ·rw[e2] at hbj hf ⊢;exact u.most j hj hbj hf
 ·rcases hg with hg | hg
  ·exact u.kn g hg hg4
  ·exact absurd hg4 (i7 hg).2
 ·have hkn:(upd S.C i c j).known k=true:=hkn
  show 2≤((S.B k).ent j).state
  rcases eY S.C i c j with ⟨_,e2⟩ | ⟨_,e2⟩
  ·rw[e2,hc] at hkn;cases hkn
  ·rw[e2] at hkn;exact u.known j hj k hk hkn
 ·rcases hg with hg | hg
  ·exact u.ask g hg hg1
  ·exact (i7 hg).1 hg1
 ·have hd:(d:Int)∈(upd S.C i c j).deps:=hd
  refine beg d ?_
  rcases eY S.C i c j with ⟨_,e2⟩ | ⟨_,e2⟩
  ·rw[e2,hc] at hd
   have hd:(d:Int)∈([]:List Int):=hd
   simp at hd
  ·rw[e2] at hd;exact u.deps j hj d hd
def iQ (P:Program) (ty:TypeId) (n:Nat):Prop:=∃d,P.underlying ty=some d∧d.isRow=true∧(P.info? ty).map (·.size)=some n
theorem c9 {P:Program} {ops:Array Oper} {Q:Exit→Act→World→Prop} {rest:List Oper} {a:Act} {w:World} {dst:Option Tmp} {type:TypeId} {pos:String} {after:Array Edge} {guard:Option (Nat × Bool)} {x:Operand} {ty:TypeId} {b o:Nat} {cs:Array Value}
  (hc:w.rangeAt b o cs.toList) (hx:a.eval x= .pointer (some ⟨b,o,none⟩)) (hr:iQ P ty cs.toList.length)
  (hw:Region.wanted ⟨dst,.load ty x,type,pos,after,guard⟩ (yielded ops a.tmps)=true) (h:wpList P ops Q rest (a.put dst (.agg cs)) w):wpList P ops Q (⟨dst,.load ty x,type,pos,after,guard⟩::rest) a w:=by
 obtain⟨d,hu,hd,hi⟩:=hr
 exact jC hw fun K hK=>wp_load_mid ty x rfl b o hx cs.toList d hc hu hd hi (hK _ _ (by simpa using h))
theorem b7 {P:Program} {ops:Array Oper} {Q:Exit→Act→World→Prop} {rest:List Oper} {a:Act} {w:World} {dst:Option Tmp} {type:TypeId} {pos:String} {after:Array Edge} {guard:Option (Nat × Bool)} {x:Operand} {ty t:TypeId} {g:Nat} {cs:Array Value} {fr:Nat × Nat}
  (hg:w.heap[g]? =some (.cells cs t fr)) (hx:a.eval x= .pointer (some ⟨g,0,none⟩)) (hr:iQ P ty cs.size)
  (hw:Region.wanted ⟨dst,.load ty x,type,pos,after,guard⟩ (yielded ops a.tmps)=true) (h:wpList P ops Q rest (a.put dst (.agg cs)) w):wpList P ops Q (⟨dst,.load ty x,type,pos,after,guard⟩::rest) a w:=by
 obtain⟨d,hu,hd,hi⟩:=hr
 refine jC hw fun K hK=>wp_load_row ty x rfl g hx t cs fr d hg hu ?_ hi (hK _ _ h)
 cases d<;>first | rfl | cases hd
theorem bZ {P:Program} {w:World} {ops:Array Oper} {rest:List Oper} {o:Oper} {a:Act} {Q:Exit→Act→World→Prop} (hg:o.guard=none) (ty:TypeId) (ho:o.op= .alloc ty) (cs:Array Value) (hz:(P.info? ty).map (·.zero)=some (some (.agg cs)))
  (h:wpList P ops Q rest (a.put o.dst (.pointer (some ⟨w.heap.size,0,none⟩))) (w.alloc (.cells cs ty))):wpList P ops Q (o::rest) a w:=by
 refine wpList_plain hg fun K hK=>?_
 cases hq:P.info? ty with
 | none=>simp[hq] at hz
 | some i=>
  have hzz:i.zero=some (.agg cs):=by simpa [hq] using hz
  unfold Oper.wp execOp
  simp[ho,Instr.alloc,zeroValue,typeInfo,hq,hzz,newVar,newRow,Value.cells,go_sem]
  exact hK _ _ h
end Go.Proofs.YtkoefoccbjhoiadGreat
