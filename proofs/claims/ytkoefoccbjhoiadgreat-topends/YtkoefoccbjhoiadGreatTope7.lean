/-
squeezed by tools/squeeze.py from: CluS CluT CluU CluV CluW CluX CluY CluZ
-/
import Derived.Test.YtkoefoccbjhoiadGreatTope6
set_option linter.unusedVariables false
set_option linter.unusedSimpArgs false
set_option maxRecDepth 100000
set_option maxHeartbeats 4000000
namespace Go.Proofs.YtkoefoccbjhoiadGreat
open Go.RowKit
structure Sys where
 B:Nat→aB
 C:Nat→aG
 M:aD→Prop
def rL (f:aD):Prop:=(0≤f.node∧f.node<6)∧0≤f.id∧f.id<32
structure iD (S:Sys):Prop where
 good:∀n,n<6→bR (S.B n)
 rng:∀f,S.M f→rL f
 ask:∀f,S.M f→f.kind=1→(S.C f.id.toNat).begun=true∧f.ops=(S.C f.id.toNat).ops
 com:∀f,S.M f→f.kind=3→((S.C f.id.toNat).begun=true∧(S.C f.id.toNat).fixed=true)∧f.ops=(S.C f.id.toNat).ops∧f.deps=(S.C f.id.toNat).deps
 tel:∀f,S.M f→f.kind=2→1≤((S.B f.node.toNat).ent f.id.toNat).state∧f.deps=((S.B f.node.toNat).ent f.id.toNat).first
 don:∀f,S.M f→f.kind=5→((S.B f.node.toNat).ent f.id.toNat).state=3∧f.ats=((S.B f.node.toNat).ent f.id.toNat).ats∧f.vals=((S.B f.node.toNat).ent f.id.toNat).vals
 ent1:∀n,n<6→∀i,i<32→1≤((S.B n).ent i).state→(S.C i).begun=true∧((S.B n).ent i).ops=(S.C i).ops
 ent2:∀n,n<6→∀i,i<32→2≤((S.B n).ent i).state→(S.C i).fixed=true∧((S.B n).ent i).deps=(S.C i).deps
 told:∀i,i<32→∀n,n<6→(S.C i).told n=true→1≤((S.B n).ent i).state∧∀d∈((S.B n).ent i).first,d∈(S.C i).deps
 conf:∀n,n<6→∀x y,x<32→y<32→x≠y→1≤((S.B n).ent x).state→1≤((S.B n).ent y).state→eM (S.C x).ops (S.C y).ops (ofL n)=true→(y:Int)∈((S.B n).ent x).first∨(x:Int)∈((S.B n).ent y).first
 most:∀i,i<32→(S.C i).fixed=true→(S.C i).begun=true∧eC (S.C i).ops (S.C i).told=true
theorem pL {a b:List Int} {x:Nat}:(x:Int)∈gQ a b↔x<32∧((x:Int)∈a∨(x:Int)∈b):=by
 unfold gQ cG
 simp
 constructor
 ·rintro⟨y,⟨h1,h2⟩,e⟩
  obtain rfl:y=x:=by omega
  exact⟨h1,h2⟩
 ·rintro⟨h1,h2⟩
  exact⟨x,⟨h1,h2⟩,rfl⟩
theorem FI {a b:List Int} {d:Int} (h:d∈a) (h0:0≤d∧d<32):d∈gQ a b:=by
 obtain⟨x,rfl⟩:=Int.eq_ofNat_of_zero_le h0.1
 exact pL.2 ⟨by omega,Or.inl h⟩
theorem C5 {a b:List Int} {d:Int} (h:d∈b) (h0:0≤d∧d<32):d∈gQ a b:=by
 obtain⟨x,rfl⟩:=Int.eq_ofNat_of_zero_le h0.1
 exact pL.2 ⟨by omega,Or.inr h⟩
theorem yT {s:aB} (h:bR s) {i:Nat} (hi:i<32):∀d∈(s.ent i).first,0≤d∧d<32:=by
 intro d hd
 rcases h.ent i hi with e | F
 ·rw[e] at hd;simp[j0] at hd
 ·have:=(q8 _ _ F.first.1).1 d hd
  omega
theorem iD.node {S:Sys} (h:iD S) {f:aD} (hM:S.M f) (hk:f.kind=1∨f.kind=3) (h0:(aN (S.B f.node.toNat) f.node f).2.2=0):
  iD ⟨upd S.B f.node.toNat (aN (S.B f.node.toNat) f.node f).1,S.C,fun g=>S.M g∨g∈(aN (S.B f.node.toNat) f.node f).2.1⟩:=by
 obtain⟨hr1,hr2⟩:=h.rng f hM
 have hn6:f.node.toNat<6:=by omega
 have hi32:f.id.toNat<32:=by omega
 have hnat:(f.node.toNat:Int)=f.node:=by omega
 have hG:=h.good _ hn6
 obtain⟨s,hs⟩:∃s,s=S.B f.node.toNat:=⟨_,rfl⟩
 obtain⟨T,hT⟩:∃T,T=aN (S.B f.node.toNat) f.node f:=⟨_,rfl⟩
 rw[←hT] at h0 ⊢
 have hT':T=aN s f.node f:=by rw[hs];exact hT
 rw[←hs] at hG
 have h00:(aN s f.node f).2.2=0:=by rw[←hT'];exact h0
 have hst0:∀i,i<32→0≤(s.ent i).state:=fun i hi=>(hG.state hi).1
 have hG':bR T.1:=by rw[hT'];exact xD h00
 have hops:f.ops=(S.C f.id.toNat).ops∧(S.C f.id.toNat).begun=true:=by
  rcases hk with e | e
  ·exact⟨(h.ask f hM e).2,(h.ask f hM e).1⟩
  ·exact⟨(h.com f hM e).2.1,(h.com f hM e).1.1⟩
 have other:∀i,i≠f.id.toNat→fK (T.1.ent i)=fK (s.ent i):=fun i hi=>by rw[hT'];exact mC hi
 have mine:((s.ent f.id.toNat).state=0→(T.1.ent f.id.toNat).first=s.ahead f.id.toNat f.ops (ofL f.node))∧((s.ent f.id.toNat).state≠0→(T.1.ent f.id.toNat).first=(s.ent f.id.toNat).first)∧
   (T.1.ent f.id.toNat).ops=(S.C f.id.toNat).ops∧1≤(T.1.ent f.id.toNat).state∧(2≤(T.1.ent f.id.toNat).state→(S.C f.id.toNat).fixed=true∧(T.1.ent f.id.toNat).deps=(S.C f.id.toNat).deps):=by
  have hold1:(s.ent f.id.toNat).state≠0→(s.ent f.id.toNat).ops=(S.C f.id.toNat).ops:=fun e=>by
   have:=h.ent1 _ hn6 _ hi32 (by rw[←hs];have:=hst0 _ hi32;omega)
   rw[←hs] at this
   exact this.2
  have hold2:2≤(s.ent f.id.toNat).state→(S.C f.id.toNat).fixed=true∧(s.ent f.id.toNat).deps=(S.C f.id.toNat).deps:=fun e=>by
   have:=h.ent2 _ hn6 _ hi32 (by rw[←hs];exact e)
   rw[←hs] at this
   exact this
  rcases hk with hk | hk
  ·have e:=nA h00 hk
   rw[←hT'] at e
   by_cases z:(s.ent f.id.toNat).state=0
   ·rw[if_pos z] at e
    rw[e]
    exact⟨fun _=>rfl,fun c=>absurd z c,hops.1,by simp,fun c=>absurd c (by simp)⟩
   ·rw[if_neg z] at e
    rw[e]
    exact⟨fun c=>absurd c z,fun _=>rfl,hold1 z,by have:=hst0 _ hi32;omega,hold2⟩
  ·have e:=lK h00 hk
   rw[←hT'] at e
   by_cases l:(s.ent f.id.toNat).state<2
   ·rw[if_pos l] at e
    obtain⟨e1,e2,e3,e4,e5⟩:=CN e
    refine⟨fun z=>by rw[e2,if_pos z],fun z=>by rw[e2,if_neg z],by rw[e1];exact hops.1,of_decide_eq_true e4,fun _=>⟨(h.com f hM hk).1.2,by rw[e3];exact (h.com f hM hk).2.2⟩⟩
   ·rw[if_neg l] at e
    obtain⟨e1,e2,e3,e4,e5⟩:=lN e
    exact⟨fun z=>by omega,fun _=>e2,by rw[e1];exact hold1 (by omega),by rw[e4];omega,fun c=>by rw[e3];exact hold2 (e5.1 c)⟩
 have keep1:∀i,i<32→1≤(s.ent i).state→1≤(T.1.ent i).state∧(T.1.ent i).first=(s.ent i).first:=fun i hi h1=>by
  by_cases e:i=f.id.toNat
  ·subst e
   exact⟨mine.2.2.2.1,mine.2.1 (by omega)⟩
  ·obtain⟨_,e2,_,e4,_⟩:=lN (other i e)
   exact⟨e4.2 h1,e2⟩
 have hdone:∀i,(s.ent i).state=3→T.1.ent i=s.ent i:=fun i hi=>by
  rcases dI s f.node f with ⟨_,e1,_⟩ | ⟨_,_,_,_,_,_,⟨_,_,e⟩ | ⟨_,e⟩⟩
  ·rw[hT',e1]
  ·rw[hT',e];exact (sP s _ f).done i hi
  ·rw[hT',e]
   show (s.commit _ f).ent i=_
   unfold aB.commit
   split
   ·rename_i l
    have p1:=qR s (ofL f.node) f l
    have hp:(s.placed (ofL f.node) f).ent i=s.ent i:=p1.done i hi
    have:∀(l:List Nat) (t:aB) (g:bG),(t.ent i).state=3→(l.foldl (aB.round g (ofL f.node)) t).ent i=t.ent i:=by
     intro l
     induction l with
     | nil=>intros;rfl
     | cons a l ih=>
      intro t g ht
      have h2:(aB.round g (ofL f.node) t a).ent i=t.ent i:=by
       unfold aB.round
       split
       ·have:∀(l:List Nat) (t:aB),(t.ent i).state=3→(l.foldl (aB.execIf (ofL f.node)) t).ent i=t.ent i:=by
         intro l
         induction l with
         | nil=>intros;rfl
         | cons b l ih2=>
          intro t ht
          have h3:=(qQ t (ofL f.node) b).done i ht
          show (l.foldl _ (aB.execIf _ t b)).ent i=_
          rw[ih2 _ (by rw[h3];exact ht),h3]
        exact this _ t ht
       ·rfl
      show (l.foldl _ (aB.round g _ t a)).ent i=_
      rw[ih _ g (by rw[h2];exact ht),h2]
    unfold aB.settle
    rw[this _ _ _ (by rw[hp];exact hi),hp]
   ·rfl
 have at_:∀m,upd S.B f.node.toNat T.1 m=if m=f.node.toNat then T.1 else S.B m:=fun m=>rfl
 have hans:∀g∈T.2.1,g.node=f.node∧g.id=f.id∧(g.kind=2→g.deps=(T.1.ent f.id.toNat).first)∧(g.kind=5→(T.1.ent f.id.toNat).state=3∧g.ats=(T.1.ent f.id.toNat).ats∧g.vals=(T.1.ent f.id.toNat).vals)∧g.kind≠1∧g.kind≠3:=by
  intro g hg
  rcases dI s f.node f with ⟨_,_,e1⟩ | ⟨_,_,_,_,_,_,⟨_,_,e⟩ | ⟨_,e⟩⟩
  ·rw[hT',e1] at hg;simp at hg
  ·rw[hT',e] at hg ⊢
   simp at hg
   subst hg
   exact⟨rfl,rfl,fun _=>rfl,fun c=>absurd c (by simp),by simp,by simp⟩
  ·rw[hT',e] at hg ⊢
   have hg:g∈(s.commit (ofL f.node) f).answers (ofL f.node) f.node f.id:=hg
   unfold aB.answers at hg
   rcases List.mem_cons.1 hg with rfl | hg
   ·exact⟨rfl,rfl,fun c=>absurd c (by simp),fun c=>absurd c (by simp),by simp,by simp⟩
   ·split at hg
    ·rename_i hc
     simp at hg
     subst hg
     exact⟨rfl,rfl,fun c=>absurd c (by simp),fun _=>⟨hc.1,rfl,rfl⟩,by simp,by simp⟩
    ·simp at hg
 refine⟨fun m hm=>?_,fun g hg=>?_,fun g hg hk=>?_,fun g hg hk=>?_,fun g hg hk=>?_,fun g hg hk=>?_,fun m hm i hi h1=>?_,fun m hm i hi h2=>?_,fun i hi m hm ht=>?_,fun m hm x y hx hy hxy h1 h2 hc=>?_,h.most⟩
 ·show bR (upd S.B f.node.toNat T.1 m)
  rw[at_]
  split
  ·exact hG'
  ·exact h.good m hm
 ·rcases hg with hg | hg
  ·exact h.rng g hg
  ·obtain⟨a1,a2,_⟩:=hans g hg
   unfold rL
   rw[a1,a2]
   exact⟨hr1,hr2⟩
 ·rcases hg with hg | hg
  ·exact h.ask g hg hk
  ·exact absurd hk (hans g hg).2.2.2.2.1
 ·rcases hg with hg | hg
  ·exact h.com g hg hk
  ·exact absurd hk (hans g hg).2.2.2.2.2
 ·show 1≤((upd S.B f.node.toNat T.1 g.node.toNat).ent g.id.toNat).state∧g.deps=((upd S.B f.node.toNat T.1 g.node.toNat).ent g.id.toNat).first
  rw[at_]
  rcases hg with hg | hg
  ·obtain⟨t1,t2⟩:=h.tel g hg hk
   have hgr:=h.rng g hg
   split
   ·rename_i e
    rw[e,←hs] at t1 t2
    obtain⟨k1,k2⟩:=keep1 g.id.toNat (by have:=hgr.2;omega) t1
    exact⟨k1,by rw[k2];exact t2⟩
   ·exact⟨t1,t2⟩
  ·obtain⟨a1,a2,a3,_⟩:=hans g hg
   rw[a1,a2,if_pos rfl]
   exact⟨mine.2.2.2.1,a3 hk⟩
 ·show ((upd S.B f.node.toNat T.1 g.node.toNat).ent g.id.toNat).state=3∧g.ats=((upd S.B f.node.toNat T.1 g.node.toNat).ent g.id.toNat).ats∧g.vals=((upd S.B f.node.toNat T.1 g.node.toNat).ent g.id.toNat).vals
  rw[at_]
  rcases hg with hg | hg
  ·obtain⟨t1,t2⟩:=h.don g hg hk
   split
   ·rename_i e
    rw[e,←hs] at t1 t2
    rw[hdone _ t1]
    exact⟨t1,t2⟩
   ·exact⟨t1,t2⟩
  ·obtain⟨a1,a2,_,a4,_⟩:=hans g hg
   rw[a1,a2,if_pos rfl]
   exact a4 hk
 ·have h1:1≤((upd S.B f.node.toNat T.1 m).ent i).state:=h1
  show (S.C i).begun=true∧((upd S.B f.node.toNat T.1 m).ent i).ops=(S.C i).ops
  rw[at_] at h1 ⊢
  split
  ·rename_i e
   rw[if_pos e] at h1
   by_cases ei:i=f.id.toNat
   ·subst ei
    exact⟨hops.2,mine.2.2.1⟩
   ·obtain⟨e1,_,_,e4,_⟩:=lN (other i ei)
    rw[e1]
    have:=h.ent1 m hm i hi (by rw[e,←hs];exact e4.1 h1)
    rw[e,←hs] at this
    exact this
  ·rename_i e
   rw[if_neg e] at h1
   exact h.ent1 m hm i hi h1
 ·have h2:2≤((upd S.B f.node.toNat T.1 m).ent i).state:=h2
  show (S.C i).fixed=true∧((upd S.B f.node.toNat T.1 m).ent i).deps=(S.C i).deps
  rw[at_] at h2 ⊢
  split
  ·rename_i e
   rw[if_pos e] at h2
   by_cases ei:i=f.id.toNat
   ·subst ei
    exact mine.2.2.2.2 h2
   ·obtain⟨_,_,e3,_,e5⟩:=lN (other i ei)
    rw[e3]
    have:=h.ent2 m hm i hi (by rw[e,←hs];exact e5.1 h2)
    rw[e,←hs] at this
    exact this
  ·rename_i e
   rw[if_neg e] at h2
   exact h.ent2 m hm i hi h2
 ·obtain⟨t1,t2⟩:=h.told i hi m hm ht
  show 1≤((upd S.B f.node.toNat T.1 m).ent i).state∧∀d∈((upd S.B f.node.toNat T.1 m).ent i).first,d∈(S.C i).deps
  rw[at_]
  split
  ·rename_i e
   rw[e,←hs] at t1 t2
   obtain⟨k1,k2⟩:=keep1 i hi t1
   exact⟨k1,by rw[k2];exact t2⟩
  ·exact⟨t1,t2⟩
 ·have g1:1≤((upd S.B f.node.toNat T.1 m).ent x).state:=h1
  have g2:1≤((upd S.B f.node.toNat T.1 m).ent y).state:=h2
  clear h1 h2
  have hc:eM (S.C x).ops (S.C y).ops (ofL m)=true:=hc
  show (y:Int)∈((upd S.B f.node.toNat T.1 m).ent x).first∨(x:Int)∈((upd S.B f.node.toNat T.1 m).ent y).first
  rw[at_] at g1 g2 ⊢
  by_cases e:m=f.node.toNat
  ·rw[if_pos e] at g1 g2 ⊢
   subst e
   rw[hnat] at hc
   have old:1≤(s.ent x).state→1≤(s.ent y).state→(y:Int)∈(T.1.ent x).first∨(x:Int)∈(T.1.ent y).first:=fun o1 o2=>by
    rw[(keep1 x hx o1).2,(keep1 y hy o2).2]
    have:=h.conf _ hn6 x y hx hy hxy (by rw[←hs];exact o1) (by rw[←hs];exact o2) (by rw[hnat];exact hc)
    rw[←hs] at this
    exact this
   by_cases ex:x=f.id.toNat
   ·subst ex
    have hy1:1≤(s.ent y).state:=(lN (other y (Ne.symm hxy))).2.2.2.1.1 g2
    by_cases z:(s.ent f.id.toNat).state=0
    ·left
     rw[mine.1 z]
     refine n7.2 ⟨hy,Ne.symm hxy,by omega,?_⟩
     have hyo:=h.ent1 _ hn6 y hy (by rw[←hs];exact hy1)
     rw[←hs] at hyo
     rw[hyo.2,hops.1,qA]
     exact hc
    ·exact old (by have:=hst0 _ hi32;omega) hy1
   ·by_cases ey:y=f.id.toNat
    ·subst ey
     have hx1:1≤(s.ent x).state:=(lN (other x ex)).2.2.2.1.1 g1
     by_cases z:(s.ent f.id.toNat).state=0
     ·right
      rw[mine.1 z]
      refine n7.2 ⟨hx,ex,by omega,?_⟩
      have hxo:=h.ent1 _ hn6 x hx (by rw[←hs];exact hx1)
      rw[←hs] at hxo
      rw[hxo.2,hops.1]
      exact hc
     ·exact old hx1 (by have:=hst0 _ hi32;omega)
    ·exact old ((lN (other x ex)).2.2.2.1.1 g1) ((lN (other y ey)).2.2.2.1.1 g2)
  ·rw[if_neg e] at g1 g2 ⊢
   exact h.conf m hm x y hx hy hxy g1 g2 hc
theorem nZ {c:aG} {id:Int} {g:aD} (h:g∈cQ c id):c.begun=true∧(0≤id∧id<32)∧(0≤g.node∧g.node<6)∧g.id=id∧g.ops=c.ops∧((c.fixed=true∧g.kind=3∧g.deps=c.deps)∨(c.fixed=false∧g.kind=1)):=by
 unfold cQ at h
 split at h
 ·simp at h
 ·rename_i hn
  obtain⟨n,hn6,hg⟩:=List.mem_flatMap.1 h
  have hn6:=List.mem_range.1 hn6
  have hb:c.begun=true:=by
   cases e:c.begun
   ·exact absurd (Or.inr (Or.inl e)) hn
   ·rfl
  have hi0:0≤id:=by
   by_cases e:id<0
   ·exact absurd (Or.inr (Or.inr (Or.inl e))) hn
   ·omega
  have hi1:id<32:=by
   by_cases e:32≤id
   ·exact absurd (Or.inr (Or.inr (Or.inr (Or.inl e)))) hn
   ·omega
  unfold aG.send at hg
  cases hf:c.fixed
  ·rw[hf] at hg
   simp only[Bool.false_eq_true,if_false] at hg
   split at hg
   ·simp at hg
    subst hg
    exact⟨hb,⟨hi0,hi1⟩,⟨by show (0:Int)≤(n:Int);omega,by show (n:Int)<6;omega⟩,rfl,rfl,Or.inr ⟨rfl,rfl⟩⟩
   ·simp at hg
  ·rw[hf] at hg
   simp only[if_true] at hg
   split at hg
   ·simp at hg
    subst hg
    exact⟨hb,⟨hi0,hi1⟩,⟨by show (0:Int)≤(n:Int);omega,by show (n:Int)<6;omega⟩,rfl,rfl,Or.inl ⟨rfl,rfl,rfl⟩⟩
   ·simp at hg
theorem lG {c:aG} {id:Int} {f g:aD} (hg:g∈(aR c id f).2.1):g∈cQ (aR c id f).1 id∧(aR c id f).1.fixed=true:=by
 unfold aR at *
 split at hg
 ·simp at hg
 ·rename_i h1
  rw[if_neg h1]
  split at hg
  ·simp at hg
  ·rename_i h2
   rw[if_neg h2]
   split at hg
   ·simp at hg
   ·rename_i h3
    rw[if_neg h3]
    split at hg
    ·rename_i h4
     rw[if_pos h4]
     split at hg
     ·simp at hg
     ·rename_i h5
      rw[if_neg h5]
      have hg:g∈if (c.hear f).fixed=true then cQ (c.hear f) id else []:=hg
      split at hg
      ·rename_i h6;exact⟨hg,h6⟩
      ·simp at hg
    ·split at hg
     ·simp at hg
     ·split at hg<;>simp at hg
theorem oQ {c:aG} {id:Int} {f:aD} (h:(aR c id f).2.2=0):c.begun=true∧f.id=id:=by
 unfold aR at h
 split at h
 ·exact absurd h (show (2:Int)≠0 by decide)
 ·rename_i h1
  constructor
  ·cases e:c.begun
   ·exact absurd (Or.inr (Or.inl e)) h1
   ·rfl
  ·by_cases e:f.id=id
   ·exact e
   ·exact absurd (Or.inr (Or.inr (Or.inl e))) h1
theorem iD.setC {S:Sys} (h:iD S) {i:Nat} (_hi:i<32) (c:aG) (N:aD→Prop)
  (hb:(S.C i).begun=true→c.begun=true∧c.ops=(S.C i).ops) (hf:(S.C i).fixed=true→c.fixed=true∧c.deps=(S.C i).deps)
  (ht:∀n,n<6→c.told n=true→1≤((S.B n).ent i).state∧∀d∈((S.B n).ent i).first,d∈c.deps) (hm:c.fixed=true→c.begun=true∧eC c.ops c.told=true)
  (hN:∀g,N g→rL g∧g.id.toNat=i∧c.begun=true∧g.ops=c.ops∧((c.fixed=true∧g.kind=3∧g.deps=c.deps)∨g.kind=1)):
  iD ⟨S.B,upd S.C i c,fun g=>S.M g∨N g⟩:=by
 have at_:∀m,upd S.C i c m=if m=i then c else S.C m:=fun m=>rfl
 refine⟨h.good,fun g hg=>?_,fun g hg hk=>?_,fun g hg hk=>?_,fun g hg hk=>?_,fun g hg hk=>?_,fun n hn j hj h1=>?_,fun n hn j hj h2=>?_,fun j hj n hn htl=>?_,fun n hn x y hx hy hxy h1 h2 hc=>?_,fun j hj hfx=>?_⟩
 ·rcases hg with hg | hg
  ·exact h.rng g hg
  ·exact (hN g hg).1
 ·show (upd S.C i c g.id.toNat).begun=true∧g.ops=(upd S.C i c g.id.toNat).ops
  rw[at_]
  rcases hg with hg | hg
  ·obtain⟨a1,a2⟩:=h.ask g hg hk
   split
   ·rename_i e
    rw[e] at a1 a2
    obtain⟨b1,b2⟩:=hb a1
    exact⟨b1,by rw[b2];exact a2⟩
   ·exact⟨a1,a2⟩
  ·obtain⟨_,e,b1,b2,_⟩:=hN g hg
   rw[if_pos e]
   exact⟨b1,b2⟩
 ·show ((upd S.C i c g.id.toNat).begun=true∧(upd S.C i c g.id.toNat).fixed=true)∧g.ops=(upd S.C i c g.id.toNat).ops∧g.deps=(upd S.C i c g.id.toNat).deps
  rw[at_]
  rcases hg with hg | hg
  ·obtain⟨⟨a1,a2⟩,a3,a4⟩:=h.com g hg hk
   split
   ·rename_i e
    rw[e] at a1 a2 a3 a4
    obtain⟨b1,b2⟩:=hb a1
    obtain⟨b3,b4⟩:=hf a2
    exact⟨⟨b1,b3⟩,by rw[b2];exact a3,by rw[b4];exact a4⟩
   ·exact⟨⟨a1,a2⟩,a3,a4⟩
  ·obtain⟨_,e,b1,b2,b3⟩:=hN g hg
   rw[if_pos e]
   rcases b3 with ⟨b3,_,b4⟩ | b3
   ·exact⟨⟨b1,b3⟩,b2,b4⟩
   ·omega
 ·rcases hg with hg | hg
  ·exact h.tel g hg hk
  ·obtain⟨_,_,_,_,b⟩:=hN g hg
   rcases b with ⟨_,b,_⟩ | b<;>omega
 ·rcases hg with hg | hg
  ·exact h.don g hg hk
  ·obtain⟨_,_,_,_,b⟩:=hN g hg
   rcases b with ⟨_,b,_⟩ | b<;>omega
 ·obtain⟨a1,a2⟩:=h.ent1 n hn j hj h1
  show (upd S.C i c j).begun=true∧((S.B n).ent j).ops=(upd S.C i c j).ops
  rw[at_]
  split
  ·rename_i e
   rw[e] at a1 a2 ⊢
   obtain⟨b1,b2⟩:=hb a1
   exact⟨b1,by rw[b2];exact a2⟩
  ·exact⟨a1,a2⟩
 ·obtain⟨a1,a2⟩:=h.ent2 n hn j hj h2
  show (upd S.C i c j).fixed=true∧((S.B n).ent j).deps=(upd S.C i c j).deps
  rw[at_]
  split
  ·rename_i e
   rw[e] at a1 a2 ⊢
   obtain⟨b1,b2⟩:=hf a1
   exact⟨b1,by rw[b2];exact a2⟩
  ·exact⟨a1,a2⟩
 ·have htl:(upd S.C i c j).told n=true:=htl
  show 1≤((S.B n).ent j).state∧∀d∈((S.B n).ent j).first,d∈(upd S.C i c j).deps
  rw[at_] at htl ⊢
  split
  ·rename_i e
   rw[if_pos e] at htl
   rw[e]
   exact ht n hn htl
  ·rename_i e
   rw[if_neg e] at htl
   exact h.told j hj n hn htl
 ·have hops:∀z,z<32→1≤((S.B n).ent z).state→(upd S.C i c z).ops=(S.C z).ops:=fun z hz hz1=>by
   rw[at_]
   split
   ·rename_i e
    rw[e]
    exact (hb (by rw[←e];exact (h.ent1 n hn z hz hz1).1)).2
   ·rfl
  have hc:eM (upd S.C i c x).ops (upd S.C i c y).ops (ofL n)=true:=hc
  rw[hops x hx h1,hops y hy h2] at hc
  exact h.conf n hn x y hx hy hxy h1 h2 hc
 ·have hfx:(upd S.C i c j).fixed=true:=hfx
  show (upd S.C i c j).begun=true∧eC (upd S.C i c j).ops (upd S.C i c j).told=true
  rw[at_] at hfx ⊢
  split
  ·rename_i e
   rw[if_pos e] at hfx
   exact hm hfx
  ·rename_i e
   rw[if_neg e] at hfx
   exact h.most j hj hfx
theorem iD.case {S:Sys} (h:iD S) {f:aD} (hM:S.M f) (h0:(aR (S.C f.id.toNat) f.id f).2.2=0):
  iD ⟨S.B,upd S.C f.id.toNat (aR (S.C f.id.toNat) f.id f).1,fun g=>S.M g∨g∈(aR (S.C f.id.toNat) f.id f).2.1⟩:=by
 obtain⟨hr1,hr2⟩:=h.rng f hM
 have hi32:f.id.toNat<32:=by omega
 have hn6:f.node.toNat<6:=by omega
 have hsend:∀g,g∈(aR (S.C f.id.toNat) f.id f).2.1→rL g∧g.id.toNat=f.id.toNat∧(aR (S.C f.id.toNat) f.id f).1.begun=true∧g.ops=(aR (S.C f.id.toNat) f.id f).1.ops∧
   (((aR (S.C f.id.toNat) f.id f).1.fixed=true∧g.kind=3∧g.deps=(aR (S.C f.id.toNat) f.id f).1.deps)∨g.kind=1):=fun g hg=>by
  obtain⟨h1,h2⟩:=lG hg
  obtain⟨b1,b2,b3,b4,b5,b6⟩:=nZ h1
  refine⟨⟨b3,by rw[b4];exact b2⟩,by rw[b4],b1,b5,?_⟩
  rcases b6 with b6 | b6
  ·exact Or.inl b6
  ·exact Or.inr b6.2
 rcases f8 (S.C f.id.toNat) f.id f with ⟨h1,_⟩ | ⟨_,_,hk,hf,_,_,he,_⟩ | ⟨_,_,_,hs,_,_⟩
 ·exact absurd h0 h1
 ·refine h.setC hi32 _ _ ?_ ?_ ?_ ?_ hsend
  ·rw[he];exact fun e=>⟨e,rfl⟩
  ·intro e;rw[hf] at e;cases e
  ·rw[he]
   intro n hn ht
   have ht:upd (S.C f.id.toNat).told f.node.toNat true n=true:=ht
   show _∧∀d∈((S.B n).ent f.id.toNat).first,d∈gQ (S.C f.id.toNat).deps f.deps
   by_cases e:n=f.node.toNat
   ·subst e
    obtain⟨t1,t2⟩:=h.tel f hM hk
    refine⟨t1,fun d hd=>C5 (by rw[t2];exact hd) (yT (h.good _ hn) hi32 d hd)⟩
   ·rw[aQ _ _ e] at ht
    obtain⟨t1,t2⟩:=h.told _ hi32 n hn ht
    exact⟨t1,fun d hd=>FI (t2 d hd) (yT (h.good _ hn) hi32 d hd)⟩
  ·rw[he]
   intro e
   exact⟨(oQ h0).1,e⟩
 ·refine h.setC hi32 _ _ ?_ ?_ ?_ ?_ hsend
  ·exact fun e=>⟨by rw[hs.begun];exact e,hs.ops⟩
  ·exact fun e=>⟨by rw[hs.fixed];exact e,hs.deps⟩
  ·intro n hn ht
   rw[hs.told] at ht
   rw[hs.deps]
   exact h.told _ hi32 n hn ht
  ·intro e
   rw[hs.fixed] at e
   obtain⟨m1,m2⟩:=h.most _ hi32 e
   exact⟨by rw[hs.begun];exact m1,by rw[hs.ops,hs.told];exact m2⟩
theorem iD.again {S:Sys} (h:iD S) {i:Nat} (hi:i<32):iD ⟨S.B,S.C,fun g=>S.M g∨g∈cQ (S.C i) (i:Int)⟩:=by
  have e:upd S.C i (S.C i)=S.C:=by
    funext j
    unfold upd
    split
    ·rename_i e;rw[e]
    ·rfl
  have:=h.setC hi (S.C i) (fun g=>g∈cQ (S.C i) (i:Int)) (fun e=>⟨e,rfl⟩) (fun e=>⟨e,rfl⟩) (fun n hn ht=>h.told i hi n hn ht) (fun e=>h.most i hi e) (fun g hg=>by
    obtain⟨b1,b2,b3,b4,b5,b6⟩:=nZ hg
    refine⟨⟨b3,by rw[b4];exact b2⟩,by rw[b4];omega,b1,b5,?_⟩
    rcases b6 with b6 | b6
    ·exact Or.inl b6
    ·exact Or.inr b6.2)
  rw[e] at this
  exact this
theorem iD.begin {S:Sys} (h:iD S) {i:Nat} (hi:i<32) (hz:S.C i=b9) (ops:List OpL):
  iD ⟨S.B,upd S.C i { b9 with begun:=true,ops:=ops },fun g=>S.M g∨g∈cQ { b9 with begun:=true,ops:=ops } (i:Int)⟩:=by
 refine h.setC hi _ _ (fun e=>?_) (fun e=>?_) (fun n hn ht=>?_) (fun e=>?_) (fun g hg=>?_)
 ·rw[hz] at e;cases e
 ·rw[hz] at e;cases e
 ·cases ht
 ·cases e
 ·obtain⟨b1,b2,b3,b4,b5,b6⟩:=nZ hg
  refine⟨⟨b3,by rw[b4];exact b2⟩,by rw[b4];omega,b1,b5,?_⟩
  rcases b6 with b6 | b6
  ·exact Or.inl b6
  ·exact Or.inr b6.2
theorem iD.zero:iD ⟨fun _=>dN,fun _=>b9,fun _=>False⟩:=by
 refine⟨fun _ _=>FD,fun _ h=>h.elim,fun _ h=>h.elim,fun _ h=>h.elim,fun _ h=>h.elim,fun _ h=>h.elim,fun n _ i _ h=>?_,fun n _ i _ h=>?_,fun i _ n _ h=>?_,fun n _ x y _ _ _ h=>?_,fun i _ h=>?_⟩
 ·exact absurd h (show ¬ (1:Int)≤0 by decide)
 ·exact absurd h (show ¬ (2:Int)≤0 by decide)
 ·cases h
 ·exact absurd h (show ¬ (1:Int)≤0 by decide)
 ·cases h
def Sys.graph (S:Sys):bG:=⟨fun i=>(S.C i).fixed,fun i=>(S.C i).deps⟩
theorem uG {A A':Nat→Nat→Bool} {P:Nat→Prop} (hs:∀x,P x→∀y,A x y=A' x y) (hc:∀x y,P x→A x y=true→P y) {x y:Nat} (h:b8 A x y):P x→b8 A' x y:=by
 induction h using b8.ind with
 | refl x=>exact fun _=> .refl x
 | step a h ih=>exact fun hx=> .step (by rw[←hs _ hx];exact a) (ih (hc _ _ hx a))
theorem pJ {g g':bG} {P:Nat→Prop} (h32:∀x,P x→x<32) (hs:∀x,P x→∀y,g.adj x y=g'.adj x y) (hc:∀x y,P x→g.adj x y=true→P y) {x:Nat} (hx:P x) (y:Nat):cE g x y=cE g' x y:=by
 rw[Bool.eq_iff_iff,cH g (h32 x hx),cH g' (h32 x hx)]
 exact⟨fun h=>uG hs hc h hx,fun h=>uG (fun x hx y=>(hs x hx y).symm) (fun x y hx a=>hc x y hx (by rw[hs x hx];exact a)) h hx⟩
theorem iD.sorted {S:Sys} (h:iD S) {n:Nat} (hn:n<6) (hS:g7 (S.B n)):mY (cE S.graph) (S.B n).did:=by
 refine hS.sorted.later fun x hx y _=>?_
 refine pJ (P:=fun x=>x∈(S.B n).did) hS.sorted.lt (fun x hx y=>?_) (fun x y hx a=>?_) hx y
 ·have hx32:=hS.sorted.lt x hx
  have h3:=(mH (h.good n hn) hx32).1 hx
  obtain⟨e1,e2⟩:=h.ent2 n hn x hx32 (by rw[h3];decide)
  have k:(S.B n).graph.known x=S.graph.known x:=by
   show decide (2≤((S.B n).ent x).state)=(S.C x).fixed
   rw[h3,e1];rfl
  have d:(S.B n).graph.deps x=S.graph.deps x:=e2
  unfold bG.adj
  rw[k,d]
 ·exact hS.sorted.closed x hx y (bG.adj_lt _ x y a) ((cH _ (hS.sorted.lt x hx) y).2 (.one a))
theorem iD.did_fixed {S:Sys} (h:iD S) {n:Nat} (hn:n<6) {x:Nat} (hx:x<32) (hd:x∈(S.B n).did):(S.C x).fixed=true:=
 (h.ent2 n hn x hx (by rw[(mH (h.good n hn) hx).1 hd];decide)).1
def after (sh:Int) (ops:Nat→List OpL):List Nat→(Nat→Int)→(Nat→Int)
 | [],v=>v
 | x::l,v=>after sh ops l (cM sh 0 (ops x) v).1
theorem qI (sh:Int) (ops:Nat→List OpL):∀(l m:List Nat) (v:Nat→Int),after sh ops (l++m) v=after sh ops m (after sh ops l v)
 | [],_,_=>rfl
 | x::l,m,v=>qI sh ops l m (cM sh 0 (ops x) v).1
theorem oK (sh:Int) {ops ops':Nat→List OpL}:∀(l:List Nat) (v:Nat→Int),(∀x∈l,ops x=ops' x)→after sh ops l v=after sh ops' l v
 | [],_,_=>rfl
 | x::l,v,h=>by
  show after sh ops l (cM sh 0 (ops x) v).1=after sh ops' l (cM sh 0 (ops' x) v).1
  rw[h x (by simp),oK sh l _ fun y hy=>h y (by simp[hy])]
structure jN (sh:Int) (s:aB):Prop where
 all:s.vals=after sh (fun x=>(s.ent x).ops) s.did fun _=>0
 each:∀pre x post,s.did=pre++x::post→(s.ent x).ats=(cM sh 0 (s.ent x).ops (after sh (fun x=>(s.ent x).ops) pre fun _=>0)).2.1∧(s.ent x).vals=(cM sh 0 (s.ent x).ops (after sh (fun x=>(s.ent x).ops) pre fun _=>0)).2.2
theorem J4 (sh:Int):jN sh dN:=⟨rfl,by intro pre x post e;simp[dN,aB.did] at e⟩
theorem jN.same {sh:Int} {s t:aB} (V:jN sh s) (hd:t.did=s.did) (hv:t.vals=s.vals) (he:∀x∈s.did,t.ent x=s.ent x):jN sh t:=by
 refine⟨?_,fun pre x post e=>?_⟩
 ·rw[hv,hd,V.all]
  exact oK sh _ _ fun x hx=>by rw[he x hx]
 ·rw[hd] at e
  have hx:x∈s.did:=by rw[e];simp
  rw[he x hx]
  have:after sh (fun x=>(t.ent x).ops) pre (fun _=>0)=after sh (fun x=>(s.ent x).ops) pre (fun _=>0):=oK sh _ _ fun y hy=>by rw[he y (by rw[e];simp[hy])]
  rw[this]
  exact V.each pre x post e
theorem J2 {sh:Int} {s:aB} (h:bR s) (V:jN sh s) {n:Nat} (hn:n<32) (hs:(s.ent n).state=2):jN sh (s.exec sh n):=by
 have ops:(fun x=>((s.exec sh n).ent x).ops)=fun x=>(s.ent x).ops:=by
  funext x
  exact congrArg Prod.fst (wK s sh hs x)
 have did:(s.exec sh n).did=s.did++[n]:=by unfold aB.did aB.exec;simp
 have no:n ∉ s.did:=fun e=>by
  have:=(mH h hn).1 e
  omega
 have same:(s.exec sh n).ent n=⟨3,(s.ent n).ops,(s.ent n).first,(s.ent n).deps,(cM sh 0 (s.ent n).ops s.vals).2.1,(cM sh 0 (s.ent n).ops s.vals).2.2⟩:=aU _ _ _
 refine⟨?_,fun pre x post e=>?_⟩
 ·rw[ops,did,qI]
  show (cM sh 0 (s.ent n).ops s.vals).1=(cM sh 0 (s.ent n).ops (after sh (fun x=>(s.ent x).ops) s.did fun _=>0)).1
  rw[←V.all]
 ·rw[ops]
  rw[did] at e
  rw[List.append_eq_append_iff] at e
  have last:∀p q,[n]=p++x::q→s.did++p=pre→((s.exec sh n).ent x).ats=(cM sh 0 ((s.exec sh n).ent x).ops (after sh (fun x=>(s.ent x).ops) pre fun _=>0)).2.1∧((s.exec sh n).ent x).vals=(cM sh 0 ((s.exec sh n).ent x).ops (after sh (fun x=>(s.ent x).ops) pre fun _=>0)).2.2:=by
   intro p q e1 e2
   cases p with
   | nil=>
    simp at e1 e2
    obtain⟨rfl,_⟩:=e1
    rw[same,←e2,←V.all]
    exact⟨rfl,rfl⟩
   | cons a p=>simp at e1
  rcases e with ⟨qs,e1,e2⟩ | ⟨bs,e1,e2⟩
  ·exact last qs post e2 e1.symm
  ·cases bs with
   | nil=>exact last [] post (by simpa using e2.symm) (by simpa using e1)
   | cons b bs=>
    simp only[List.cons_append,List.cons.injEq] at e2
    obtain⟨rfl,_⟩:=e2
    have hx:x∈s.did:=by rw[e1];simp
    have:(s.exec sh n).ent x=s.ent x:=aQ _ _ (fun e=>no (e ▸ hx))
    rw[this]
    exact V.each pre x bs e1
theorem xH (sh:Int):∀(l:List Nat) {s:aB},(∀x∈l,x<32)→bR s→jN sh s→jN sh (s.execs sh l)
 | [],_,_,_,V=>V
 | a::l,s,hl,h,V=>by
  have h1:bR (aB.execIf sh s a)∧jN sh (aB.execIf sh s a):=by
   unfold aB.execIf
   split
   ·rename_i e;exact⟨wO h sh (hl a (by simp)) e,J2 h V (hl a (by simp)) e⟩
   ·exact⟨h,V⟩
  exact xH (s:=aB.execIf sh s a) sh l (fun x hx=>hl x (by simp[hx])) h1.1 h1.2
theorem D9 {sh:Int} {s:aB} (h:bR s) (V:jN sh s):jN sh (s.settle sh):=by
 have:∀(l:List Nat) (t:aB),bR t→jN sh t→jN sh (l.foldl (aB.round s.graph sh) t):=by
  intro l
  induction l with
  | nil=>exact fun t _ ht=>ht
  | cons a l ih=>
   intro t ht hv
   have h1:bR (aB.round s.graph sh t a)∧jN sh (aB.round s.graph sh t a):=by
    unfold aB.round
    split
    ·exact⟨k7 (s:=t) sh _ (kB _ _) ht,xH (s:=t) sh _ (kB _ _) ht hv⟩
    ·exact⟨ht,hv⟩
   exact ih _ h1.1 h1.2
 exact this _ s h V
theorem J3 {s:aB} {who:Int} {f:aD} (V:jN (ofL who) s):jN (ofL who) (aN s who f).1:=by
 rcases dI s who f with ⟨_,h1,_⟩ | ⟨hg,hf,_,_,_,_,⟨hk,_,e⟩ | ⟨hk,e⟩⟩
 ·rw[h1];exact V
 ·rw[e]
  obtain⟨i1,i2,_⟩:=jW hf
  show jN _ (s.asked (ofL who) f)
  unfold aB.asked
  split
  ·rename_i h0
   refine V.same rfl rfl fun x hx=>eY s _ f fun e=>?_
   subst e
   have:=(mH hg (by omega)).1 hx
   omega
  ·exact V
 ·rw[e]
  obtain⟨i1,i2,_⟩:=jW hf
  show jN _ (s.commit (ofL who) f)
  unfold aB.commit
  split
  ·rename_i h0
   refine D9 (lC hg _ hf hk h0) (V.same rfl rfl fun x hx=>aQ _ _ fun e=>?_)
   subst e
   have:=(mH hg (by omega)).1 hx
   omega
  ·exact V
def tO (a:Int):Prop:= -1099511627776≤a∧a≤1099511627776
theorem ES (v kind n:Int):tO (doL v kind n):=by
 unfold doL
 split
 ·exact⟨rS _,rQ _⟩
 ·split<;>exact⟨rS _,rQ _⟩
theorem A0 {g:bG} {n:Nat} (hn:n<32):dV g (n:Int)=if jQ g (n:Int)=true then dO (cE g) (cE g n) 32 else []:=by
 cases hr:jQ g (n:Int)
 ·rw[if_neg (by simp)]
  unfold dV
  rw[hr]
  rfl
 ·rw[if_pos rfl,←uM g hn]
  unfold dV
  rw[hr]
  rfl
structure fX (S:Sys) (a b:Nat):Prop where
 fixed:∀d,d<32→cE S.graph b d=true→(S.C d).fixed=true∧d≠a
 begun:(S.C a).begun=true
 first:∀n,n<6→(S.C b).told n=true→1≤((S.B n).ent a).state→eM (S.C a).ops (S.C b).ops (ofL n)=true→(b:Int)∈((S.B n).ent a).first
theorem fX.self {S:Sys} {a b:Nat} (hb:b<32) (h:fX S a b):(S.C b).fixed=true∧b≠a:=h.fixed b hb ((cH _ hb b).2 (.refl b))
theorem fX.new {S:Sys} {a b:Nat} (hI:iD S) (ha:a<32) (hz:(S.C a).begun=false) {m:Nat} (hm:m<6) (sm:g7 (S.B m)) (hd:b∈(S.B m).did) (c:aG) (hc:c.begun=true) (N:aD→Prop):
  fX ⟨S.B,upd S.C a c,N⟩ a b:=by
 have hD:=hI.sorted hm sm
 have hb:=hD.lt b hd
 have na:∀d,d<32→(S.C d).fixed=true→d≠a:=fun d hd32 hf e=>by
  subst e
  rw[(hI.most d hd32 hf).1] at hz;cases hz
 have fixedD:∀d∈(S.B m).did,(S.C d).fixed=true:=fun d hdd=>hI.did_fixed hm (hD.lt d hdd) hdd
 have same:∀d,cE S.graph b d=cE (Sys.graph ⟨S.B,upd S.C a c,N⟩) b d:=by
  intro d
  refine pJ (P:=fun x=>x∈(S.B m).did) hD.lt (fun x hx y=>?_) (fun x y hx e=>hD.closed x hx y (bG.adj_lt _ x y e) ((cH _ (hD.lt x hx) y).2 (.one e))) hd d
  have hne:=na x (hD.lt x hx) (fixedD x hx)
  have e:upd S.C a c x=S.C x:=aQ _ _ hne
  unfold bG.adj Sys.graph
  simp only[e]
 refine⟨fun d hd32 hbd=>?_,by show (upd S.C a c a).begun=true;rw[aU];exact hc,fun n hn _ h1 _=>?_⟩
 ·rw[←same] at hbd
  have hdd:=hD.closed b hd d hd32 hbd
  have hne:=na d hd32 (fixedD d hdd)
  refine⟨?_,hne⟩
  show (upd S.C a c d).fixed=true
  rw[aQ _ _ hne]
  exact fixedD d hdd
 ·exfalso
  have:=(hI.ent1 n hn a ha h1).1
  rw[hz] at this;cases this
theorem fX.later {S T:Sys} {a b:Nat} (hI:iD S) (ha:a<32) (hb:b<32) (h:fX S a b)
  (hf:∀d,d<32→(S.C d).fixed=true→(T.C d).fixed=true∧(T.C d).deps=(S.C d).deps∧(T.C d).told=(S.C d).told)
  (hbg:∀d,d<32→(S.C d).begun=true→(T.C d).begun=true∧(T.C d).ops=(S.C d).ops)
  (hB:∀n,n<6→1≤((S.B n).ent a).state→((T.B n).ent a).first=((S.B n).ent a).first)
  (hN:∀n,n<6→((S.B n).ent a).state<1→1≤((T.B n).ent a).state→1≤((S.B n).ent b).state→eM (S.C b).ops (S.C a).ops (ofL n)=true→(b:Int)∈((T.B n).ent a).first):fX T a b:=by
 obtain⟨fb,hne⟩:=h.self hb
 have same:∀d,cE S.graph b d=cE T.graph b d:=by
  intro d
  refine pJ (P:=fun x=>x<32∧cE S.graph b x=true) (fun x hx=>hx.1) (fun x hx y=>?_) (fun x y hx e=>?_) ⟨hb,(cH _ hb b).2 (.refl b)⟩ d
  ·obtain⟨fx,_⟩:=h.fixed x hx.1 hx.2
   obtain⟨e1,e2,_⟩:=hf x hx.1 fx
   unfold bG.adj Sys.graph
   simp only[fx,e1,e2]
  ·have hy:=bG.adj_lt _ x y e
   exact⟨hy,(cH _ hb y).2 (((cH _ hb x).1 hx.2).trans (.one e))⟩
 have opsa:=(hbg a ha h.begun)
 have opsb:=(hbg b hb (hI.most b hb fb).1)
 refine⟨fun d hd hbd=>?_,opsa.1,fun n hn ht h1 hc=>?_⟩
 ·rw[←same] at hbd
  obtain⟨fd,hda⟩:=h.fixed d hd hbd
  exact⟨(hf d hd fd).1,hda⟩
 ·rw[(hf b hb fb).2.2] at ht
  rw[opsa.2,opsb.2] at hc
  by_cases h0:1≤((S.B n).ent a).state
  ·rw[hB n hn h0]
   exact h.first n hn ht h0 hc
  ·exact hN n hn (by omega) h1 (hI.told b hb n hn ht).1 (by rw[qA];exact hc)
theorem wJ (sh:Int):∀(l:List (Int × Int)) (c:aG) (k:Nat),(c.dones sh l).has k=true→c.has k=true∨∃p∈l,p.1.toNat=k∧(c.dones sh l).vals k=p.2
 | [],_,_,h=>Or.inl h
 | p::l,c,k,h=>by
  have e:c.dones sh (p::l)=(aG.done1 sh c p).dones sh l:=rfl
  rw[e] at h ⊢
  rcases wJ sh l (aG.done1 sh c p) k h with h1 | ⟨q,hq,h1,h2⟩
  ·by_cases hc:c.has k=true
   ·exact Or.inl hc
   ·right
    refine⟨p,by simp,?_⟩
    have kv:=((oL sh l (aG.done1 sh c p)).2 k h1).2
    rw[kv]
    unfold aG.done1 at h1 ⊢
    split at h1
    ·rename_i hp
     rw[if_pos hp]
     have h1:upd c.has p.1.toNat true k=true:=h1
     by_cases ek:k=p.1.toNat
     ·refine⟨ek.symm,?_⟩
      show upd c.vals p.1.toNat p.2 k=p.2
      rw[ek,aU]
     ·rw[aQ _ _ ek] at h1
      exact absurd h1 hc
    ·exact absurd h1 hc
  ·exact Or.inr ⟨q,by simp[hq],h1,h2⟩
theorem yG:∀(l:Int) (n:Nat) (zs:List Int),dK l n zs=true→∀z∈zs,l<z
 | _,_,[],_=>by simp
 | l,n,k::r,h=>by
  unfold dK at h
  simp only[Bool.and_eq_true,decide_eq_true_iff] at h
  intro z hz
  rcases List.mem_cons.1 hz with e | e
  ·rw[e];exact h.1.1
  ·have:=yG k n r h.2 z e
   omega
theorem GS {c:aG} {id:Int} {f:aD} {k:Nat} (h:(aR c id f).1.has k=true):c.has k=true∨(f.kind=5∧∃p∈f.ats.zip f.vals,p.1.toNat=k∧(aR c id f).1.vals k=p.2):=by
 unfold aR at *
 split
 ·rename_i h1;rw[if_pos h1] at h;exact Or.inl h
 ·rename_i h1
  rw[if_neg h1] at h
  split
  ·rename_i h2;rw[if_pos h2] at h;exact Or.inl h
  ·rename_i h2
   rw[if_neg h2] at h
   split
   ·rename_i h3;rw[if_pos h3] at h;exact Or.inl h
   ·rename_i h3
    rw[if_neg h3] at h
    split
    ·rename_i h4
     rw[if_pos h4] at h
     split at h<;>exact Or.inl h
    ·rename_i h4
     rw[if_neg h4] at h
     split
     ·rename_i h5;rw[if_pos h5] at h;exact Or.inl h
     ·rename_i h5
      rw[if_neg h5] at h
      split
      ·rename_i h6;rw[if_pos h6] at h;exact Or.inl h
      ·rename_i h6
       rw[if_neg h6] at h
       have hk:f.kind=5:=by
        have hg:aM f=0:=by
         by_cases e:aM f=0
         ·exact e
         ·exact absurd e h2
        unfold aM at hg
        split at hg
        ·exact absurd hg (by decide)
        ·rename_i hk
         omega
       rcases wJ (ofL f.node) _ c k h with e | e
       ·exact Or.inl e
       ·exact Or.inr ⟨hk,e⟩
structure fW (S:Sys):Prop where
 s:iD S
 sort:∀n,n<6→g7 (S.B n)
 val:∀n:Nat,n<6→jN (ofL (n:Int)) (S.B n)
 state:∀n,n<6→∀j,0≤((S.B n).ent j).state
 case:∀i,i<32→(S.C i).begun=true→nK (S.C i).ops (S.C i)
 zero:∀i,i<32→(S.C i).begun=false→S.C i=b9
 has:∀i,i<32→∀k,(S.C i).has k=true→∃m,m<6∧((S.B m).ent i).state=3∧((k:Int),(S.C i).vals k)∈((S.B m).ent i).ats.zip ((S.B m).ent i).vals
theorem fW.start:fW ⟨fun _=>dN,fun _=>b9,fun _=>False⟩:=
 ⟨iD.zero,fun _ _=>GQ,fun _ _=>J4 _,fun _ _ _=>Int.le_refl _,fun i _ h=>(by cases h),fun _ _ _=>rfl,fun i _ k h=>(by cases h)⟩
theorem fW.node {S:Sys} (h:fW S) {f:aD} (hM:S.M f) (hk:f.kind=1∨f.kind=3) (h0:(aN (S.B f.node.toNat) f.node f).2.2=0):
  fW ⟨upd S.B f.node.toNat (aN (S.B f.node.toNat) f.node f).1,S.C,fun g=>S.M g∨g∈(aN (S.B f.node.toNat) f.node f).2.1⟩:=by
 obtain⟨hr1,hr2⟩:=h.s.rng f hM
 have hn6:f.node.toNat<6:=by omega
 have hnat:(f.node.toNat:Int)=f.node:=by omega
 have K:=mD (S.B f.node.toNat) f.node f (h.state _ hn6)
 refine⟨h.s.node hM hk h0,fun n hn=>?_,fun n hn=>?_,fun n hn j=>?_,h.case,h.zero,fun i hi k hh=>?_⟩
 ·show g7 (upd S.B f.node.toNat _ n)
  by_cases e:n=f.node.toNat
  ·rw[e,aU];exact GW (h.sort _ hn6)
  ·rw[aQ _ _ e];exact h.sort n hn
 ·show jN (ofL (n:Int)) (upd S.B f.node.toNat _ n)
  by_cases e:n=f.node.toNat
  ·rw[e,aU,hnat]
   have:=h.val _ hn6
   rw[hnat] at this
   exact J3 this
  ·rw[aQ _ _ e];exact h.val n hn
 ·show 0≤((upd S.B f.node.toNat _ n).ent j).state
  by_cases e:n=f.node.toNat
  ·rw[e,aU]
   exact Int.le_trans (h.state _ hn6 j) (K.state j)
  ·rw[aQ _ _ e];exact h.state n hn j
 ·obtain⟨m,hm,h3,hz⟩:=h.has i hi k hh
  refine⟨m,hm,?_⟩
  show ((upd S.B f.node.toNat (aN (S.B f.node.toNat) f.node f).1 m).ent i).state=3∧_∈((upd S.B f.node.toNat (aN (S.B f.node.toNat) f.node f).1 m).ent i).ats.zip ((upd S.B f.node.toNat (aN (S.B f.node.toNat) f.node f).1 m).ent i).vals
  by_cases e:m=f.node.toNat
  ·subst e
   rw[aU]
   have same:=K.done i h3
   rw[same]
   exact⟨h3,hz⟩
  ·rw[aQ _ _ e]
   exact⟨h3,hz⟩
theorem eW (C:Nat→aG) (i:Nat) (c:aG):∀j,(j=i∧upd C i c j=c)∨(j≠i∧upd C i c j=C j):=by
 intro j
 by_cases e:j=i
 ·exact Or.inl ⟨e,by rw[e,aU]⟩
 ·exact Or.inr ⟨e,aQ _ _ e⟩
theorem fW.answer {S:Sys} (h:fW S) {f:aD} (hM:S.M f) (h0:(aR (S.C f.id.toNat) f.id f).2.2=0):
  fW ⟨S.B,upd S.C f.id.toNat (aR (S.C f.id.toNat) f.id f).1,fun g=>S.M g∨g∈(aR (S.C f.id.toNat) f.id f).2.1⟩:=by
 obtain⟨hr1,hr2⟩:=h.s.rng f hM
 have hi32:f.id.toNat<32:=by omega
 have hn6:f.node.toNat<6:=by omega
 obtain⟨hb,_⟩:=oQ h0
 obtain⟨rs,kv⟩:=zR (id:=f.id) (f:=f) (h.case _ hi32 hb)
 refine⟨h.s.case hM h0,h.sort,h.val,h.state,fun i hi e=>?_,fun i hi e=>?_,fun i hi k hh=>?_⟩
 ·have e:(upd S.C f.id.toNat (aR (S.C f.id.toNat) f.id f).1 i).begun=true:=e
  show nK (upd S.C f.id.toNat (aR (S.C f.id.toNat) f.id f).1 i).ops (upd S.C f.id.toNat (aR (S.C f.id.toNat) f.id f).1 i)
  rcases eW S.C f.id.toNat (aR (S.C f.id.toNat) f.id f).1 i with ⟨_,e2⟩ | ⟨_,e2⟩
  ·rw[e2,rs.eops];exact rs
  ·rw[e2] at e ⊢;exact h.case i hi e
 ·have e:(upd S.C f.id.toNat (aR (S.C f.id.toNat) f.id f).1 i).begun=false:=e
  show upd S.C f.id.toNat (aR (S.C f.id.toNat) f.id f).1 i=b9
  rcases eW S.C f.id.toNat (aR (S.C f.id.toNat) f.id f).1 i with ⟨_,e2⟩ | ⟨_,e2⟩
  ·rw[e2,rs.begun] at e;cases e
  ·rw[e2] at e ⊢;exact h.zero i hi e
 ·have hh:(upd S.C f.id.toNat (aR (S.C f.id.toNat) f.id f).1 i).has k=true:=hh
  show ∃m,m<6∧((S.B m).ent i).state=3∧((k:Int),(upd S.C f.id.toNat (aR (S.C f.id.toNat) f.id f).1 i).vals k)∈((S.B m).ent i).ats.zip ((S.B m).ent i).vals
  rcases eW S.C f.id.toNat (aR (S.C f.id.toNat) f.id f).1 i with ⟨e1,e2⟩ | ⟨_,e2⟩
  ·rw[e2] at hh ⊢
   clear e2
   subst e1
   rename (aR (S.C f.id.toNat) f.id f).1.has k=true=>hh2
   rcases GS hh2 with e | ⟨hk,p,hp,h1,h2⟩
   ·rw[(kv k e).2]
    exact h.has _ hi32 k e
   ·obtain⟨d1,d2,d3⟩:=h.s.don f hM hk
    refine⟨f.node.toNat,hn6,d1,?_⟩
    rw[←d2,←d3,h2]
    have F:=(h.s.good _ hn6).fine hi32 (by rw[d1];decide)
    have hz:p.1∈f.ats:=(List.of_mem_zip (a:=p.1) (b:=p.2) hp).1
    rw[d2] at hz
    have:=yG _ _ _ F.ats _ hz
    have e:(k:Int)=p.1:=by omega
    rw[e]
    exact hp
  ·rw[e2] at hh ⊢;exact h.has i hi k hh
theorem fW.again {S:Sys} (h:fW S) {i:Nat} (hi:i<32):fW ⟨S.B,S.C,fun g=>S.M g∨g∈cQ (S.C i) (i:Int)⟩:=
 ⟨h.s.again hi,h.sort,h.val,h.state,h.case,h.zero,h.has⟩
theorem fW.begin {S:Sys} (h:fW S) {i:Nat} (hi:i<32) (hb:(S.C i).begun=false) {ops:List OpL} (h0:(bI (i:Int) ops).2.2=0):
  fW ⟨S.B,upd S.C i (bI (i:Int) ops).1,fun g=>S.M g∨g∈(bI (i:Int) ops).2.1⟩:=by
 have rs:=wY h0
 have hz:=h.zero i hi hb
 have e:bI (i:Int) ops=({ b9 with begun:=true,ops:=ops },cQ { b9 with begun:=true,ops:=ops } (i:Int),0):=by
  unfold bI at *
  split at h0
  ·exact absurd h0 (show (2:Int)≠0 by decide)
  ·rename_i h1
   rw[if_neg h1]
   split at h0
   ·exact absurd h0 (show (1:Int)≠0 by decide)
   ·rename_i h2
    rw[if_neg h2]
 rw[e] at rs ⊢
 refine⟨h.s.begin hi hz ops,h.sort,h.val,h.state,fun j hj eb=>?_,fun j hj eb=>?_,fun j hj k hh=>?_⟩
 ·have eb:(upd S.C i { b9 with begun:=true,ops:=ops } j).begun=true:=eb
  show nK (upd S.C i { b9 with begun:=true,ops:=ops } j).ops (upd S.C i { b9 with begun:=true,ops:=ops } j)
  rcases eW S.C i { b9 with begun:=true,ops:=ops } j with ⟨_,e2⟩ | ⟨_,e2⟩
  ·rw[e2];exact rs
  ·rw[e2] at eb ⊢;exact h.case j hj eb
 ·have eb:(upd S.C i { b9 with begun:=true,ops:=ops } j).begun=false:=eb
  show upd S.C i { b9 with begun:=true,ops:=ops } j=b9
  rcases eW S.C i { b9 with begun:=true,ops:=ops } j with ⟨_,e2⟩ | ⟨_,e2⟩
  ·rw[e2] at eb;cases eb
  ·rw[e2] at eb ⊢;exact h.zero j hj eb
 ·have hh:(upd S.C i { b9 with begun:=true,ops:=ops } j).has k=true:=hh
  show ∃m,m<6∧((S.B m).ent j).state=3∧((k:Int),(upd S.C i { b9 with begun:=true,ops:=ops } j).vals k)∈((S.B m).ent j).ats.zip ((S.B m).ent j).vals
  rcases eW S.C i { b9 with begun:=true,ops:=ops } j with ⟨_,e2⟩ | ⟨_,e2⟩
  ·rw[e2] at hh;cases hh
  ·rw[e2] at hh ⊢;exact h.has j hj k hh
theorem yV {zs:List OpL} (h:bO zs=true):∀o∈zs,0≤o.2.1∧o.2.1<8:=by
 intro o ho
 unfold bO at h
 rw[Bool.and_eq_true] at h
 obtain⟨i,hi,e⟩:=List.getElem_of_mem ho
 have:=List.all_eq_true.1 h.2 i (List.mem_range.2 hi)
 unfold i5 at this
 rw[Bool.and_eq_true] at this
 have g:=this.1
 rw[List.getD_eq_getElem?_getD,List.getElem?_eq_getElem hi,Option.getD_some,e] at g
 unfold fC at g
 have:=of_decide_eq_true g
 exact⟨this.1,this.2.1⟩
theorem fW.ops {S:Sys} (h:fW S) {i:Nat} (hi:i<32) (hb:(S.C i).begun=true):bO (S.C i).ops=true:=by
 have g:=(h.case i hi hb).good
 rw[jZ hb,Bool.and_eq_true] at g
 exact g.1
theorem fW.somewhere {S:Sys} (h:fW S) {x:Nat} (hx:x<32) (hb:(S.C x).begun=true) (hr:(cT (S.C x)).2=true):∃m,m<6∧x∈(S.B m).did:=by
 have hg:=h.ops hx hb
 have hp:0<(S.C x).ops.length:=by
  unfold bO at hg
  simp at hg
  omega
 obtain⟨m,hm,h3,_⟩:=h.has x hx 0 ((LW (h.case x hx hb) hr).1 0 hp)
 exact⟨m,hm,(mH (h.s.good m hm) hx).2 h3⟩
theorem fX.node {S:Sys} (h:fW S) {a b:Nat} (ha:a<32) (hb:b<32) (L:fX S a b) {f:aD} (hM:S.M f) (hk:f.kind=1∨f.kind=3) (h0:(aN (S.B f.node.toNat) f.node f).2.2=0) (N:aD→Prop):
  fX ⟨upd S.B f.node.toNat (aN (S.B f.node.toNat) f.node f).1,S.C,N⟩ a b:=by
 obtain⟨hr1,hr2⟩:=h.s.rng f hM
 have hn6:f.node.toNat<6:=by omega
 have hnat:(f.node.toNat:Int)=f.node:=by omega
 have K:=mD (S.B f.node.toNat) f.node f (h.state _ hn6)
 obtain⟨fb,hne⟩:=L.self hb
 refine L.later h.s ha hb (fun d _ hf=>⟨hf,rfl,rfl⟩) (fun d _ hf=>⟨hf,rfl⟩) (fun n hn h1=>?_) (fun n hn h1 h2 h3 hc=>?_)
 ·show ((upd S.B f.node.toNat _ n).ent a).first=_
  by_cases e:n=f.node.toNat
  ·rw[e] at h1 ⊢
   rw[aU]
   exact K.first a (by omega)
  ·rw[aQ _ _ e]
 ·have h2:1≤((upd S.B f.node.toNat (aN (S.B f.node.toNat) f.node f).1 n).ent a).state:=h2
  show (b:Int)∈((upd S.B f.node.toNat (aN (S.B f.node.toNat) f.node f).1 n).ent a).first
  by_cases e:n=f.node.toNat
  ·rw[e] at h1 h2 h3 hc ⊢
   rw[aU] at h2 ⊢
   rw[hnat] at hc
   have ea:a=f.id.toNat:=by
    by_cases ea:a=f.id.toNat
    ·exact ea
    ·have:=congrArg (fun c=>c.2.2.2.1) (mC (s:=S.B f.node.toNat) (who:=f.node) (f:=f) ea)
     have this:decide (1≤((aN (S.B f.node.toNat) f.node f).1.ent a).state)=decide (1≤((S.B f.node.toNat).ent a).state):=this
     rw[decide_eq_true h2,decide_eq_false (by omega)] at this
     cases this
   have hs0:=h.state _ hn6 a
   have first:((aN (S.B f.node.toNat) f.node f).1.ent a).first=(S.B f.node.toNat).ahead a f.ops (ofL f.node)∧f.ops=(S.C a).ops:=by
    rw[ea] at h1 hs0 ⊢
    rcases hk with hk | hk
    ·refine⟨?_,(h.s.ask f hM hk).2⟩
     rw[nA h0 hk,if_pos (by omega)]
    ·refine⟨?_,(h.s.com f hM hk).2.1⟩
     have:=lK h0 hk
     rw[if_pos (by omega),if_pos (by omega)] at this
     exact congrArg (fun c=>c.2.1) this
   rw[first.1,first.2]
   exact n7.2 ⟨hb,hne,by omega,by rw[(h.s.ent1 _ hn6 b hb h3).2];exact hc⟩
  ·rw[aQ _ _ e] at h2
   omega
theorem fX.setC {S:Sys} (h:fW S) {a b:Nat} (ha:a<32) (hb:b<32) (L:fX S a b) {i:Nat} (c:aG) (hf:(S.C i).fixed=true→c.fixed=true∧c.deps=(S.C i).deps∧c.told=(S.C i).told) (hg:(S.C i).begun=true→c.begun=true∧c.ops=(S.C i).ops) (N:aD→Prop):
  fX ⟨S.B,upd S.C i c,N⟩ a b:=by
 refine L.later h.s ha hb (fun d _ e=>?_) (fun d _ e=>?_) (fun n hn h1=>rfl) (fun n hn h1 h2 h3 hc=>absurd h2 (by show ¬ 1≤((S.B n).ent a).state;omega))
 ·show (upd S.C i c d).fixed=true∧(upd S.C i c d).deps=_∧(upd S.C i c d).told=_
  rcases eW S.C i c d with ⟨e1,e2⟩ | ⟨_,e2⟩
  ·rw[e2]
   subst e1
   exact hf e
  ·rw[e2]
   exact⟨e,rfl,rfl⟩
 ·show (upd S.C i c d).begun=true∧(upd S.C i c d).ops=_
  rcases eW S.C i c d with ⟨e1,e2⟩ | ⟨_,e2⟩
  ·rw[e2]
   subst e1
   exact hg e
  ·rw[e2]
   exact⟨e,rfl⟩
theorem fX.answer {S:Sys} (h:fW S) {a b:Nat} (ha:a<32) (hb:b<32) (L:fX S a b) (f:aD) (N:aD→Prop):fX ⟨S.B,upd S.C f.id.toNat (aR (S.C f.id.toNat) f.id f).1,N⟩ a b:=by
 refine L.setC h ha hb _ (fun e=>?_) (fun e=>?_) N
 ·rcases f8 (S.C f.id.toNat) f.id f with ⟨_,h1,_⟩ | ⟨_,_,_,hf,_⟩ | ⟨_,_,_,hs,_⟩
  ·rw[h1];exact⟨e,rfl,rfl⟩
  ·rw[hf] at e;cases e
  ·exact⟨by rw[hs.fixed];exact e,hs.deps,hs.told⟩
 ·rcases f8 (S.C f.id.toNat) f.id f with ⟨_,h1,_⟩ | ⟨_,_,_,_,_,_,he,_⟩ | ⟨_,_,_,hs,_⟩
  ·rw[h1];exact⟨e,rfl⟩
  ·rw[he];exact⟨e,rfl⟩
  ·exact⟨by rw[hs.begun];exact e,hs.ops⟩
theorem fX.begin {S:Sys} (h:fW S) {a b:Nat} (ha:a<32) (hb:b<32) (L:fX S a b) {i:Nat} (hi:i<32) (hz:(S.C i).begun=false) (c:aG) (N:aD→Prop):fX ⟨S.B,upd S.C i c,N⟩ a b:=
 L.setC h ha hb c (fun e=>by rw[(h.s.most i hi e).1] at hz;cases hz) (fun e=>by rw[e] at hz;cases hz) N
theorem fX.sent {S:Sys} {a b:Nat} (L:fX S a b) (N:aD→Prop):fX ⟨S.B,S.C,N⟩ a b:=⟨L.fixed,L.begun,L.first⟩
theorem fW.late {S:Sys} (h:fW S) {a b:Nat} (ha:a<32) (hb:b<32) (hz:(S.C a).begun=false) (hbb:(S.C b).begun=true) (hr:(cT (S.C b)).2=true) (c:aG) (hc:c.begun=true) (N:aD→Prop):fX ⟨S.B,upd S.C a c,N⟩ a b:=by
 obtain⟨m,hm,hd⟩:=h.somewhere hb hbb hr
 exact fX.new h.s ha hz hm (h.sort m hm) hd c hc N
end Go.Proofs.YtkoefoccbjhoiadGreat
