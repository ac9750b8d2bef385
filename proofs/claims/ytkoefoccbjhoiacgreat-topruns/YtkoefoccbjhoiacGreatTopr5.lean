/-
squeezed by tools/squeeze.py from: CluU CluV CluW CluX CluY CluZ CluG CluE CluH CluI NClone FrV Wpl Wpl2 NSep
-/
import Derived.Test.YtkoefoccbjhoiacGreatTopr4
import Derived.Test.YtkoefoccbjhoiacGreatTopr2
import Derived.OwnWalk
import Derived.ArgAppend
import Derived.Lib.SliceRun
import Derived.Test.YtkoefoccbjhoiacGreatTopr1
set_option linter.unusedVariables false
set_option linter.unusedSimpArgs false
set_option maxRecDepth 100000
set_option maxHeartbeats 16000000
namespace Go.Proofs.YtkoefoccbjhoiacGreat
open Go.RowKit
def Sys.graph (S:Sys):bE:=⟨fun i=>(S.C i).fixed,fun i=>(S.C i).deps⟩
theorem uB {A A':Nat→Nat→Bool} {P:Nat→Prop} (hs:∀x,P x→∀y,A x y=A' x y) (hc:∀x y,P x→A x y=true→P y) {x y:Nat} (h:bY A x y):P x→bY A' x y:=by
 induction h using bY.ind with
 | refl x=>exact fun _=> .refl x
 | step a h ih=>exact fun hx=> .step (by rw[←hs _ hx];exact a) (ih (hc _ _ hx a))
theorem pF {g g':bE} {P:Nat→Prop} (h32:∀x,P x→x<32) (hs:∀x,P x→∀y,g.adj x y=g'.adj x y) (hc:∀x y,P x→g.adj x y=true→P y) {x:Nat} (hx:P x) (y:Nat):cB g x y=cB g' x y:=by
 rw[Bool.eq_iff_iff,cF g (h32 x hx),cF g' (h32 x hx)]
 exact⟨fun h=>uB hs hc h hx,fun h=>uB (fun x hx y=>(hs x hx y).symm) (fun x y hx a=>hc x y hx (by rw[hs x hx];exact a)) h hx⟩
theorem iC.sorted {S:Sys} (h:iC S) {n:Nat} (hn:n<6) (hS:g7 (S.B n)):mY (cB S.graph) (S.B n).did:=by
 refine hS.sorted.later fun x hx y _=>?_
 refine pF (P:=fun x=>x∈(S.B n).did) hS.sorted.lt (fun x hx y=>?_) (fun x y hx a=>?_) hx y
 ·have hx32:=hS.sorted.lt x hx
  have h3:=(mF (h.good n hn) hx32).1 hx
  obtain⟨e1,e2⟩:=h.ent2 n hn x hx32 (by rw[h3];decide)
  have k:(S.B n).graph.known x=S.graph.known x:=by
   show decide (2≤((S.B n).ent x).state)=(S.C x).fixed
   rw[h3,e1];rfl
  have d:(S.B n).graph.deps x=S.graph.deps x:=e2
  unfold bE.adj
  rw[k,d]
 ·exact hS.sorted.closed x hx y (bE.adj_lt _ x y a) ((cF _ (hS.sorted.lt x hx) y).2 (.one a))
theorem iC.did_fixed {S:Sys} (h:iC S) {n:Nat} (hn:n<6) {x:Nat} (hx:x<32) (hd:x∈(S.B n).did):(S.C x).fixed=true:=
 (h.ent2 n hn x hx (by rw[(mF (h.good n hn) hx).1 hd];decide)).1
def after (sh:Int) (ops:Nat→List OpL):List Nat→(Nat→Int)→(Nat→Int)
 | [],v=>v
 | x::l,v=>after sh ops l (cJ sh 0 (ops x) v).1
theorem qD (sh:Int) (ops:Nat→List OpL):∀(l m:List Nat) (v:Nat→Int),after sh ops (l++m) v=after sh ops m (after sh ops l v)
 | [],_,_=>rfl
 | x::l,m,v=>qD sh ops l m (cJ sh 0 (ops x) v).1
theorem oG (sh:Int) {ops ops':Nat→List OpL}:∀(l:List Nat) (v:Nat→Int),(∀x∈l,ops x=ops' x)→after sh ops l v=after sh ops' l v
 | [],_,_=>rfl
 | x::l,v,h=>by
  show after sh ops l (cJ sh 0 (ops x) v).1=after sh ops' l (cJ sh 0 (ops' x) v).1
  rw[h x (by simp),oG sh l _ fun y hy=>h y (by simp[hy])]
structure jK (sh:Int) (s:aB):Prop where
 all:s.vals=after sh (fun x=>(s.ent x).ops) s.did fun _=>0
 each:∀pre x post,s.did=pre++x::post→(s.ent x).ats=(cJ sh 0 (s.ent x).ops (after sh (fun x=>(s.ent x).ops) pre fun _=>0)).2.1∧(s.ent x).vals=(cJ sh 0 (s.ent x).ops (after sh (fun x=>(s.ent x).ops) pre fun _=>0)).2.2
theorem JV (sh:Int):jK sh dK:=⟨rfl,by intro pre x post e;simp[dK,aB.did] at e⟩
theorem jK.same {sh:Int} {s t:aB} (V:jK sh s) (hd:t.did=s.did) (hv:t.vals=s.vals) (he:∀x∈s.did,t.ent x=s.ent x):jK sh t:=by
 refine⟨?_,fun pre x post e=>?_⟩
 ·rw[hv,hd,V.all]
  exact oG sh _ _ fun x hx=>by rw[he x hx]
 ·rw[hd] at e
  have hx:x∈s.did:=by rw[e];simp
  rw[he x hx]
  have:after sh (fun x=>(t.ent x).ops) pre (fun _=>0)=after sh (fun x=>(s.ent x).ops) pre (fun _=>0):=oG sh _ _ fun y hy=>by rw[he y (by rw[e];simp[hy])]
  rw[this]
  exact V.each pre x post e
theorem JT {sh:Int} {s:aB} (h:bQ s) (V:jK sh s) {n:Nat} (hn:n<32) (hs:(s.ent n).state=2):jK sh (s.exec sh n):=by
 have ops:(fun x=>((s.exec sh n).ent x).ops)=fun x=>(s.ent x).ops:=by
  funext x
  exact congrArg Prod.fst (wG s sh hs x)
 have did:(s.exec sh n).did=s.did++[n]:=by unfold aB.did aB.exec;simp
 have no:n ∉ s.did:=fun e=>by
  have:=(mF h hn).1 e
  omega
 have same:(s.exec sh n).ent n=⟨3,(s.ent n).ops,(s.ent n).first,(s.ent n).deps,(cJ sh 0 (s.ent n).ops s.vals).2.1,(cJ sh 0 (s.ent n).ops s.vals).2.2⟩:=aT _ _ _
 refine⟨?_,fun pre x post e=>?_⟩
 ·rw[ops,did,qD]
  show (cJ sh 0 (s.ent n).ops s.vals).1=(cJ sh 0 (s.ent n).ops (after sh (fun x=>(s.ent x).ops) s.did fun _=>0)).1
  rw[←V.all]
 ·rw[ops]
  rw[did] at e
  rw[List.append_eq_append_iff] at e
  have last:∀p q,[n]=p++x::q→s.did++p=pre→((s.exec sh n).ent x).ats=(cJ sh 0 ((s.exec sh n).ent x).ops (after sh (fun x=>(s.ent x).ops) pre fun _=>0)).2.1∧((s.exec sh n).ent x).vals=(cJ sh 0 ((s.exec sh n).ent x).ops (after sh (fun x=>(s.ent x).ops) pre fun _=>0)).2.2:=by
   intro p q e1 e2
   cases p with
   | nil=>
    simp at e1 e2
    obtain⟨rfl,_⟩:=e1
    rw[same,←e2,←V.all]
    exact⟨rfl,rfl⟩
   | cons a p=>simp at e1
  rcases e with ⟨qs,e1,e2⟩ | ⟨bs,e1,e2⟩
  ·exact last qs post e2 e1.symm
  ·cases bs with
   | nil=>exact last [] post (by simpa using e2.symm) (by simpa using e1)
   | cons b bs=>
    simp only[List.cons_append,List.cons.injEq] at e2
    obtain⟨rfl,_⟩:=e2
    have hx:x∈s.did:=by rw[e1];simp
    have:(s.exec sh n).ent x=s.ent x:=aP _ _ (fun e=>no (e ▸ hx))
    rw[this]
    exact V.each pre x bs e1
theorem xD (sh:Int):∀(l:List Nat) {s:aB},(∀x∈l,x<32)→bQ s→jK sh s→jK sh (s.execs sh l)
 | [],_,_,_,V=>V
 | a::l,s,hl,h,V=>by
  have h1:bQ (aB.execIf sh s a)∧jK sh (aB.execIf sh s a):=by
   unfold aB.execIf
   split
   ·rename_i e;exact⟨wK h sh (hl a (by simp)) e,JT h V (hl a (by simp)) e⟩
   ·exact⟨h,V⟩
  exact xD (s:=aB.execIf sh s a) sh l (fun x hx=>hl x (by simp[hx])) h1.1 h1.2
theorem D3 {sh:Int} {s:aB} (h:bQ s) (V:jK sh s):jK sh (s.settle sh):=by
 have:∀(l:List Nat) (t:aB),bQ t→jK sh t→jK sh (l.foldl (aB.round s.graph sh) t):=by
  intro l
  induction l with
  | nil=>exact fun t _ ht=>ht
  | cons a l ih=>
   intro t ht hv
   have h1:bQ (aB.round s.graph sh t a)∧jK sh (aB.round s.graph sh t a):=by
    unfold aB.round
    split
    ·exact⟨kZ (s:=t) sh _ (kB _ _) ht,xD (s:=t) sh _ (kB _ _) ht hv⟩
    ·exact⟨ht,hv⟩
   exact ih _ h1.1 h1.2
 exact this _ s h V
theorem JU {s:aB} {who:Int} {f:aC} (V:jK (ofL who) s):jK (ofL who) (aN s who f).1:=by
 rcases dF s who f with ⟨_,h1,_⟩ | ⟨hg,hf,_,_,_,_,⟨hk,_,e⟩ | ⟨hk,e⟩⟩
 ·rw[h1];exact V
 ·rw[e]
  obtain⟨i1,i2,_⟩:=jV hf
  show jK _ (s.asked (ofL who) f)
  unfold aB.asked
  split
  ·rename_i h0
   refine V.same rfl rfl fun x hx=>eU s _ f fun e=>?_
   subst e
   have:=(mF hg (by omega)).1 hx
   omega
  ·exact V
 ·rw[e]
  obtain⟨i1,i2,_⟩:=jV hf
  show jK _ (s.commit (ofL who) f)
  unfold aB.commit
  split
  ·rename_i h0
   refine D3 (lA hg _ hf hk h0) (V.same rfl rfl fun x hx=>aP _ _ fun e=>?_)
   subst e
   have:=(mF hg (by omega)).1 hx
   omega
  ·exact V
def tI (a:Int):Prop:= -1099511627776≤a∧a≤1099511627776
theorem EI (v kind n:Int):tI (doL v kind n):=by
 unfold doL
 split
 ·exact⟨rM _,rL _⟩
 ·split<;>exact⟨rM _,rL _⟩
theorem AU {g:bE} {n:Nat} (hn:n<32):dT g (n:Int)=if jO g (n:Int)=true then dL (cB g) (cB g n) 32 else []:=by
 cases hr:jO g (n:Int)
 ·rw[if_neg (by simp)]
  unfold dT
  rw[hr]
  rfl
 ·rw[if_pos rfl,←uH g hn]
  unfold dT
  rw[hr]
  rfl
structure fS (S:Sys) (a b:Nat):Prop where
 fixed:∀d,d<32→cB S.graph b d=true→(S.C d).fixed=true∧d≠a
 begun:(S.C a).begun=true
 first:∀n,n<6→(S.C b).told n=true→1≤((S.B n).ent a).state→eH (S.C a).ops (S.C b).ops (ofL n)=true→(b:Int)∈((S.B n).ent a).first
theorem fS.self {S:Sys} {a b:Nat} (hb:b<32) (h:fS S a b):(S.C b).fixed=true∧b≠a:=h.fixed b hb ((cF _ hb b).2 (.refl b))
theorem fS.new {S:Sys} {a b:Nat} (hI:iC S) (ha:a<32) (hz:(S.C a).begun=false) {m:Nat} (hm:m<6) (sm:g7 (S.B m)) (hd:b∈(S.B m).did) (c:aF) (hc:c.begun=true) (N:aC→Prop):
  fS ⟨S.B,upd S.C a c,N⟩ a b:=by
 have hD:=hI.sorted hm sm
 have hb:=hD.lt b hd
 have na:∀d,d<32→(S.C d).fixed=true→d≠a:=fun d hd32 hf e=>by
  subst e
  rw[(hI.most d hd32 hf).1] at hz;cases hz
 have fixedD:∀d∈(S.B m).did,(S.C d).fixed=true:=fun d hdd=>hI.did_fixed hm (hD.lt d hdd) hdd
 have same:∀d,cB S.graph b d=cB (Sys.graph ⟨S.B,upd S.C a c,N⟩) b d:=by
  intro d
  refine pF (P:=fun x=>x∈(S.B m).did) hD.lt (fun x hx y=>?_) (fun x y hx e=>hD.closed x hx y (bE.adj_lt _ x y e) ((cF _ (hD.lt x hx) y).2 (.one e))) hd d
  have hne:=na x (hD.lt x hx) (fixedD x hx)
  have e:upd S.C a c x=S.C x:=aP _ _ hne
  unfold bE.adj Sys.graph
  simp only[e]
 refine⟨fun d hd32 hbd=>?_,by show (upd S.C a c a).begun=true;rw[aT];exact hc,fun n hn _ h1 _=>?_⟩
 ·rw[←same] at hbd
  have hdd:=hD.closed b hd d hd32 hbd
  have hne:=na d hd32 (fixedD d hdd)
  refine⟨?_,hne⟩
  show (upd S.C a c d).fixed=true
  rw[aP _ _ hne]
  exact fixedD d hdd
 ·exfalso
  have:=(hI.ent1 n hn a ha h1).1
  rw[hz] at this;cases this
theorem fS.later {S T:Sys} {a b:Nat} (hI:iC S) (ha:a<32) (hb:b<32) (h:fS S a b)
  (hf:∀d,d<32→(S.C d).fixed=true→(T.C d).fixed=true∧(T.C d).deps=(S.C d).deps∧(T.C d).told=(S.C d).told)
  (hbg:∀d,d<32→(S.C d).begun=true→(T.C d).begun=true∧(T.C d).ops=(S.C d).ops)
  (hB:∀n,n<6→1≤((S.B n).ent a).state→((T.B n).ent a).first=((S.B n).ent a).first)
  (hN:∀n,n<6→((S.B n).ent a).state<1→1≤((T.B n).ent a).state→1≤((S.B n).ent b).state→eH (S.C b).ops (S.C a).ops (ofL n)=true→(b:Int)∈((T.B n).ent a).first):fS T a b:=by
 obtain⟨fb,hne⟩:=h.self hb
 have same:∀d,cB S.graph b d=cB T.graph b d:=by
  intro d
  refine pF (P:=fun x=>x<32∧cB S.graph b x=true) (fun x hx=>hx.1) (fun x hx y=>?_) (fun x y hx e=>?_) ⟨hb,(cF _ hb b).2 (.refl b)⟩ d
  ·obtain⟨fx,_⟩:=h.fixed x hx.1 hx.2
   obtain⟨e1,e2,_⟩:=hf x hx.1 fx
   unfold bE.adj Sys.graph
   simp only[fx,e1,e2]
  ·have hy:=bE.adj_lt _ x y e
   exact⟨hy,(cF _ hb y).2 (((cF _ hb x).1 hx.2).trans (.one e))⟩
 have opsa:=(hbg a ha h.begun)
 have opsb:=(hbg b hb (hI.most b hb fb).1)
 refine⟨fun d hd hbd=>?_,opsa.1,fun n hn ht h1 hc=>?_⟩
 ·rw[←same] at hbd
  obtain⟨fd,hda⟩:=h.fixed d hd hbd
  exact⟨(hf d hd fd).1,hda⟩
 ·rw[(hf b hb fb).2.2] at ht
  rw[opsa.2,opsb.2] at hc
  by_cases h0:1≤((S.B n).ent a).state
  ·rw[hB n hn h0]
   exact h.first n hn ht h0 hc
  ·exact hN n hn (by omega) h1 (hI.told b hb n hn ht).1 (by rw[pV];exact hc)
theorem wF (sh:Int):∀(l:List (Int × Int)) (c:aF) (k:Nat),(c.dones sh l).has k=true→c.has k=true∨∃p∈l,p.1.toNat=k∧(c.dones sh l).vals k=p.2
 | [],_,_,h=>Or.inl h
 | p::l,c,k,h=>by
  have e:c.dones sh (p::l)=(aF.done1 sh c p).dones sh l:=rfl
  rw[e] at h ⊢
  rcases wF sh l (aF.done1 sh c p) k h with h1 | ⟨q,hq,h1,h2⟩
  ·by_cases hc:c.has k=true
   ·exact Or.inl hc
   ·right
    refine⟨p,by simp,?_⟩
    have kv:=((oH sh l (aF.done1 sh c p)).2 k h1).2
    rw[kv]
    unfold aF.done1 at h1 ⊢
    split at h1
    ·rename_i hp
     rw[if_pos hp]
     have h1:upd c.has p.1.toNat true k=true:=h1
     by_cases ek:k=p.1.toNat
     ·refine⟨ek.symm,?_⟩
      show upd c.vals p.1.toNat p.2 k=p.2
      rw[ek,aT]
     ·rw[aP _ _ ek] at h1
      exact absurd h1 hc
    ·exact absurd h1 hc
  ·exact Or.inr ⟨q,by simp[hq],h1,h2⟩
theorem yC:∀(l:Int) (n:Nat) (zs:List Int),dG l n zs=true→∀z∈zs,l<z
 | _,_,[],_=>by simp
 | l,n,k::r,h=>by
  unfold dG at h
  simp only[Bool.and_eq_true,decide_eq_true_iff] at h
  intro z hz
  rcases List.mem_cons.1 hz with e | e
  ·rw[e];exact h.1.1
  ·have:=yC k n r h.2 z e
   omega
theorem GL {c:aF} {id:Int} {f:aC} {k:Nat} (h:(aQ c id f).1.has k=true):c.has k=true∨(f.kind=5∧∃p∈f.ats.zip f.vals,p.1.toNat=k∧(aQ c id f).1.vals k=p.2):=by
 unfold aQ at *
 split
 ·rename_i h1;rw[if_pos h1] at h;exact Or.inl h
 ·rename_i h1
  rw[if_neg h1] at h
  split
  ·rename_i h2;rw[if_pos h2] at h;exact Or.inl h
  ·rename_i h2
   rw[if_neg h2] at h
   split
   ·rename_i h3;rw[if_pos h3] at h;exact Or.inl h
   ·rename_i h3
    rw[if_neg h3] at h
    split
    ·rename_i h4
     rw[if_pos h4] at h
     split at h<;>exact Or.inl h
    ·rename_i h4
     rw[if_neg h4] at h
     split
     ·rename_i h5;rw[if_pos h5] at h;exact Or.inl h
     ·rename_i h5
      rw[if_neg h5] at h
      split
      ·rename_i h6;rw[if_pos h6] at h;exact Or.inl h
      ·rename_i h6
       rw[if_neg h6] at h
       have hk:f.kind=5:=by
        have hg:aM f=0:=by
         by_cases e:aM f=0
         ·exact e
         ·exact absurd e h2
        unfold aM at hg
        split at hg
        ·exact absurd hg (by decide)
        ·rename_i hk
         omega
       rcases wF (ofL f.node) _ c k h with e | e
       ·exact Or.inl e
       ·exact Or.inr ⟨hk,e⟩
structure fR (S:Sys):Prop where
 s:iC S
 sort:∀n,n<6→g7 (S.B n)
 val:∀n:Nat,n<6→jK (ofL (n:Int)) (S.B n)
 state:∀n,n<6→∀j,0≤((S.B n).ent j).state
 case:∀i,i<32→(S.C i).begun=true→nH (S.C i).ops (S.C i)
 zero:∀i,i<32→(S.C i).begun=false→S.C i=bZ
 has:∀i,i<32→∀k,(S.C i).has k=true→∃m,m<6∧((S.B m).ent i).state=3∧((k:Int),(S.C i).vals k)∈((S.B m).ent i).ats.zip ((S.B m).ent i).vals
theorem fR.start:fR ⟨fun _=>dK,fun _=>bZ,fun _=>False⟩:=
 ⟨iC.zero,fun _ _=>GH,fun _ _=>JV _,fun _ _ _=>Int.le_refl _,fun i _ h=>(by cases h),fun _ _ _=>rfl,fun i _ k h=>(by cases h)⟩
theorem fR.node {S:Sys} (h:fR S) {f:aC} (hM:S.M f) (hk:f.kind=1∨f.kind=3) (h0:(aN (S.B f.node.toNat) f.node f).2.2=0):
  fR ⟨upd S.B f.node.toNat (aN (S.B f.node.toNat) f.node f).1,S.C,fun g=>S.M g∨g∈(aN (S.B f.node.toNat) f.node f).2.1⟩:=by
 obtain⟨hr1,hr2⟩:=h.s.rng f hM
 have hn6:f.node.toNat<6:=by omega
 have hnat:(f.node.toNat:Int)=f.node:=by omega
 have K:=mC (S.B f.node.toNat) f.node f (h.state _ hn6)
 refine⟨h.s.node hM hk h0,fun n hn=>?_,fun n hn=>?_,fun n hn j=>?_,h.case,h.zero,fun i hi k hh=>?_⟩
 ·show g7 (upd S.B f.node.toNat _ n)
  by_cases e:n=f.node.toNat
  ·rw[e,aT];exact GP (h.sort _ hn6)
  ·rw[aP _ _ e];exact h.sort n hn
 ·show jK (ofL (n:Int)) (upd S.B f.node.toNat _ n)
  by_cases e:n=f.node.toNat
  ·rw[e,aT,hnat]
   have:=h.val _ hn6
   rw[hnat] at this
   exact JU this
  ·rw[aP _ _ e];exact h.val n hn
 ·show 0≤((upd S.B f.node.toNat _ n).ent j).state
  by_cases e:n=f.node.toNat
  ·rw[e,aT]
   exact Int.le_trans (h.state _ hn6 j) (K.state j)
  ·rw[aP _ _ e];exact h.state n hn j
 ·obtain⟨m,hm,h3,hz⟩:=h.has i hi k hh
  refine⟨m,hm,?_⟩
  show ((upd S.B f.node.toNat (aN (S.B f.node.toNat) f.node f).1 m).ent i).state=3∧_∈((upd S.B f.node.toNat (aN (S.B f.node.toNat) f.node f).1 m).ent i).ats.zip ((upd S.B f.node.toNat (aN (S.B f.node.toNat) f.node f).1 m).ent i).vals
  by_cases e:m=f.node.toNat
  ·subst e
   rw[aT]
   have same:=K.done i h3
   rw[same]
   exact⟨h3,hz⟩
  ·rw[aP _ _ e]
   exact⟨h3,hz⟩
theorem eP (C:Nat→aF) (i:Nat) (c:aF):∀j,(j=i∧upd C i c j=c)∨(j≠i∧upd C i c j=C j):=by
 intro j
 by_cases e:j=i
 ·exact Or.inl ⟨e,by rw[e,aT]⟩
 ·exact Or.inr ⟨e,aP _ _ e⟩
theorem fR.answer {S:Sys} (h:fR S) {f:aC} (hM:S.M f) (h0:(aQ (S.C f.id.toNat) f.id f).2.2=0):
  fR ⟨S.B,upd S.C f.id.toNat (aQ (S.C f.id.toNat) f.id f).1,fun g=>S.M g∨g∈(aQ (S.C f.id.toNat) f.id f).2.1⟩:=by
 obtain⟨hr1,hr2⟩:=h.s.rng f hM
 have hi32:f.id.toNat<32:=by omega
 have hn6:f.node.toNat<6:=by omega
 obtain⟨hb,_⟩:=oN h0
 obtain⟨rs,kv⟩:=zM (id:=f.id) (f:=f) (h.case _ hi32 hb)
 refine⟨h.s.case hM h0,h.sort,h.val,h.state,fun i hi e=>?_,fun i hi e=>?_,fun i hi k hh=>?_⟩
 ·have e:(upd S.C f.id.toNat (aQ (S.C f.id.toNat) f.id f).1 i).begun=true:=e
  show nH (upd S.C f.id.toNat (aQ (S.C f.id.toNat) f.id f).1 i).ops (upd S.C f.id.toNat (aQ (S.C f.id.toNat) f.id f).1 i)
  rcases eP S.C f.id.toNat (aQ (S.C f.id.toNat) f.id f).1 i with ⟨_,e2⟩ | ⟨_,e2⟩
  ·rw[e2,rs.eops];exact rs
  ·rw[e2] at e ⊢;exact h.case i hi e
 ·have e:(upd S.C f.id.toNat (aQ (S.C f.id.toNat) f.id f).1 i).begun=false:=e
  show upd S.C f.id.toNat (aQ (S.C f.id.toNat) f.id f).1 i=bZ
  rcases eP S.C f.id.toNat (aQ (S.C f.id.toNat) f.id f).1 i with ⟨_,e2⟩ | ⟨_,e2⟩
  ·rw[e2,rs.begun] at e;cases e
  ·rw[e2] at e ⊢;exact h.zero i hi e
 ·have hh:(upd S.C f.id.toNat (aQ (S.C f.id.toNat) f.id f).1 i).has k=true:=hh
  show ∃m,m<6∧((S.B m).ent i).state=3∧((k:Int),(upd S.C f.id.toNat (aQ (S.C f.id.toNat) f.id f).1 i).vals k)∈((S.B m).ent i).ats.zip ((S.B m).ent i).vals
  rcases eP S.C f.id.toNat (aQ (S.C f.id.toNat) f.id f).1 i with ⟨e1,e2⟩ | ⟨_,e2⟩
  ·rw[e2] at hh ⊢
   clear e2
   subst e1
   rename (aQ (S.C f.id.toNat) f.id f).1.has k=true=>hh2
   rcases GL hh2 with e | ⟨hk,p,hp,h1,h2⟩
   ·rw[(kv k e).2]
    exact h.has _ hi32 k e
   ·obtain⟨d1,d2,d3⟩:=h.s.don f hM hk
    refine⟨f.node.toNat,hn6,d1,?_⟩
    rw[←d2,←d3,h2]
    have F:=(h.s.good _ hn6).fine hi32 (by rw[d1];decide)
    have hz:p.1∈f.ats:=(List.of_mem_zip (a:=p.1) (b:=p.2) hp).1
    rw[d2] at hz
    have:=yC _ _ _ F.ats _ hz
    have e:(k:Int)=p.1:=by omega
    rw[e]
    exact hp
  ·rw[e2] at hh ⊢;exact h.has i hi k hh
theorem fR.again {S:Sys} (h:fR S) {i:Nat} (hi:i<32):fR ⟨S.B,S.C,fun g=>S.M g∨g∈cL (S.C i) (i:Int)⟩:=
 ⟨h.s.again hi,h.sort,h.val,h.state,h.case,h.zero,h.has⟩
theorem fR.begin {S:Sys} (h:fR S) {i:Nat} (hi:i<32) (hb:(S.C i).begun=false) {ops:List OpL} (h0:(bF (i:Int) ops).2.2=0):
  fR ⟨S.B,upd S.C i (bF (i:Int) ops).1,fun g=>S.M g∨g∈(bF (i:Int) ops).2.1⟩:=by
 have rs:=wU h0
 have hz:=h.zero i hi hb
 have e:bF (i:Int) ops=({ bZ with begun:=true,ops:=ops },cL { bZ with begun:=true,ops:=ops } (i:Int),0):=by
  unfold bF at *
  split at h0
  ·exact absurd h0 (show (2:Int)≠0 by decide)
  ·rename_i h1
   rw[if_neg h1]
   split at h0
   ·exact absurd h0 (show (1:Int)≠0 by decide)
   ·rename_i h2
    rw[if_neg h2]
 rw[e] at rs ⊢
 refine⟨h.s.begin hi hz ops,h.sort,h.val,h.state,fun j hj eb=>?_,fun j hj eb=>?_,fun j hj k hh=>?_⟩
 ·have eb:(upd S.C i { bZ with begun:=true,ops:=ops } j).begun=true:=eb
  show nH (upd S.C i { bZ with begun:=true,ops:=ops } j).ops (upd S.C i { bZ with begun:=true,ops:=ops } j)
  rcases eP S.C i { bZ with begun:=true,ops:=ops } j with ⟨_,e2⟩ | ⟨_,e2⟩
  ·rw[e2];exact rs
  ·rw[e2] at eb ⊢;exact h.case j hj eb
 ·have eb:(upd S.C i { bZ with begun:=true,ops:=ops } j).begun=false:=eb
  show upd S.C i { bZ with begun:=true,ops:=ops } j=bZ
  rcases eP S.C i { bZ with begun:=true,ops:=ops } j with ⟨_,e2⟩ | ⟨_,e2⟩
  ·rw[e2] at eb;cases eb
  ·rw[e2] at eb ⊢;exact h.zero j hj eb
 ·have hh:(upd S.C i { bZ with begun:=true,ops:=ops } j).has k=true:=hh
  show ∃m,m<6∧((S.B m).ent j).state=3∧((k:Int),(upd S.C i { bZ with begun:=true,ops:=ops } j).vals k)∈((S.B m).ent j).ats.zip ((S.B m).ent j).vals
  rcases eP S.C i { bZ with begun:=true,ops:=ops } j with ⟨_,e2⟩ | ⟨_,e2⟩
  ·rw[e2] at hh;cases hh
  ·rw[e2] at hh ⊢;exact h.has j hj k hh
theorem yP {zs:List OpL} (h:bI zs=true):∀o∈zs,0≤o.2.1∧o.2.1<8:=by
 intro o ho
 unfold bI at h
 rw[Bool.and_eq_true] at h
 obtain⟨i,hi,e⟩:=List.getElem_of_mem ho
 have:=List.all_eq_true.1 h.2 i (List.mem_range.2 hi)
 unfold iZ at this
 rw[Bool.and_eq_true] at this
 have g:=this.1
 rw[List.getD_eq_getElem?_getD,List.getElem?_eq_getElem hi,Option.getD_some,e] at g
 unfold e9 at g
 have:=of_decide_eq_true g
 exact⟨this.1,this.2.1⟩
theorem fR.ops {S:Sys} (h:fR S) {i:Nat} (hi:i<32) (hb:(S.C i).begun=true):bI (S.C i).ops=true:=by
 have g:=(h.case i hi hb).good
 rw[jY hb,Bool.and_eq_true] at g
 exact g.1
theorem fR.somewhere {S:Sys} (h:fR S) {x:Nat} (hx:x<32) (hb:(S.C x).begun=true) (hr:(cP (S.C x)).2=true):∃m,m<6∧x∈(S.B m).did:=by
 have hg:=h.ops hx hb
 have hp:0<(S.C x).ops.length:=by
  unfold bI at hg
  simp at hg
  omega
 obtain⟨m,hm,h3,_⟩:=h.has x hx 0 ((LK (h.case x hx hb) hr).1 0 hp)
 exact⟨m,hm,(mF (h.s.good m hm) hx).2 h3⟩
theorem fS.node {S:Sys} (h:fR S) {a b:Nat} (ha:a<32) (hb:b<32) (L:fS S a b) {f:aC} (hM:S.M f) (hk:f.kind=1∨f.kind=3) (h0:(aN (S.B f.node.toNat) f.node f).2.2=0) (N:aC→Prop):
  fS ⟨upd S.B f.node.toNat (aN (S.B f.node.toNat) f.node f).1,S.C,N⟩ a b:=by
 obtain⟨hr1,hr2⟩:=h.s.rng f hM
 have hn6:f.node.toNat<6:=by omega
 have hnat:(f.node.toNat:Int)=f.node:=by omega
 have K:=mC (S.B f.node.toNat) f.node f (h.state _ hn6)
 obtain⟨fb,hne⟩:=L.self hb
 refine L.later h.s ha hb (fun d _ hf=>⟨hf,rfl,rfl⟩) (fun d _ hf=>⟨hf,rfl⟩) (fun n hn h1=>?_) (fun n hn h1 h2 h3 hc=>?_)
 ·show ((upd S.B f.node.toNat _ n).ent a).first=_
  by_cases e:n=f.node.toNat
  ·rw[e] at h1 ⊢
   rw[aT]
   exact K.first a (by omega)
  ·rw[aP _ _ e]
 ·have h2:1≤((upd S.B f.node.toNat (aN (S.B f.node.toNat) f.node f).1 n).ent a).state:=h2
  show (b:Int)∈((upd S.B f.node.toNat (aN (S.B f.node.toNat) f.node f).1 n).ent a).first
  by_cases e:n=f.node.toNat
  ·rw[e] at h1 h2 h3 hc ⊢
   rw[aT] at h2 ⊢
   rw[hnat] at hc
   have ea:a=f.id.toNat:=by
    by_cases ea:a=f.id.toNat
    ·exact ea
    ·have:=congrArg (fun c=>c.2.2.2.1) (mB (s:=S.B f.node.toNat) (who:=f.node) (f:=f) ea)
     have this:decide (1≤((aN (S.B f.node.toNat) f.node f).1.ent a).state)=decide (1≤((S.B f.node.toNat).ent a).state):=this
     rw[decide_eq_true h2,decide_eq_false (by omega)] at this
     cases this
   have hs0:=h.state _ hn6 a
   have first:((aN (S.B f.node.toNat) f.node f).1.ent a).first=(S.B f.node.toNat).ahead a f.ops (ofL f.node)∧f.ops=(S.C a).ops:=by
    rw[ea] at h1 hs0 ⊢
    rcases hk with hk | hk
    ·refine⟨?_,(h.s.ask f hM hk).2⟩
     rw[m8 h0 hk,if_pos (by omega)]
    ·refine⟨?_,(h.s.com f hM hk).2.1⟩
     have:=lJ h0 hk
     rw[if_pos (by omega),if_pos (by omega)] at this
     exact congrArg (fun c=>c.2.1) this
   rw[first.1,first.2]
   exact nX.2 ⟨hb,hne,by omega,by rw[(h.s.ent1 _ hn6 b hb h3).2];exact hc⟩
  ·rw[aP _ _ e] at h2
   omega
theorem fS.setC {S:Sys} (h:fR S) {a b:Nat} (ha:a<32) (hb:b<32) (L:fS S a b) {i:Nat} (c:aF) (hf:(S.C i).fixed=true→c.fixed=true∧c.deps=(S.C i).deps∧c.told=(S.C i).told) (hg:(S.C i).begun=true→c.begun=true∧c.ops=(S.C i).ops) (N:aC→Prop):
  fS ⟨S.B,upd S.C i c,N⟩ a b:=by
 refine L.later h.s ha hb (fun d _ e=>?_) (fun d _ e=>?_) (fun n hn h1=>rfl) (fun n hn h1 h2 h3 hc=>absurd h2 (by show ¬ 1≤((S.B n).ent a).state;omega))
 ·show (upd S.C i c d).fixed=true∧(upd S.C i c d).deps=_∧(upd S.C i c d).told=_
  rcases eP S.C i c d with ⟨e1,e2⟩ | ⟨_,e2⟩
  ·rw[e2]
   subst e1
   exact hf e
  ·rw[e2]
   exact⟨e,rfl,rfl⟩
 ·show (upd S.C i c d).begun=true∧(upd S.C i c d).ops=_
  rcases eP S.C i c d with ⟨e1,e2⟩ | ⟨_,e2⟩
  ·rw[e2]
   subst e1
   exact hg e
  ·rw[e2]
   exact⟨e,rfl⟩
theorem fS.answer {S:Sys} (h:fR S) {a b:Nat} (ha:a<32) (hb:b<32) (L:fS S a b) (f:aC) (N:aC→Prop):fS ⟨S.B,upd S.C f.id.toNat (aQ (S.C f.id.toNat) f.id f).1,N⟩ a b:=by
 refine L.setC h ha hb _ (fun e=>?_) (fun e=>?_) N
 ·rcases fW (S.C f.id.toNat) f.id f with ⟨_,h1,_⟩ | ⟨_,_,_,hf,_⟩ | ⟨_,_,_,hs,_⟩
  ·rw[h1];exact⟨e,rfl,rfl⟩
  ·rw[hf] at e;cases e
  ·exact⟨by rw[hs.fixed];exact e,hs.deps,hs.told⟩
 ·rcases fW (S.C f.id.toNat) f.id f with ⟨_,h1,_⟩ | ⟨_,_,_,_,_,_,he,_⟩ | ⟨_,_,_,hs,_⟩
  ·rw[h1];exact⟨e,rfl⟩
  ·rw[he];exact⟨e,rfl⟩
  ·exact⟨by rw[hs.begun];exact e,hs.ops⟩
theorem fS.begin {S:Sys} (h:fR S) {a b:Nat} (ha:a<32) (hb:b<32) (L:fS S a b) {i:Nat} (hi:i<32) (hz:(S.C i).begun=false) (c:aF) (N:aC→Prop):fS ⟨S.B,upd S.C i c,N⟩ a b:=
 L.setC h ha hb c (fun e=>by rw[(h.s.most i hi e).1] at hz;cases hz) (fun e=>by rw[e] at hz;cases hz) N
theorem fS.sent {S:Sys} {a b:Nat} (L:fS S a b) (N:aC→Prop):fS ⟨S.B,S.C,N⟩ a b:=⟨L.fixed,L.begun,L.first⟩
theorem fR.late {S:Sys} (h:fR S) {a b:Nat} (ha:a<32) (hb:b<32) (hz:(S.C a).begun=false) (hbb:(S.C b).begun=true) (hr:(cP (S.C b)).2=true) (c:aF) (hc:c.begun=true) (N:aC→Prop):fS ⟨S.B,upd S.C a c,N⟩ a b:=by
 obtain⟨m,hm,hd⟩:=h.somewhere hb hbb hr
 exact fS.new h.s ha hz hm (h.sort m hm) hd c hc N
def iK (s:aB):Prop:=∀i,∀v∈(s.ent i).vals,tI v
theorem pQ (sh:Int):∀(ops:List OpL) (i:Nat) (v:Nat→Int),∀w∈(cJ sh i ops v).2.2,tI w
 | [],_,_,w,h=>by simp[cJ] at h
 | o::r,i,v,w,h=>by
  unfold cJ at h
  split at h
  ·rcases List.mem_cons.1 h with e | e
   ·rw[e];exact EI _ _ _
   ·exact pQ sh r (i+1) _ w e
  ·exact pQ sh r (i+1) _ w h
theorem GV:iK dK:=by intro i v h;simp[dK,jZ] at h
theorem GU {s:aB} (h:iK s) (sh:Int) (n:Nat):iK (s.exec sh n):=by
 intro i v hv
 by_cases e:i=n
 ·subst e
  have:((s.exec sh i).ent i).vals=(cJ sh 0 (s.ent i).ops s.vals).2.2:=congrArg cS.vals (aT _ _ _)
  rw[this] at hv
  exact pQ _ _ _ _ v hv
 ·have:(s.exec sh n).ent i=s.ent i:=aP _ _ e
  rw[this] at hv
  exact h i v hv
theorem uU (sh:Int):∀(l:List Nat) {s:aB},iK s→iK (s.execs sh l)
 | [],_,h=>h
 | a::l,s,h=>by
  have h1:iK (aB.execIf sh s a):=by
   unfold aB.execIf
   split
   ·exact GU h sh a
   ·exact h
  exact uU (s:=aB.execIf sh s a) sh l h1
theorem BP {s:aB} (h:iK s) (sh:Int):iK (s.settle sh):=by
 have:∀(l:List Nat) (t:aB),iK t→iK (l.foldl (aB.round s.graph sh) t):=by
  intro l
  induction l with
  | nil=>exact fun t ht=>ht
  | cons a l ih=>
   intro t ht
   refine ih _ ?_
   unfold aB.round
   split
   ·exact uU (s:=t) sh _ ht
   ·exact ht
 exact this _ s h
theorem xE {s:aB} {who:Int} {f:aC} (h:iK s):iK (aN s who f).1:=by
 rcases dF s who f with ⟨_,h1,_⟩ | ⟨_,_,_,_,_,_,⟨_,_,e⟩ | ⟨_,e⟩⟩
 ·rw[h1];exact h
 ·rw[e]
  show iK (s.asked (ofL who) f)
  unfold aB.asked
  split
  ·intro i v hv
   by_cases ei:i=f.id.toNat
   ·rw[ei,i7] at hv
    simp at hv
   ·rw[eU s _ f ei] at hv
    exact h i v hv
  ·exact h
 ·rw[e]
  show iK (s.commit (ofL who) f)
  unfold aB.commit
  split
  ·refine BP (fun i v hv=>?_) _
   by_cases ei:i=f.id.toNat
   ·rw[ei,kC] at hv
    exact h _ v hv
   ·have:(s.placed (ofL who) f).ent i=s.ent i:=aP _ _ ei
    rw[this] at hv
    exact h i v hv
  ·exact h
theorem xB:∀(xs vs:List Int) (l:Int) (n:Nat),n≤4→dG l n xs=true→(∀v∈vs,tI v)→b7 l xs vs=true
 | [],_,_,_,_,_,_=>by unfold b7;rfl
 | _::_,[],_,_,_,_,_=>by unfold b7;rfl
 | a::xs,v::vs,l,n,hn,ha,hv=>by
  unfold dG at ha
  simp only[Bool.and_eq_true,decide_eq_true_iff] at ha
  unfold b7
  have hw:=hv v (by simp)
  rw[xB xs vs a n hn ha.2 (fun w h=>hv w (by simp[h])),show decide (-1099511627776≤v∧v≤1099511627776)=true from decide_eq_true hw]
  have:(decide (a≤l) || decide (4≤a))=false:=by
   rw[Bool.or_eq_false_iff]
   exact⟨decide_eq_false (by omega),decide_eq_false (by omega)⟩
  rw[this]
  rfl
theorem EW {zs:List OpL} (h:bI zs=true):zs.length≤4:=(FK h).1
theorem oC {s:aB} {who:Int} {f:aC} (hw:iK s):∀g∈(aN s who f).2.1,aM g=0∧g.kind≠1∧g.kind≠3:=by
 intro g hg
 have hw':=xE (who:=who) (f:=f) hw
 have hgood:(aN s who f).2.2=0→bQ (aN s who f).1:=wZ
 rcases dF s who f with ⟨_,_,h1⟩ | ⟨_,hf,h0,hn,w0,w5,⟨_,_,e⟩ | ⟨_,e⟩⟩
 ·rw[h1] at hg;simp at hg
 ·have G:=hgood h0
  obtain⟨i1,i2,_⟩:=jV hf
  rw[e] at hg G
  have hg:g∈[(⟨2,who,f.id,[],((s.asked (ofL who) f).ent f.id.toNat).first,[],[]⟩:aC)]:=hg
  rw[List.mem_singleton] at hg
  subst hg
  have G:bQ (s.asked (ofL who) f):=G
  have hfi:bC (-1) ((s.asked (ofL who) f).ent f.id.toNat).first=true∧dX ((s.asked (ofL who) f).ent f.id.toNat).first f.id=false:=by
   rcases G.ent f.id.toNat (by omega) with e | F
   ·rw[e];exact⟨rfl,rfl⟩
   ·have:=F.first
    rw[show ((f.id.toNat:Nat):Int)=f.id by omega] at this
    exact this
  refine⟨?_,(show (2:Int)≠1 by decide),(show (2:Int)≠3 by decide)⟩
  unfold aM eA dJ dP
  simp only[hfi.1,hfi.2]
  rw[if_neg (by decide),if_neg (by omega)]
  rfl
 ·have G:=hgood h0
  obtain⟨i1,i2,_⟩:=jV hf
  rw[e] at hg G hw'
  have hg:g∈(s.commit (ofL who) f).answers (ofL who) who f.id:=hg
  have G:bQ (s.commit (ofL who) f):=G
  have hw':iK (s.commit (ofL who) f):=hw'
  unfold aB.answers at hg
  rcases List.mem_cons.1 hg with hg | hg
  ·subst hg
   refine⟨?_,(show (4:Int)≠1 by decide),(show (4:Int)≠3 by decide)⟩
   unfold aM eA dJ dP
   simp only
   rw[if_neg (by decide),if_neg (by omega)]
   rfl
  ·split at hg
   ·rename_i h3
    rw[List.mem_singleton] at hg
    subst hg
    refine⟨?_,(show (5:Int)≠1 by decide),(show (5:Int)≠3 by decide)⟩
    have F:=G.fine (n:=f.id.toNat) (by omega) (by rw[h3.1];decide)
    have t:=xB _ ((s.commit (ofL who) f).ent f.id.toNat).vals (-1) _ (EW F.ops) F.ats (hw' _)
    unfold aM eA dJ dP
    simp only[t,F.vals]
    rw[if_neg (by decide),if_neg (by omega)]
    simp
   ·simp at hg
theorem kU {c:aF} {id:Int} {g:aC} (h:g∈cL c id):aM g=0:=by
 obtain⟨hb,hid,hn,eid,eops,_⟩:=nW h
 unfold cL at h
 split at h
 ·simp at h
 ·rename_i hno
  have hg:dS c=true:=by
   cases e:dS c
   ·exact absurd (Or.inl e) hno
   ·rfl
  have hd:dX c.deps id=false:=by
   cases e:dX c.deps id
   ·rfl
   ·exact absurd (Or.inr (Or.inr (Or.inr (Or.inr e)))) hno
  rw[jY hb,Bool.and_eq_true] at hg
  obtain⟨n,hn6,hg1⟩:=List.mem_flatMap.1 h
  have hn6:=List.mem_range.1 hn6
  unfold aF.send at hg1
  split at hg1
  ·split at hg1
   ·rw[List.mem_singleton] at hg1
    subst hg1
    unfold aM eA dJ dP
    simp only[hg.1,hg.2,hd]
    rw[if_neg (by decide),if_neg (by omega)]
    rfl
   ·simp at hg1
  ·split at hg1
   ·rw[List.mem_singleton] at hg1
    subst hg1
    unfold aM eA dJ dP
    simp only[hg.1]
    rw[if_neg (by decide),if_neg (by omega)]
    rfl
   ·simp at hg1
def kJ (s:aB):Prop:=∀i,i<32→(s.ent i).state=2→jO s.graph (i:Int)=false
theorem zR:kJ dK:=fun i _ h=>absurd h (show (0:Int)≠2 by decide)
theorem yM (s:aB) (sh:Int) (n:Nat):(aB.execIf sh s n).graph=s.graph:=by
 unfold aB.execIf
 split
 ·rename_i h;exact tZ s sh n h
 ·rfl
theorem sE (sh:Int):∀(l:List Nat) (s:aB),(s.execs sh l).graph=s.graph
 | [],_=>rfl
 | a::l,s=>(sE sh l (aB.execIf sh s a)).trans (yM s sh a)
theorem CO {s:aB} {sh:Int} {n i:Nat} (h:((aB.execIf sh s n).ent i).state=2):(s.ent i).state=2∧i≠n:=by
 unfold aB.execIf at h
 split at h
 ·rename_i e
  by_cases ei:i=n
  ·subst ei
   have:((s.exec sh i).ent i).state=3:=congrArg cS.state (aT _ _ _)
   rw[this] at h
   exact absurd h (by decide)
  ·have:(s.exec sh n).ent i=s.ent i:=aP _ _ ei
   rw[this] at h
   exact⟨h,ei⟩
 ·rename_i e
  exact⟨h,fun k=>e (k ▸ h)⟩
theorem qI (sh:Int):∀(l:List Nat) {s:aB} {i:Nat},((s.execs sh l).ent i).state=2→(s.ent i).state=2∧i ∉ l
 | [],_,_,h=>⟨h,by simp⟩
 | a::l,s,i,h=>by
  obtain⟨h1,h2⟩:=qI sh l (s:=aB.execIf sh s a) h
  obtain⟨h3,h4⟩:=CO h1
  exact⟨h3,by simp[h2,h4]⟩
theorem BC (g:bE) (sh:Int) (t:aB) (n:Nat):(aB.round g sh t n).graph=t.graph:=by
 unfold aB.round
 split
 ·exact sE sh _ t
 ·rfl
theorem wW {g:bE} {sh:Int} {t:aB} {n i:Nat} (h:((aB.round g sh t n).ent i).state=2):(t.ent i).state=2:=by
 unfold aB.round at h
 split at h
 ·exact (qI sh _ h).1
 ·exact h
theorem DB {g:bE} {n:Nat} (hn:n<32) (hr:jO g (n:Int)=true):n∈dT g (n:Int):=by
 rw[AU hn,if_pos hr]
 exact (zH (yG g hn) n).2 ((cF g hn n).2 (.refl n))
theorem DT {g:bE} {sh:Int} {t:aB} {n:Nat} (hn:n<32) (hr:jO g (n:Int)=true):((aB.round g sh t n).ent n).state≠2:=by
 intro h
 have h2:=wW h
 unfold aB.round at h
 rw[if_pos h2] at h
 exact (qI sh _ h).2 (DB hn hr)
theorem zP (s:aB) (sh:Int):kJ (s.settle sh)∧(s.settle sh).graph=s.graph:=by
 have:∀k,k≤32→(∀i,i<k→(((List.range k).foldl (aB.round s.graph sh) s).ent i).state=2→jO s.graph (i:Int)=false)∧((List.range k).foldl (aB.round s.graph sh) s).graph=s.graph:=by
  intro k
  induction k with
  | zero=>exact fun _=>⟨fun i hi=>absurd hi (Nat.not_lt_zero i),rfl⟩
  | succ k ih=>
   intro hk
   obtain⟨i1,i2⟩:=ih (by omega)
   rw[List.range_succ,List.foldl_append]
   refine⟨fun i hi h=>?_,?_⟩
   ·have h:((aB.round s.graph sh ((List.range k).foldl (aB.round s.graph sh) s) k).ent i).state=2:=h
    by_cases e:i<k
    ·exact i1 i e (wW h)
    ·obtain rfl:i=k:=by omega
     cases hr:jO s.graph (i:Int)
     ·rfl
     ·exact absurd h (DT (by omega) hr)
   ·exact (BC s.graph sh _ k).trans i2
 obtain⟨h1,h2⟩:=this 32 (Nat.le_refl _)
 refine⟨fun i hi h=>?_,h2⟩
 have e:(s.settle sh).graph=s.graph:=h2
 rw[e]
 exact h1 i hi h
theorem zQ {s:aB} {who:Int} {f:aC} (h:kJ s):kJ (aN s who f).1:=by
 rcases dF s who f with ⟨_,h1,_⟩ | ⟨hg,hf,_,_,_,_,⟨hk,_,e⟩ | ⟨hk,e⟩⟩
 ·rw[h1];exact h
 ·rw[e]
  show kJ (s.asked (ofL who) f)
  intro i hi h2
  rw[oI hg (ofL who) hf]
  refine h i hi ?_
  unfold aB.asked at h2
  split at h2
  ·by_cases ei:i=f.id.toNat
   ·rw[ei,i7] at h2
    exact absurd h2 (show (1:Int)≠2 by decide)
   ·rw[eU s _ f ei] at h2
    exact h2
  ·exact h2
 ·rw[e]
  show kJ (s.commit (ofL who) f)
  unfold aB.commit
  split
  ·exact (zP _ _).1
  ·exact h
def Sys.took (S:Sys) (f:aC):Sys:=⟨upd S.B f.node.toNat (aN (S.B f.node.toNat) f.node f).1,S.C,fun g=>S.M g∨g∈(aN (S.B f.node.toNat) f.node f).2.1⟩
structure jI (S:Sys):Prop where
 own:∀i:Nat,i<32→dX (S.C i).deps (i:Int)=false
 most:∀i,i<32→(S.C i).begun=true→(S.C i).fixed=false→eB (S.C i).ops (S.C i).told=false
 kn:∀f,S.M f→f.kind=4→2≤((S.B f.node.toNat).ent f.id.toNat).state
 known:∀i,i<32→∀k,k<6→(S.C i).known k=true→2≤((S.B k).ent i).state
 settled:∀n,n<6→kJ (S.B n)
 ask:∀f,S.M f→f.kind=1→bJ f.ops (ofL f.node)=true
 first:∀n,n<6→∀i,i<32→∀d:Nat,(d:Int)∈((S.B n).ent i).first→(S.C d).begun=true
 deps:∀i,i<32→∀d:Nat,(d:Int)∈(S.C i).deps→(S.C d).begun=true
theorem jI.start:jI ⟨fun _=>dK,fun _=>bZ,fun _=>False⟩:=by
 refine⟨fun _ _=>rfl,fun i _ h=>?_,fun _ h=>h.elim,fun i _ k _ h=>?_,fun _ _=>zR,fun _ h=>h.elim,fun n _ i _ d h=>?_,fun i _ d h=>?_⟩
 ·cases h
 ·cases h
 ·have h:(d:Int)∈([]:List Int):=h
  simp at h
 ·have h:(d:Int)∈([]:List Int):=h
  simp at h
theorem D1 {s:aB} {who:Int} {f:aC} (h0:∀n,0≤(s.ent n).state) (i:Nat):(s.ent i).state≤((aN s who f).1.ent i).state:=(mC s who f h0).state i
theorem jI.node {S:Sys} (h:fR S) (u:jI S) {f:aC} (hM:S.M f) (hk:f.kind=1∨f.kind=3) (h0:(aN (S.B f.node.toNat) f.node f).2.2=0):jI (S.took f):=by
 obtain⟨hr1,hr2⟩:=h.s.rng f hM
 have hn6:f.node.toNat<6:=by omega
 have hnat:(f.node.toNat:Int)=f.node:=by omega
 have st:∀n,n<6→∀i,((S.B n).ent i).state≤(((S.took f).B n).ent i).state:=fun n hn i=>by
  show _≤((upd S.B f.node.toNat (aN (S.B f.node.toNat) f.node f).1 n).ent i).state
  by_cases e:n=f.node.toNat
  ·subst e
   rw[aT];exact D1 (h.state _ hn6) i
  ·rw[aP _ _ e];exact Int.le_refl _
 have K:=mC (S.B f.node.toNat) f.node f (h.state _ hn6)
 refine⟨u.own,u.most,fun g hg hg4=>?_,fun i hi k hk6 hkn=>Int.le_trans (u.known i hi k hk6 hkn) (st k hk6 i),fun n hn=>?_,fun g hg hg1=>?_,fun n hn i hi d hd=>?_,u.deps⟩
 ·rcases hg with hg | hg
  ·obtain⟨q1,q2⟩:=h.s.rng g hg
   exact Int.le_trans (u.kn g hg hg4) (st _ (by omega) _)
  ·rcases dF (S.B f.node.toNat) f.node f with ⟨hh,_⟩ | ⟨_,hf,_,_,_,_,⟨_,_,e⟩ | ⟨hk3,e⟩⟩
   ·exact absurd h0 hh
   ·rw[e] at hg
    have hg:g∈[(⟨2,f.node,f.id,[],_,[],[]⟩:aC)]:=hg
    rw[List.mem_singleton] at hg
    rw[hg] at hg4
    exact absurd hg4 (show (2:Int)≠4 by decide)
   ·have hgg:g.node=f.node∧g.id=f.id:=by
     rw[e] at hg
     have hg:g∈((S.B f.node.toNat).commit (ofL f.node) f).answers (ofL f.node) f.node f.id:=hg
     unfold aB.answers at hg
     rcases List.mem_cons.1 hg with hg | hg
     ·rw[hg];exact⟨rfl,rfl⟩
     ·split at hg
      ·rw[List.mem_singleton] at hg
       rw[hg];exact⟨rfl,rfl⟩
      ·simp at hg
    rw[hgg.1,hgg.2]
    show 2≤((upd S.B f.node.toNat (aN (S.B f.node.toNat) f.node f).1 f.node.toNat).ent f.id.toNat).state
    rw[aT]
    have:=congrArg (fun c=>c.2.2.2.2) (lJ h0 hk3)
    have this:decide (2≤((aN (S.B f.node.toNat) f.node f).1.ent f.id.toNat).state)=_:=this
    by_cases hlt:((S.B f.node.toNat).ent f.id.toNat).state<2
    ·rw[if_pos hlt] at this
     exact of_decide_eq_true this
    ·exact Int.le_trans (by omega) (K.state f.id.toNat)
 ·show kJ (upd S.B f.node.toNat _ n)
  by_cases e:n=f.node.toNat
  ·rw[e,aT];exact zQ (u.settled _ hn6)
  ·rw[aP _ _ e];exact u.settled n hn
 ·rcases hg with hg | hg
  ·exact u.ask g hg hg1
  ·rcases dF (S.B f.node.toNat) f.node f with ⟨hh,_⟩ | ⟨_,hf,_,_,_,_,⟨_,_,e⟩ | ⟨hk3,e⟩⟩
   ·exact absurd h0 hh
   ·rw[e] at hg
    have hg:g∈[(⟨2,f.node,f.id,[],_,[],[]⟩:aC)]:=hg
    rw[List.mem_singleton] at hg
    rw[hg] at hg1
    exact absurd hg1 (show (2:Int)≠1 by decide)
   ·rw[e] at hg
    have hg:g∈((S.B f.node.toNat).commit (ofL f.node) f).answers (ofL f.node) f.node f.id:=hg
    unfold aB.answers at hg
    rcases List.mem_cons.1 hg with hg | hg
    ·rw[hg] at hg1
     exact absurd hg1 (show (4:Int)≠1 by decide)
    ·split at hg
     ·rw[List.mem_singleton] at hg
      rw[hg] at hg1
      exact absurd hg1 (show (5:Int)≠1 by decide)
     ·simp at hg
 ·have hd:(d:Int)∈((upd S.B f.node.toNat (aN (S.B f.node.toNat) f.node f).1 n).ent i).first:=hd
  show (S.C d).begun=true
  by_cases e:n=f.node.toNat
  ·rw[e,aT] at hd
   have old:(d:Int)∈((S.B f.node.toNat).ent i).first→(S.C d).begun=true:=fun h1=>u.first _ hn6 i hi d h1
   have new:∀ops sh,(d:Int)∈(S.B f.node.toNat).ahead i ops sh→(S.C d).begun=true:=fun ops sh h1=>by
    obtain⟨d32,_,ds,_⟩:=nX.1 h1
    exact (h.s.ent1 _ hn6 d d32 (by omega)).1
   by_cases ei:i=f.id.toNat
   ·subst ei
    rcases hk with hk | hk
    ·rw[m8 h0 hk] at hd
     split at hd
     ·exact new _ _ hd
     ·exact old hd
    ·have:=congrArg (fun c=>c.2.1) (lJ h0 hk)
     have this:((aN (S.B f.node.toNat) f.node f).1.ent f.id.toNat).first=_:=this
     rw[this] at hd
     split at hd
     ·have hd:(d:Int)∈(if ((S.B f.node.toNat).ent f.id.toNat).state=0 then (S.B f.node.toNat).ahead f.id.toNat f.ops (ofL f.node) else ((S.B f.node.toNat).ent f.id.toNat).first):=hd
      split at hd
      ·exact new _ _ hd
      ·exact old hd
     ·exact old hd
   ·have:=congrArg (fun c=>c.2.1) (mB (s:=S.B f.node.toNat) (who:=f.node) (f:=f) ei)
    have this:((aN (S.B f.node.toNat) f.node f).1.ent i).first=((S.B f.node.toNat).ent i).first:=this
    rw[this] at hd
    exact old hd
  ·rw[aP _ _ e] at hd
   exact u.first n hn i hi d hd
theorem r8 (sh:Int):∀(l:List (Int × Int)) (c:aF),(c.dones sh l).known=c.known
 | [],_=>rfl
 | p::l,c=>by
  show ((aF.done1 sh c p).dones sh l).known=c.known
  rw[r8 sh l]
  unfold aF.done1
  split<;>rfl
theorem BM {c:aF} {id:Int} {f:aC} {k:Nat} (h:(aQ c id f).1.known k=true):c.known k=true∨(f.kind=4∧k=f.node.toNat):=by
 unfold aQ at h
 split at h
 ·exact Or.inl h
 ·split at h
  ·exact Or.inl h
  ·split at h
   ·exact Or.inl h
   ·split at h
    ·split at h<;>exact Or.inl h
    ·split at h
     ·exact Or.inl h
     ·split at h
      ·rename_i h4
       have h:upd c.known f.node.toNat true k=true:=h
       by_cases e:k=f.node.toNat
       ·exact Or.inr ⟨h4,e⟩
       ·rw[aP _ _ e] at h;exact Or.inl h
      ·have h:(c.dones (ofL f.node) (f.ats.zip f.vals)).known k=true:=h
       rw[r8] at h
       exact Or.inl h
theorem iV {c:aF} {id:Int} {g:aC} (h:g∈cL c id):(g.kind=1→bJ g.ops (ofL g.node)=true)∧g.kind≠4:=by
 unfold cL at h
 split at h
 ·simp at h
 ·obtain⟨n,_,hg⟩:=List.mem_flatMap.1 h
  unfold aF.send at hg
  split at hg
  ·split at hg
   ·rw[List.mem_singleton] at hg
    rw[hg]
    exact⟨fun e=>absurd e (show (3:Int)≠1 by decide),(show (3:Int)≠4 by decide)⟩
   ·simp at hg
  ·split at hg
   ·rename_i ht
    rw[List.mem_singleton] at hg
    rw[hg]
    rw[Bool.and_eq_true] at ht
    exact⟨fun _=>ht.1,(show (1:Int)≠4 by decide)⟩
   ·simp at hg
theorem tC (c:aF) (id:Int) (f:aC):(aQ c id f).1.begun=c.begun:=by
 rcases fW c id f with ⟨_,h1,_⟩ | ⟨_,_,_,_,_,_,he,_⟩ | ⟨_,_,_,hs,_⟩
 ·rw[h1]
 ·rw[he];rfl
 ·exact hs.begun
theorem sU {zs:List Int} {n:Int}:dX zs n=true↔n∈zs:=by
 unfold dX eqB
 simp
theorem jI.answer {S:Sys} (h:fR S) (u:jI S) {f:aC} (hM:S.M f) (h0:(aQ (S.C f.id.toNat) f.id f).2.2=0):
  jI ⟨S.B,upd S.C f.id.toNat (aQ (S.C f.id.toNat) f.id f).1,fun g=>S.M g∨g∈(aQ (S.C f.id.toNat) f.id f).2.1⟩:=by
 obtain⟨hr1,hr2⟩:=h.s.rng f hM
 have hi32:f.id.toNat<32:=by omega
 have hn6:f.node.toNat<6:=by omega
 have hnat:(f.id.toNat:Int)=f.id:=by omega
 have beg:∀d,(upd S.C f.id.toNat (aQ (S.C f.id.toNat) f.id f).1 d).begun=(S.C d).begun:=fun d=>by
  rcases eP S.C f.id.toNat (aQ (S.C f.id.toNat) f.id f).1 d with ⟨e1,e2⟩ | ⟨_,e2⟩
  ·rw[e2,tC,e1]
  ·rw[e2]
 have D:∀d:Nat,(d:Int)∈(aQ (S.C f.id.toNat) f.id f).1.deps→(S.C d).begun=true:=by
  intro d hd
  rcases fW (S.C f.id.toNat) f.id f with ⟨h1,_⟩ | ⟨_,_,hk,_,_,_,he,_⟩ | ⟨_,_,_,hs,_⟩
  ·exact absurd h0 h1
  ·rw[he] at hd
   have hd:(d:Int)∈gQ (S.C f.id.toNat).deps f.deps:=hd
   rcases (pH.1 hd).2 with e | e
   ·exact u.deps _ hi32 d e
   ·rw[(h.s.tel f hM hk).2] at e
    exact u.first _ hn6 _ hi32 d e
  ·rw[hs.deps] at hd
   exact u.deps _ hi32 d hd
 have O:dX (aQ (S.C f.id.toNat) f.id f).1.deps (f.id.toNat:Int)=false:=by
  have old:=u.own _ hi32
  rcases fW (S.C f.id.toNat) f.id f with ⟨h1,_⟩ | ⟨_,hg,hk,_,_,_,he,_⟩ | ⟨_,_,_,hs,_⟩
  ·exact absurd h0 h1
  ·rw[he]
   show dX (gQ (S.C f.id.toNat).deps f.deps) (f.id.toNat:Int)=false
   cases e:dX (gQ (S.C f.id.toNat).deps f.deps) (f.id.toNat:Int)
   ·rfl
   ·rcases (pH.1 (sU.1 e)).2 with e | e
    ·rw[sU.2 e] at old;cases old
    ·have F:=h.s.tel f hM hk
     rw[F.2] at e
     have:=((h.s.good _ hn6).fine hi32 (by have:=F.1;omega)).first.2
     rw[sU.2 e] at this;cases this
  ·rw[hs.deps];exact old
 refine⟨fun i hi=>?_,fun i hi hb hf=>?_,fun g hg hg4=>?_,fun i hi k hk hkn=>?_,u.settled,fun g hg hg1=>?_,fun n hn i hi d hd=>?_,fun i hi d hd=>?_⟩
 ·show dX (upd S.C f.id.toNat (aQ (S.C f.id.toNat) f.id f).1 i).deps (i:Int)=false
  rcases eP S.C f.id.toNat (aQ (S.C f.id.toNat) f.id f).1 i with ⟨e1,e2⟩ | ⟨_,e2⟩
  ·rw[e2,e1];exact O
  ·rw[e2];exact u.own i hi
 ·have hb:(upd S.C f.id.toNat (aQ (S.C f.id.toNat) f.id f).1 i).begun=true:=hb
  have hf:(upd S.C f.id.toNat (aQ (S.C f.id.toNat) f.id f).1 i).fixed=false:=hf
  show eB (upd S.C f.id.toNat (aQ (S.C f.id.toNat) f.id f).1 i).ops (upd S.C f.id.toNat (aQ (S.C f.id.toNat) f.id f).1 i).told=false
  rw[beg] at hb
  rcases eP S.C f.id.toNat (aQ (S.C f.id.toNat) f.id f).1 i with ⟨e1,e2⟩ | ⟨_,e2⟩
  ·rw[e2] at hf ⊢
   rcases fW (S.C f.id.toNat) f.id f with ⟨h1,_⟩ | ⟨_,_,_,_,_,_,he,_⟩ | ⟨_,_,_,hs,_⟩
   ·exact absurd h0 h1
   ·rw[he] at hf ⊢
    exact hf
   ·rw[hs.ops,hs.told]
    rw[hs.fixed] at hf
    rw[e1] at hb
    exact u.most _ hi32 hb hf
  ·rw[e2] at hf ⊢
   exact u.most i hi hb hf
 ·rcases hg with hg | hg
  ·exact u.kn g hg hg4
  ·exact absurd hg4 (iV (lG hg).1).2
 ·have hkn:(upd S.C f.id.toNat (aQ (S.C f.id.toNat) f.id f).1 i).known k=true:=hkn
  show 2≤((S.B k).ent i).state
  rcases eP S.C f.id.toNat (aQ (S.C f.id.toNat) f.id f).1 i with ⟨e1,e2⟩ | ⟨_,e2⟩
  ·rw[e2] at hkn
   rw[e1]
   rcases BM hkn with e | ⟨e,ek⟩
   ·exact u.known _ hi32 k hk e
   ·rw[ek]
    exact u.kn f hM e
  ·rw[e2] at hkn
   exact u.known i hi k hk hkn
 ·rcases hg with hg | hg
  ·exact u.ask g hg hg1
  ·exact (iV (lG hg).1).1 hg1
 ·exact (beg d).trans (u.first n hn i hi d hd)
 ·have hd:(d:Int)∈(upd S.C f.id.toNat (aQ (S.C f.id.toNat) f.id f).1 i).deps:=hd
  refine (beg d).trans ?_
  rcases eP S.C f.id.toNat (aQ (S.C f.id.toNat) f.id f).1 i with ⟨e1,e2⟩ | ⟨_,e2⟩
  ·rw[e2] at hd;exact D d hd
  ·rw[e2] at hd;exact u.deps i hi d hd
theorem jI.again {S:Sys} (u:jI S) (i:Nat):jI ⟨S.B,S.C,fun g=>S.M g∨g∈cL (S.C i) (i:Int)⟩:=by
 refine⟨u.own,u.most,fun g hg hg4=>?_,u.known,u.settled,fun g hg hg1=>?_,u.first,u.deps⟩
 ·rcases hg with hg | hg
  ·exact u.kn g hg hg4
  ·exact absurd hg4 (iV hg).2
 ·rcases hg with hg | hg
  ·exact u.ask g hg hg1
  ·exact (iV hg).1 hg1
theorem FJ {ops:List OpL} (h:bI ops=true):eB ops (fun _=>false)=false:=by
 have hk:=yP h
 have e0:m5 (fun _=>false) 0=0:=rfl
 have e1:m5 (fun _=>false) 1=0:=rfl
 unfold eB
 rw[e0,e1]
 cases ops with
 | nil=>unfold bI at h;simp at h
 | cons o r=>
  have:=hk o (by simp)
  by_cases ho:o.2.1 % 2=0
  ·have:bJ (o::r) 0=true:=List.any_eq_true.2 ⟨o,by simp,by simp[kQ,ho]⟩
   rw[this]
   rfl
  ·have:bJ (o::r) 1=true:=List.any_eq_true.2 ⟨o,by simp,by simp[kQ];omega⟩
   rw[this]
   simp
theorem jI.begin {S:Sys} (u:jI S) {i:Nat} {ops:List OpL} (h0:(bF (i:Int) ops).2.2=0):
  jI ⟨S.B,upd S.C i (bF (i:Int) ops).1,fun g=>S.M g∨g∈(bF (i:Int) ops).2.1⟩:=by
 have hgo:=(wH h0).2.1
 have e:bF (i:Int) ops=({ bZ with begun:=true,ops:=ops },cL { bZ with begun:=true,ops:=ops } (i:Int),0):=by
  unfold bF at *
  split at h0
  ·exact absurd h0 (show (2:Int)≠0 by decide)
  ·rename_i h1
   rw[if_neg h1]
   split at h0
   ·exact absurd h0 (show (1:Int)≠0 by decide)
   ·rename_i h2
    rw[if_neg h2]
 rw[e]
 obtain⟨c,hc⟩:∃c:aF,c={ bZ with begun:=true,ops:=ops }:=⟨_,rfl⟩
 show jI ⟨S.B,upd S.C i { bZ with begun:=true,ops:=ops },fun g=>S.M g∨g∈cL { bZ with begun:=true,ops:=ops } (i:Int)⟩
 rw[←hc]
 have beg:∀d,(S.C d).begun=true→(upd S.C i c d).begun=true:=fun d hd=>by
  rcases eP S.C i c d with ⟨_,e2⟩ | ⟨_,e2⟩
  ·rw[e2,hc]
  ·rw[e2];exact hd
 refine⟨fun j hj=>?_,fun j hj hbj hf=>?_,fun g hg hg4=>?_,fun j hj k hk hkn=>?_,u.settled,fun g hg hg1=>?_,fun n hn j hj d hd=>beg d (u.first n hn j hj d hd),fun j hj d hd=>?_⟩
 ·show dX (upd S.C i c j).deps (j:Int)=false
  rcases eP S.C i c j with ⟨_,e2⟩ | ⟨_,e2⟩
  ·rw[e2,hc];rfl
  ·rw[e2];exact u.own j hj
 ·have hbj:(upd S.C i c j).begun=true:=hbj
  have hf:(upd S.C i c j).fixed=false:=hf
  show eB (upd S.C i c j).ops (upd S.C i c j).told=false
  rcases eP S.C i c j with ⟨_,e2⟩ | ⟨_,e2⟩
  ·rw[e2,hc];exact FJ hgo
  ·rw[e2] at hbj hf ⊢;exact u.most j hj hbj hf
 ·rcases hg with hg | hg
  ·exact u.kn g hg hg4
  ·exact absurd hg4 (iV hg).2
 ·have hkn:(upd S.C i c j).known k=true:=hkn
  show 2≤((S.B k).ent j).state
  rcases eP S.C i c j with ⟨_,e2⟩ | ⟨_,e2⟩
  ·rw[e2,hc] at hkn;cases hkn
  ·rw[e2] at hkn;exact u.known j hj k hk hkn
 ·rcases hg with hg | hg
  ·exact u.ask g hg hg1
  ·exact (iV hg).1 hg1
 ·have hd:(d:Int)∈(upd S.C i c j).deps:=hd
  refine beg d ?_
  rcases eP S.C i c j with ⟨_,e2⟩ | ⟨_,e2⟩
  ·rw[e2,hc] at hd
   have hd:(d:Int)∈([]:List Int):=hd
   simp at hd
  ·rw[e2] at hd;exact u.deps j hj d hd
def mW (w w':World) (v:Value) (zs:List Int):Prop:=w'.ownsRow w.heap.size 3 1 v zs.length (aS zs)∧(zs.length=0→∃a,v= .slice a 0 0)∧Below w.heap.size w w'
def oP (w w':World) (v:Value) (zs:List OpL):Prop:=w'.ownsRow w.heap.size 69 3 v zs.length (b9 zs)∧(zs.length=0→∃a,v= .slice a 0 0)∧Below w.heap.size w w'
theorem yU (zs:List Int):∀u∈aS zs,u.oneCell'=true:=by
 intro u hu
 obtain⟨n,_,rfl⟩:=List.mem_map.1 hu
 rfl
theorem zB (zs:List OpL):∀u∈b9 zs,u.oneCell'=true:=by
 intro u hu
 obtain⟨o,_,h⟩:=List.mem_flatMap.1 hu
 simp[k8] at h
 rcases h with rfl | rfl | rfl<;>rfl
theorem cG.news {w w1:World} {ad:Addr} {zs:List Int} (h:cG w.heap.size w (some ad) zs) (hb:Below w.heap.size w w1):∀j u,(aS zs)[j]? =some u→w1.cell? (ad.add j)=some u:=by
 intro j u hu
 rcases h with rfl | ⟨b,off,hb',hlt,hc⟩
 ·simp[aS] at hu
 ·obtain rfl:ad=⟨b,off,none⟩:=by simpa using hb'
  have hj:j<zs.length:=by
   obtain⟨hj,_⟩:=List.getElem?_eq_some_iff.1 hu
   simpa [aS] using hj
  rw[fJ,hb.cell (p:=⟨b,off+j,none⟩) hlt,hc j hj]
  simp[aS,hj] at hu
  simp[List.getD,hj,hu]
theorem e8.news {w w1:World} {ad:Addr} {zs:List OpL} (h:e8 w (some ad) zs) (hb:Below w.heap.size w w1):∀j u,(b9 zs)[j]? =some u→w1.cell? (ad.add j)=some u:=by
 intro j u hu
 rcases h with rfl | ⟨b,off,hb',hlt,hc⟩
 ·simp[b9] at hu
 ·obtain rfl:ad=⟨b,off,none⟩:=by simpa using hb'
  have hj:j<zs.length*3:=by
   obtain⟨hj,_⟩:=List.getElem?_eq_some_iff.1 hu
   rw[qP] at hj
   exact hj
  obtain⟨g0,g1,g2⟩:=nM zs (j / 3) (by omega)
  obtain⟨c0,c1,c2⟩:=hc (j / 3) (by omega)
  rw[fJ,hb.cell (p:=⟨b,off+j,none⟩) hlt]
  have h3:j=j / 3*3∨j=j / 3*3+1∨j=j / 3*3+2:=by omega
  rcases h3 with e | e | e
  ·rw[e] at hu ⊢;rw[c0];rw[g0] at hu;exact hu
  ·rw[e] at hu ⊢;rw[←Nat.add_assoc,c1];rw[g1] at hu;exact hu
  ·rw[e] at hu ⊢;rw[←Nat.add_assoc,c2];rw[g2] at hu;exact hu
theorem cW (a:Option Addr) (cap:Nat) (zs:List Int) (w:World) (h:bG w a cap zs) (hl:zs.length*8≤140737488355328):
  Calls Tryz.prog 55 #[.slice a zs.length cap] w fun e w'=>∃v,e= .returned v∧mW w w' v zs:=by
 obtain⟨i0,hi,hz0,hz1,hz2⟩:=info_parts Tryz.infoInt
 have he:=fun w=>Go.Lib.run_eql_slice_nil (P:=Tryz.prog) w 26 3 a zs.length cap 0 0 Tryz.underlying26
 cases a with
 | none=>
  obtain⟨h1,rfl⟩:=h.2.2.2 rfl
  obtain rfl:=List.eq_nil_of_length_eq_zero h1
  simp only[Option.isNone_none,List.length_nil] at he
  go_enter Tryz.func55,Tryz.ntmps55
  go_wp2
  go_ret
  exact⟨_,rfl,World.ownsRow_nil _ _ _ _,fun _=>⟨_,rfl⟩,Below.refl _ _⟩
 | some ad=>
  simp only[Option.isNone_some] at he
  obtain⟨hz,hm,hc,_⟩:=h
  have HB:Hid (Below w.heap.size w (w.alloc (.cells #[] 3))):=(Below.refl _ _).alloc (Nat.le_refl _) _
  have HZ:Hid (cG w.heap.size w (some ad) zs):=hz
  clear hz
  by_cases h0:zs.length=0
  ·obtain rfl:=List.eq_nil_of_length_eq_zero h0
   simp only[List.length_nil] at he
   go_enter Tryz.func55,Tryz.ntmps55
   go_wp2_with (first
    | (at_builtin;refine wpList_append_fits_any _ rfl _ _ 26 rfl w.heap.size 3 i0 1 Tryz.underlying26 hi hz1 w.heap.size 0 0 [] rfl (World.ownsRow_made (e:=3) (size:=1) w #[] 0 (Nat.le_refl _) (by decide) rfl) (some ad) 0 cap [] rfl rfl (fun h=>by cases h) (fun _ _ j u hj=>by simp at hj) (by simp) (Nat.le_refl _) ?_;intro w2 hown hg)
    | go_in)
   go_wp2
   go_ret
   exact⟨_,rfl,hown,fun _=>⟨_,rfl⟩,HB.out.grown hg (by rw[aA];omega) (by intro k hk;cases hk;exact Nat.le_refl _)⟩
  ·go_enter Tryz.func55,Tryz.ntmps55
   go_wp2_with (first
    | (at_builtin;refine wpList_append_own _ rfl _ _ 26 rfl w.heap.size 3 i0 (.int .i64 0) 1 8 Tryz.underlying26 hi hz0 hz1 hz2 rfl (by decide) _ _ _ rfl (World.ownsRow_made (e:=3) (size:=1) w #[] 0 (Nat.le_refl _) (by decide) rfl) ad zs.length cap (aS zs) rfl ?c1 ?c2 ?c3 ?c4 ?c5 ?c6 ?_)
    | go_in)
   case c1=>simp[aS]
   case c2=>exact HZ.out.news HB.out
   case c3=>exact yU zs
   case c4=>unfold maxLen;omega
   case c5=>omega
   case c6=>rw[aA];omega
   ·intro v' w2 hown hg _
    go_wp2
    go_ret
    refine⟨_,rfl,?_,fun h=>absurd h h0,HB.out.grown hg (by rw[aA];omega) (by intro k hk;cases hk;exact Nat.le_refl _)⟩
    simpa using hown
theorem gP (a:Option Addr) (cap:Nat) (zs:List OpL) (w:World) (h:bU w a cap zs) (hl:zs.length*24≤140737488355328):
  Calls Tryz.prog 54 #[.slice a zs.length cap] w fun e w'=>∃v,e= .returned v∧oP w w' v zs:=by
 obtain⟨i0,hi,hz0,hz1,hz2⟩:=info_parts Tryz.infoOp
 have he:=fun w=>Go.Lib.run_eql_slice_nil (P:=Tryz.prog) w 22 69 a zs.length cap 0 0 Tryz.underlying22
 cases a with
 | none=>
  obtain⟨h1,rfl⟩:=h.2.2.2 rfl
  obtain rfl:=List.eq_nil_of_length_eq_zero h1
  simp only[Option.isNone_none,List.length_nil] at he
  go_enter Tryz.func54,Tryz.ntmps54
  go_wp2
  go_ret
  exact⟨_,rfl,World.ownsRow_nil _ _ _ _,fun _=>⟨_,rfl⟩,Below.refl _ _⟩
 | some ad=>
  simp only[Option.isNone_some] at he
  obtain⟨hz,hm,hc,_⟩:=h
  have HB:Hid (Below w.heap.size w (w.alloc (.cells #[] 69))):=(Below.refl _ _).alloc (Nat.le_refl _) _
  have HZ:Hid (e8 w (some ad) zs):=hz
  clear hz
  by_cases h0:zs.length=0
  ·obtain rfl:=List.eq_nil_of_length_eq_zero h0
   simp only[List.length_nil] at he
   go_enter Tryz.func54,Tryz.ntmps54
   go_wp2_with (first
    | (at_builtin;refine wpList_append_fits_any _ rfl _ _ 22 rfl w.heap.size 69 i0 3 Tryz.underlying22 hi hz1 w.heap.size 0 0 [] rfl (World.ownsRow_made (e:=69) (size:=3) w #[] 0 (Nat.le_refl _) (by decide) rfl) (some ad) 0 cap [] rfl rfl (fun h=>by cases h) (fun _ _ j u hj=>by simp at hj) (by simp) (Nat.le_refl _) ?_;intro w2 hown hg)
    | go_in)
   go_wp2
   go_ret
   exact⟨_,rfl,hown,fun _=>⟨_,rfl⟩,HB.out.grown hg (by rw[aA];omega) (by intro k hk;cases hk;exact Nat.le_refl _)⟩
  ·go_enter Tryz.func54,Tryz.ntmps54
   go_wp2_with (first
    | (at_builtin;refine wpList_append_own _ rfl _ _ 22 rfl w.heap.size 69 i0 (.agg #[.int .i64 0,.int .i64 0,.int .i64 0]) 3 24 Tryz.underlying22 hi hz0 hz1 hz2 rfl (by decide) _ _ _ rfl (World.ownsRow_made (e:=69) (size:=3) w #[] 0 (Nat.le_refl _) (by decide) rfl) ad zs.length cap (b9 zs) rfl ?c1 ?c2 ?c3 ?c4 ?c5 ?c6 ?_)
    | go_in)
   case c1=>exact qP zs
   case c2=>exact HZ.out.news HB.out
   case c3=>exact zB zs
   case c4=>unfold maxLen;omega
   case c5=>omega
   case c6=>rw[aA];omega
   ·intro v' w2 hown hg _
    go_wp2
    go_ret
    refine⟨_,rfl,?_,fun h=>absurd h h0,HB.out.grown hg (by rw[aA];omega) (by intro k hk;cases hk;exact Nat.le_refl _)⟩
    simpa using hown
theorem bM (w:World) {g k:Nat} (cs:Array Value) (h:k≠g):(w.setRow g cs).heap[k]? =w.heap[k]? :=by
 simp[World.setRow,Array.getElem?_modify]
 intro e;omega
theorem c8 {w w':World} {b:Nat} {e:TypeId} {size:Nat} {v:Value} {n:Nat} {xs:List Value} (h:w.ownsRow b e size v n xs) (hs:∀k,v.ownBlock=some k→w'.heap[k]? =w.heap[k]?):w'.ownsRow b e size v n xs:=
 ⟨h.1,h.2.imp id fun ⟨g,cap,cur,h1,h2,h3,h4⟩=>⟨g,cap,cur,h1,h2,by rw[hs g (by rw[h1];rfl)];exact h3,h4⟩⟩
theorem pP (w:World) (A B C:Obj):(((w.alloc A).alloc B).alloc C).heap[w.heap.size]? =some A∧(((w.alloc A).alloc B).alloc C).heap[w.heap.size+1]? =some B∧(((w.alloc A).alloc B).alloc C).heap[w.heap.size+2]? =some C:=by
 have h1:(w.alloc A).heap.size=w.heap.size+1:=aA _ _
 have h2:((w.alloc A).alloc B).heap.size=w.heap.size+2:=by rw[aA];omega
 obtain⟨r1,r2⟩:=cD w A B
 refine⟨?_,?_,?_⟩
 ·rw[Below.heap_alloc _ _ _ (by omega)];exact r1
 ·rw[Below.heap_alloc _ _ _ (by omega)];exact r2
 ·rw[show w.heap.size+2=((w.alloc A).alloc B).heap.size by omega];exact aJ _ _
theorem Tryz.infoFrame7:(Tryz.prog.info? 123).map (·.size)=some 7:=by kernel_rfl
theorem Tryz.infoFrameZ:(Tryz.prog.info? 123).map (fun i=>(i.zero,i.size,i.bytes))=some (some (.agg #[.int .i64 0,.int .i64 0,.int .i64 0,.slice none 0 0,.slice none 0 0,.slice none 0 0,.slice none 0 0]),7,120):=by kernel_rfl
theorem fE {P:Program} {fn:Func} {p q r:Tmp} {ty:TypeId} (h:fn.results=#[.cell p ty,.tmp q,.tmp r]) (tmps:Array Value) (w:World) (g:Nat) (t:TypeId) (cs:Array Value) (fr:Nat × Nat) (d:TypeDesc)
  (hp:tmps.getD p undef= .pointer (some ⟨g,0,none⟩)) (hg:w.heap[g]? =some (.cells cs t fr)) (hu:P.underlying ty=some d) (hd:(match d with | .struct _ | .array _ _=>true | _=>false)=true) (hi:(P.info? ty).map (·.size)=some cs.size)
  (x y:Value) (hx:tmps.getD q undef=x) (hy:tmps.getD r undef=y):(results fn tmps).run P w= .ok (.tuple #[.agg cs,x,y]) w:=by
 have hp':tmps[p]?.getD undef= .pointer (some ⟨g,0,none⟩):=by simpa using hp
 have hx':tmps[q]?.getD undef=x:=by simpa using hx
 have hy':tmps[r]?.getD undef=y:=by simpa using hy
 simp[results,h,hp',hx',hy',asAddr,run_loadVar_row w g t ty cs fr d hg hu hd hi]
def dI (B:Nat) (w:World) (v:Value) (f:aC):Prop:=∃a3 c3 a4 c4 a5 c5 a6 c6,
 v= .agg #[.int .i64 f.kind,.int .i64 f.node,.int .i64 f.id,.slice a3 f.ops.length c3,.slice a4 f.deps.length c4,.slice a5 f.ats.length c5,.slice a6 f.vals.length c6]∧
 (bU w a3 c3 f.ops∧eG (· <B) w a3 f.ops)∧(bG w a4 c4 f.deps∧cN (· <B) w a4 f.deps)∧(bG w a5 c5 f.ats∧cN (· <B) w a5 f.ats)∧(bG w a6 c6 f.vals∧cN (· <B) w a6 f.vals)
theorem bP.b {w:World} {v:Value} {f:aC} (h:bP w v f):dI w.heap.size w v f:=by
 obtain⟨a3,c3,a4,c4,a5,c5,a6,c6,e,h3,h4,h5,h6⟩:=h
 exact⟨a3,c3,a4,c4,a5,c5,a6,c6,e,⟨h3,h3.1⟩,⟨h4,h4.1⟩,⟨h5,h5.1⟩,⟨h6,h6.1⟩⟩
theorem dI.v {B:Nat} {w:World} {v:Value} {f:aC} (h:dI B w v f):bP w v f:=by
 obtain⟨a3,c3,a4,c4,a5,c5,a6,c6,e,h3,h4,h5,h6⟩:=h
 exact⟨a3,c3,a4,c4,a5,c5,a6,c6,e,h3.1,h4.1,h5.1,h6.1⟩
theorem m0 {B:Nat} {w w':World} {a:Option Addr} {cap:Nat} {zs:List Int} (h:bG w a cap zs∧cN (· <B) w a zs) (hb:Below B w w'):bG w' a cap zs∧cN (· <B) w' a zs:=by
 have h2:=h.2.later (w':=w') (fun k _ hk=>hb.block k hk)
 exact⟨⟨h2.at,h.1.2⟩,h2⟩
theorem n9 {B:Nat} {w w':World} {a:Option Addr} {cap:Nat} {zs:List OpL} (h:bU w a cap zs∧eG (· <B) w a zs) (hb:Below B w w'):bU w' a cap zs∧eG (· <B) w' a zs:=by
 have h2:=h.2.later (w':=w') (fun k _ hk=>hb.block k hk)
 exact⟨⟨h2.at,h.1.2⟩,h2⟩
theorem dI.later {B:Nat} {w w':World} {v:Value} {f:aC} (h:dI B w v f) (hb:Below B w w'):dI B w' v f:=by
 obtain⟨a3,c3,a4,c4,a5,c5,a6,c6,e,h3,h4,h5,h6⟩:=h
 exact⟨a3,c3,a4,c4,a5,c5,a6,c6,e,n9 h3 hb,m0 h4 hb,m0 h5 hb,m0 h6 hb⟩
def k9 (B:Nat) (w:World) (v:Value) (f:aC):Prop:=∃a3 c3 a4 c4 a5 c5 a6 c6,
 v= .agg #[.int .i64 f.kind,.int .i64 f.node,.int .i64 f.id,.slice a3 f.ops.length c3,.slice a4 f.deps.length c4,.slice a5 f.ats.length c5,.slice a6 f.vals.length c6]∧
 (bU w a3 c3 f.ops∧eG (B≤·) w a3 f.ops)∧(bG w a4 c4 f.deps∧cN (B≤·) w a4 f.deps)∧(bG w a5 c5 f.ats∧cN (B≤·) w a5 f.ats)∧(bG w a6 c6 f.vals∧cN (B≤·) w a6 f.vals)
theorem k9.v {B:Nat} {w:World} {v:Value} {f:aC} (h:k9 B w v f):bP w v f:=by
 obtain⟨a3,c3,a4,c4,a5,c5,a6,c6,e,h3,h4,h5,h6⟩:=h
 exact⟨a3,c3,a4,c4,a5,c5,a6,c6,e,h3.1,h4.1,h5.1,h6.1⟩
theorem mR {ok:Nat→Prop} {w w':World} {a:Option Addr} {cap:Nat} {zs:List Int} (h:bG w a cap zs∧cN ok w a zs) (hb:bK ok w w'):bG w' a cap zs∧cN ok w' a zs:=by
 have h2:=h.2.later hb
 exact⟨⟨h2.at,h.1.2⟩,h2⟩
theorem zT {ok:Nat→Prop} {w w':World} {a:Option Addr} {cap:Nat} {zs:List OpL} (h:bU w a cap zs∧eG ok w a zs) (hb:bK ok w w'):bU w' a cap zs∧eG ok w' a zs:=by
 have h2:=h.2.later hb
 exact⟨⟨h2.at,h.1.2⟩,h2⟩
theorem k9.same {B:Nat} {w w':World} {v:Value} {f:aC} (h:k9 B w v f) (hb:bK (B≤·) w w'):k9 B w' v f:=by
 obtain⟨a3,c3,a4,c4,a5,c5,a6,c6,e,h3,h4,h5,h6⟩:=h
 exact⟨a3,c3,a4,c4,a5,c5,a6,c6,e,zT h3 hb,mR h4 hb,mR h5 hb,mR h6 hb⟩
theorem k9.mono {B B':Nat} {w:World} {v:Value} {f:aC} (h:k9 B w v f) (hB:B'≤B):k9 B' w v f:=by
 obtain⟨a3,c3,a4,c4,a5,c5,a6,c6,e,h3,h4,h5,h6⟩:=h
 have m:∀k,k<w.heap.size→B≤k→B'≤k:=fun k _ (h:B≤k)=>by omega
 exact⟨a3,c3,a4,c4,a5,c5,a6,c6,e,⟨h3.1,h3.2.mono m⟩,⟨h4.1,h4.2.mono m⟩,⟨h5.1,h5.2.mono m⟩,⟨h6.1,h6.2.mono m⟩⟩
theorem h9 (ok:Nat→Prop) (w:World):bG w none 0 []∧cN ok w none []:=⟨⟨Or.inl rfl,Nat.zero_le _,Nat.le_refl _,fun _=>⟨rfl,rfl⟩⟩,Or.inl rfl⟩
theorem oY (ok:Nat→Prop) (w:World):bU w none 0 []∧eG ok w none []:=⟨⟨Or.inl rfl,Nat.zero_le _,Nat.le_refl _,fun _=>⟨rfl,rfl⟩⟩,Or.inl rfl⟩
theorem vS {B b0:Nat} {w:World} {a:Option Addr} {cap:Nat} {zs:List Int} (h:w.ownsRow b0 3 1 (.slice a zs.length cap) zs.length (aS zs)) (hB:B≤b0):bG w a cap zs∧cN (B≤·) w a zs:=by
 have h1:=bG.of_owns h
 refine⟨h1,?_⟩
 rcases h1.1 with e | ⟨b,off,rfl,_,hc⟩
 ·exact Or.inl e
 ·exact Or.inr ⟨b,off,rfl,Nat.le_trans hB (World.ownsRow.lt h b rfl).1,hc⟩
def aL (B:Nat) (w:World) (v:Value) (fs:List aC):Prop:=∃css:List (List Value),css.length=fs.length∧w.ownsRow B 123 7 v fs.length css.flatten∧
 (∀i (h:i<fs.length),(css.getD i []).length=7∧k9 B w (.agg (css.getD i []).toArray) fs[i])
theorem aL.same {B:Nat} {w w':World} {v:Value} {fs:List aC} (h:aL B w v fs) (hb:bK (B≤·) w w'):aL B w' v fs:=by
 obtain⟨css,h1,h2,h3⟩:=h
 exact⟨css,h1,c8 h2 (fun k hk=>hb k (World.ownsRow.lt h2 k hk).2 (World.ownsRow.lt h2 k hk).1),fun i hi=>⟨(h3 i hi).1,(h3 i hi).2.same hb⟩⟩
theorem aL.later {B:Nat} {w w':World} {v:Value} {fs:List aC} (h:aL B w v fs) (hb:Below w.heap.size w w'):aL B w' v fs:=h.same (bK.of_size hb)
theorem aL.mono {B B':Nat} {w:World} {v:Value} {fs:List aC} (h:aL B w v fs) (hB:B'≤B):aL B' w v fs:=by
 obtain⟨css,h1,h2,h3⟩:=h
 exact⟨css,h1,dU h2 hB,fun i hi=>⟨(h3 i hi).1,(h3 i hi).2.mono hB⟩⟩
theorem aL.nil (B:Nat) (w:World):aL B w (.slice none 0 0) []:=⟨[],rfl,World.ownsRow_nil _ _ _ _,fun _ h=>by simp at h⟩
theorem fH {f:aC} (h:aM f=0):(0≤f.id∧f.id<32)∧(0≤f.node∧f.node<6):=by
 unfold aM at h
 split at h
 ·omega
 ·split at h
  ·omega
  ·omega
def kF (P:Program) (ty:TypeId) (n:Nat):Prop:=∃d,P.underlying ty=some d∧d.isRow=true∧(P.info? ty).map (·.size)=some n
theorem dV {P:Program} {ops:Array Oper} {Q:Exit→Act→World→Prop} {rest:List Oper} {a:Act} {w:World} {dst:Option Tmp} {type:TypeId} {pos:String} {after:Array Edge} {guard:Option (Nat × Bool)} {x:Operand} {ty:TypeId} {b o:Nat} {cs:Array Value}
  (hc:w.rangeAt b o cs.toList) (hx:a.eval x= .pointer (some ⟨b,o,none⟩)) (hr:kF P ty cs.toList.length)
  (hw:Region.wanted ⟨dst,.load ty x,type,pos,after,guard⟩ (yielded ops a.tmps)=true) (h:wpList P ops Q rest (a.put dst (.agg cs)) w):wpList P ops Q (⟨dst,.load ty x,type,pos,after,guard⟩::rest) a w:=by
 obtain⟨d,hu,hd,hi⟩:=hr
 exact lK hw fun K hK=>wp_load_mid ty x rfl b o hx cs.toList d hc hu hd hi (hK _ _ (by simpa using h))
theorem b8 {P:Program} {ops:Array Oper} {Q:Exit→Act→World→Prop} {rest:List Oper} {a:Act} {w:World} {dst:Option Tmp} {type:TypeId} {pos:String} {after:Array Edge} {guard:Option (Nat × Bool)} {x:Operand} {ty t:TypeId} {g:Nat} {cs:Array Value} {fr:Nat × Nat}
  (hg:w.heap[g]? =some (.cells cs t fr)) (hx:a.eval x= .pointer (some ⟨g,0,none⟩)) (hr:kF P ty cs.size)
  (hw:Region.wanted ⟨dst,.load ty x,type,pos,after,guard⟩ (yielded ops a.tmps)=true) (h:wpList P ops Q rest (a.put dst (.agg cs)) w):wpList P ops Q (⟨dst,.load ty x,type,pos,after,guard⟩::rest) a w:=by
 obtain⟨d,hu,hd,hi⟩:=hr
 refine lK hw fun K hK=>wp_load_row ty x rfl g hx t cs fr d hg hu ?_ hi (hK _ _ h)
 cases d<;>first | rfl | cases hd
theorem dC {P:Program} {w:World} {ops:Array Oper} {rest:List Oper} {o:Oper} {a:Act} {Q:Exit→Act→World→Prop} (hg:o.guard=none) (ty:TypeId) (ho:o.op= .alloc ty) (cs:Array Value) (hz:(P.info? ty).map (·.zero)=some (some (.agg cs)))
  (h:wpList P ops Q rest (a.put o.dst (.pointer (some ⟨w.heap.size,0,none⟩))) (w.alloc (.cells cs ty))):wpList P ops Q (o::rest) a w:=by
 refine wpList_plain hg fun K hK=>?_
 cases hq:P.info? ty with
 | none=>simp[hq] at hz
 | some i=>
  have hzz:i.zero=some (.agg cs):=by simpa [hq] using hz
  unfold Oper.wp execOp
  simp[ho,Instr.alloc,zeroValue,typeInfo,hq,hzz,newVar,newRow,Value.cells,go_sem]
  exact hK _ _ h
def zv (i:Nat):Value:=if i<192 then (if i % 6=0 then .int .i64 0 else .slice none 0 0) else if i=192 then .slice none 0 0 else .int .i64 0
theorem Tryz.zeroNode:(Tryz.prog.info? 32).map (·.zero)=some (some (.agg (aE 201 zv))):=by kernel_rfl
theorem kS (ok:Nat→Prop) (w:World):bN ok w zv dK:=by
 refine⟨⟨fun i hi=>?_,fun k hk=>?_⟩,?_⟩
 ·have h1:∀j,0<j→j<6→zv (i*6+j)= .slice none 0 0:=by
   intro j h0 hj
   unfold zv
   rw[if_pos (by omega),if_neg (by omega)]
  refine⟨?_,?_,?_,?_,?_,?_⟩
  ·unfold zv
   rw[if_pos (by omega),if_pos (by omega)]
   rfl
  ·rw[h1 1 (by omega) (by omega)];exact IsO.nil _ _
  ·rw[h1 2 (by omega) (by omega)];exact IsI.nil _ _
  ·rw[h1 3 (by omega) (by omega)];exact IsI.nil _ _
  ·rw[h1 4 (by omega) (by omega)];exact IsI.nil _ _
  ·rw[h1 5 (by omega) (by omega)];exact IsI.nil _ _
 ·unfold zv
  rw[if_neg (by omega),if_neg (by omega)]
  rfl
 ·exact IsI.nil _ _
def pB (r:Nat) (v:Value):Prop:=(∀b,v.ownBlock=some b→r<b)∧∀a cap,v= .slice a 0 cap→cap=0
theorem mW.fresh {r:Nat} {w w':World} {v:Value} {zs:List Int} (h:mW w w' v zs) (hr:r<w.heap.size):pB r v:=by
 refine⟨fun b hb=>?_,fun a cap e=>?_⟩
 ·have:=(World.ownsRow.lt h.1 b hb).1;omega
 ·obtain⟨a',cap',e',_⟩:=bA h.1
  rw[e] at e'
  simp at e'
  obtain⟨a2,e2⟩:=h.2.1 e'.2.1.symm
  rw[e] at e2
  simp at e2
  exact e2.2
theorem oP.fresh {r:Nat} {w w':World} {v:Value} {zs:List OpL} (h:oP w w' v zs) (hr:r<w.heap.size):pB r v:=by
 refine⟨fun b hb=>?_,fun a cap e=>?_⟩
 ·have:=(World.ownsRow.lt h.1 b hb).1;omega
 ·obtain⟨a',cap',e',_⟩:=bA h.1
  rw[e] at e'
  simp at e'
  obtain⟨a2,e2⟩:=h.2.1 e'.2.1.symm
  rw[e] at e2
  simp at e2
  exact e2.2
theorem mW.is {w w':World} {v:Value} {zs:List Int} (h:mW w w' v zs) (hl:zs.length*8≤140737488355328) (ok:Nat→Prop) (hk:∀b,w.heap.size≤b→ok b):IsI ok w' v zs:=
 (IsI.of_owns h.1 hl).mono (fun b _ hb=>hk b hb.1)
theorem oP.is {w w':World} {v:Value} {zs:List OpL} (h:oP w w' v zs) (hl:zs.length*24≤140737488355328) (ok:Nat→Prop) (hk:∀b,w.heap.size≤b→ok b):IsO ok w' v zs:=
 (IsO.of_owns h.1 hl).mono (fun b _ hb=>hk b hb.1)
structure dR (w0:World) (s:aB) (zr:Array Value) (nv:Nat→Value) (m:Nat) (w:World):Prop where
 blk:bH 201 w w0.heap.size nv
 node:bN (fun b=>b≠w0.heap.size∧b≠w0.heap.size+1) w nv s
 fresh:∀i,i<m→i<192→i % 6≠0→pB (w0.heap.size+1) (nv i)
 below:Below w0.heap.size w0 w
 res:w.heap[w0.heap.size+1]? =some (.cells zr 32 (0,0))
theorem dR.lt {w0:World} {s:aB} {zr:Array Value} {nv:Nat→Value} {m:Nat} {w:World} (h:dR w0 s zr nv m w):w0.heap.size+1<w.heap.size:=(Array.getElem?_eq_some_iff.1 h.res).1
theorem dR.step {w0:World} {s:aB} {zr:Array Value} {nv:Nat→Value} {k f:Nat} {w w1:World} {v:Value} (h:dR w0 s zr nv (k*6+f) w) (hk:k<32) (hf:f<6) (hb:Below w.heap.size w w1)
  (hv:cU (fun b=>b≠w0.heap.size∧b≠w0.heap.size+1) w1 (s.ent k) f v) (hn:pB (w0.heap.size+1) v):
  dR w0 s zr (fun i=>if i=k*6+f then v else nv i) (k*6+(f+1)) (w1.setCell ⟨w0.heap.size,k*6+f,none⟩ v):=by
 have hl:=h.lt
 have hsame:bK (fun b=>b≠w0.heap.size∧b≠w0.heap.size+1) w1 (w1.setCell ⟨w0.heap.size,k*6+f,none⟩ v):=fun b _ hb=>Below.heap_setCell _ _ _ _ hb.1
 refine⟨(h.blk.later hb (by omega)).put _ _,?_,fun i hi hi2 h6=>?_,?_,?_⟩
 ·exact ((h.node.later (bK.of_size hb)).put hk hf hv).later hsame
 ·show pB _ (if i=k*6+f then v else nv i)
  by_cases e:i=k*6+f
  ·rw[if_pos e];exact hn
  ·rw[if_neg e];exact h.fresh i (by omega) hi2 h6
 ·exact (h.below.trans (hb.mono (by omega))).setCell (Nat.le_refl _) _
 ·rw[Below.heap_setCell _ _ _ _ (by simp),hb.block _ hl]
  exact h.res
theorem dR.stepI {w0:World} {s:aB} {zr:Array Value} {nv:Nat→Value} {k f:Nat} {w w1:World} {v:Value} (h:dR w0 s zr nv (k*6+f) w) (hk:k<32) (h2:2≤f) (hf:f<6) (hc:mW w w1 v ((s.ent k).nums f)) (hl:((s.ent k).nums f).length*8≤140737488355328):
  dR w0 s zr (fun i=>if i=k*6+f then v else nv i) (k*6+(f+1)) (w1.setCell ⟨w0.heap.size,k*6+f,none⟩ v):=by
 have:=h.lt
 refine h.step hk hf hc.2.2 ?_ (hc.fresh this)
 unfold cU
 rw[if_neg (by omega),if_neg (by omega)]
 exact hc.is hl _ (fun b hb=>by constructor<;>omega)
theorem dR.stepO {w0:World} {s:aB} {zr:Array Value} {nv:Nat→Value} {k:Nat} {w w1:World} {v:Value} (h:dR w0 s zr nv (k*6+1) w) (hk:k<32) (hc:oP w w1 v (s.ent k).ops) (hl:(s.ent k).ops.length*24≤140737488355328):
  dR w0 s zr (fun i=>if i=k*6+1 then v else nv i) (k*6+2) (w1.setCell ⟨w0.heap.size,k*6+1,none⟩ v):=by
 have:=h.lt
 refine h.step hk (by omega) hc.2.2 ?_ (hc.fresh this)
 exact hc.is hl _ (fun b hb=>by constructor<;>omega)
theorem dR.getI {w0:World} {s:aB} {zr:Array Value} {nv:Nat→Value} {m:Nat} {w:World} (h:dR w0 s zr nv m w) {k:Nat} (hk:k<32) (f:Nat) (h2:2≤f) (hf:f<6):
  ∃a cap,w.cell? ⟨w0.heap.size,k*6+f,none⟩=some (.slice a ((s.ent k).nums f).length cap)∧bG w a cap ((s.ent k).nums f)∧((s.ent k).nums f).length*8≤140737488355328:=by
 have hv:=(h.node.es.ent k hk).get f hf
 unfold cU at hv
 rw[if_neg (by omega),if_neg (by omega)] at hv
 obtain⟨a,cap,e,hs⟩:=hv.sl
 refine⟨a,cap,by rw[h.blk.cell (by omega),e],hs,?_⟩
 obtain⟨_,_,_,_,hl,_⟩:=hv
 exact hl
theorem dR.getO {w0:World} {s:aB} {zr:Array Value} {nv:Nat→Value} {m:Nat} {w:World} (h:dR w0 s zr nv m w) {k:Nat} (hk:k<32):
  ∃a cap,w.cell? ⟨w0.heap.size,k*6+1,none⟩=some (.slice a (s.ent k).ops.length cap)∧bU w a cap (s.ent k).ops∧(s.ent k).ops.length*24≤140737488355328:=by
 have hv:=(h.node.es.ent k hk).ops
 obtain⟨a,cap,e,hs⟩:=hv.sl
 refine⟨a,cap,by rw[h.blk.cell (by omega),e],hs,?_⟩
 obtain⟨_,_,_,_,hl,_⟩:=hv
 exact hl
theorem dR.next {w0:World} {s:aB} {zr:Array Value} {nv:Nat→Value} {k:Nat} {w:World} (h:dR w0 s zr nv (k*6+6) w):dR w0 s zr nv ((k+1)*6+1) w:=
 ⟨h.blk,h.node,fun i hi hi2 h6=>h.fresh i (by omega) hi2 h6,h.below,h.res⟩
structure oQ (w0:World) (s:aB) (zr:Array Value) (nv:Nat→Value) (w:World):Prop where
 blk:bH 201 w w0.heap.size nv
 node:iS (fun b=>w0.heap.size+1<b∧(nv 192).ownBlock≠some b) w nv s
 order:w.ownsRow (w0.heap.size+2) 3 1 (nv 192) s.order.length (aS s.order)
 hot:∀i,i<192→i % 6≠0→∀a cap,nv i= .slice a 0 cap→cap=0
 len:s.order.length*8≤140737488355328
 below:Below w0.heap.size w0 w
 res:w.heap[w0.heap.size+1]? =some (.cells zr 32 (0,0))
theorem IsI.fresh {ok:Nat→Prop} {r B:Nat} {w:World} {v:Value} {zs:List Int} (h:IsI ok w v zs) (hv:pB r v) (hB:w.heap.size≤B):IsI (fun b=>r<b∧b<B) w v zs:=by
 obtain⟨a,cap,rfl,h2,h3⟩:=h
 refine⟨a,cap,rfl,?_,h3⟩
 rcases h2 with h2 | ⟨b,off,rfl,hb,hc⟩
 ·exact Or.inl h2
 ·cases zs with
  | nil=>exact Or.inl rfl
  | cons z l=>exact Or.inr ⟨b,off,rfl,⟨hv.1 b rfl,Nat.lt_of_lt_of_le (World.block_lt_of_cell? w _ (hc 0 (by simp))) hB⟩,hc⟩
theorem IsO.fresh {ok:Nat→Prop} {r B:Nat} {w:World} {v:Value} {zs:List OpL} (h:IsO ok w v zs) (hv:pB r v) (hB:w.heap.size≤B):IsO (fun b=>r<b∧b<B) w v zs:=by
 obtain⟨a,cap,rfl,h2,h3⟩:=h
 refine⟨a,cap,rfl,?_,h3⟩
 rcases h2 with h2 | ⟨b,off,rfl,hb,hc⟩
 ·exact Or.inl h2
 ·cases zs with
  | nil=>exact Or.inl rfl
  | cons z l=>exact Or.inr ⟨b,off,rfl,⟨hv.1 b rfl,Nat.lt_of_lt_of_le (World.block_lt_of_cell? w _ (hc 0 (by simp)).1) hB⟩,hc⟩
theorem dR.fin {w0:World} {s:aB} {zr:Array Value} {nv:Nat→Value} {w w1:World} {v:Value} (h:dR w0 s zr nv (32*6+1) w) (hc:mW w w1 v s.order) (hl:s.order.length*8≤140737488355328):
  oQ w0 s zr (fun i=>if i=192 then v else nv i) (w1.setCell ⟨w0.heap.size,192,none⟩ v):=by
 have hlt:=h.lt
 have hb:=hc.2.2
 have hnew:∀b,v.ownBlock=some b→w.heap.size≤b:=fun b e=>(World.ownsRow.lt hc.1 b e).1
 have hE:iS (fun b=>w0.heap.size+1<b∧b<w.heap.size) w nv s:=by
  refine⟨fun i hi=>iI.of fun f hf=>?_,h.node.es.vals⟩
  have h1:=(h.node.es.ent i hi).get f hf
  by_cases f0:f=0
  ·subst f0;exact h1
  ·have h2:=h.fresh (i*6+f) (by omega) (by omega) (by omega)
   unfold cU at h1 ⊢
   rw[if_neg f0] at h1 ⊢
   by_cases f1:f=1
   ·rw[if_pos f1] at h1 ⊢;exact h1.fresh h2 (Nat.le_refl _)
   ·rw[if_neg f1] at h1 ⊢;exact h1.fresh h2 (Nat.le_refl _)
 have hE1:=hE.later (bK.of_size hb)
 have hE2:iS (fun b=>w0.heap.size+1<b∧b<w.heap.size) (w1.setCell ⟨w0.heap.size,192,none⟩ v) nv s:=hE1.later (fun b _ hb=>Below.heap_setCell _ _ _ _ (by show b≠w0.heap.size;omega))
 refine⟨(h.blk.later hb (by omega)).put _ _,⟨fun i hi=>?_,fun k hk=>?_⟩,?_,?_,hl,?_,?_⟩
 ·refine ((hE2.ent i hi).mono fun b _ hb=>⟨hb.1,fun e=>by have:=hnew b e;omega⟩).same fun j hj=>?_
  ·show (if i*6+j=192 then v else nv (i*6+j))=_
   rw[if_neg (by omega)]
 ·show (if 193+k=192 then v else nv (193+k))=_
  rw[if_neg (by omega)]
  exact hE2.vals k hk
 ·show World.ownsRow _ _ _ _ v _ _
  have:=dU hc.1 (show w0.heap.size+2≤w.heap.size by omega)
  exact cV this (by omega)
 ·intro i hi h6 a cap e
  have e':nv i= .slice a 0 cap:=by
   have:(if i=192 then v else nv i)=nv i:=if_neg (by omega)
   rw[←this];exact e
  exact (h.fresh i (by omega) hi h6).2 a cap e'
 ·exact (h.below.trans (hb.mono (by omega))).setCell (Nat.le_refl _) _
 ·rw[Below.heap_setCell _ _ _ _ (by simp),hb.block _ hlt]
  exact h.res
theorem oQ.one {w0:World} {s:aB} {zr:Array Value} {nv:Nat→Value} {w:World} (h:oQ w0 s zr nv w):∀i,i<201→(nv i).oneCell'=true:=
 (show bN _ w nv s from ⟨h.node.mono (ok':=fun _=>True) (fun _ _ _=>trivial),(IsI.of_owns h.order h.len).mono (fun _ _ _=>trivial)⟩).one
structure lI (B:Nat) (w:World) (nv:Nat→Value) (s:aB):Prop where
 node:iS (fun b=>B≤b∧(nv 192).ownBlock≠some b) w nv s
 order:w.ownsRow B 3 1 (nv 192) s.order.length (aS s.order)
 hot:∀i,i<192→i % 6≠0→∀a cap,nv i= .slice a 0 cap→cap=0
 len:s.order.length*8≤140737488355328
theorem oQ.done {w0:World} {s:aB} {zr:Array Value} {nv:Nat→Value} {w:World} (h:oQ w0 s zr nv w) (fr:Array Value):lI w0.heap.size (w.setRow (w0.heap.size+1) fr) nv s∧Below w0.heap.size w0 (w.setRow (w0.heap.size+1) fr):=by
 refine⟨⟨?_,?_,h.hot,h.len⟩,aX h.below (by omega) _⟩
 ·exact (h.node.later (fun b _ hb=>bM _ _ (by omega))).mono (fun b _ hb=>⟨by omega,hb.2⟩)
 ·exact dU (c8 h.order (fun k hk=>bM _ _ (by have:=(World.ownsRow.lt h.order k hk).1;omega))) (by omega)
theorem qY (nv:Nat→Value) (s:aB) (w:World) (h:bN (· <w.heap.size) w nv s):
  Calls Tryz.prog 44 #[.agg (aE 201 nv)] w fun e w'=>∃nv',e= .returned (.agg (aE 201 nv'))∧lI w.heap.size w' nv' s∧Below w.heap.size w w':=by
 obtain⟨gr,hgr⟩:∃gr,gr=aE 201 nv:=⟨_,rfl⟩
 obtain⟨zr,hzr⟩:∃zr,zr=aE 201 zv:=⟨_,rfl⟩
 have hz0:=Tryz.zeroNode
 rw[←hgr]
 rw[←hzr] at hz0
 have H0:Hid (dR w s zr nv 1 ((w.alloc (.cells gr 32)).alloc (.cells zr 32))):=by
  have hb:Below w.heap.size w ((w.alloc (.cells gr 32)).alloc (.cells zr 32)):=((Below.refl _ _).alloc (Nat.le_refl _) _).alloc (by rw[aA];omega) _
  obtain⟨r1,r2⟩:=cD w (.cells gr 32) (.cells zr 32)
  refine⟨⟨32,by rw[←hgr];exact r1⟩,(h.later (bK.of_size hb)).mono (fun b _ (hb:b<w.heap.size)=>by constructor<;>omega),fun i hi _ h6=>?_,hb,r2⟩
  obtain rfl:i=0:=by omega
  exact absurd rfl h6
 have HG:=hI9 hgr
 have HZ:=hI9 hzr
 clear hgr hzr h
 go_enter Tryz.func44,Tryz.ntmps44
 go_wp2_with (first
  | (refine dC rfl 32 rfl zr hz0 ?_)
  | fail)
 go_loopw [5] (fun i wr=>∃(k:Nat) (mv:Nat→Value),k≤32∧i= .int .i64 k∧Hid (dR w s zr mv (k*6+1) wr)) (fun i _=>32-(intOf i).toNat)
 case atStart=>exact⟨0,nv,Nat.zero_le _,rfl,H0⟩
 case round=>
  obtain⟨k,mv,hk,rfl,H⟩:=hrel
  clear H0 hz0
  by_cases hlt:k<32
  ·have n1:(0:Int)≤(k:Int)∧(k:Int)<32:=by omega
   obtain⟨a1,c1,q1,hs1,hl1⟩:=(H.out).getO hlt
   have z1:=H.out.blk.frozen (k*6+1)
   go_wp2_with fail
   refine (gP a1 c1 (s.ent k).ops _ hs1 hl1).mono ?_
   rintro e w1 ⟨v1,rfl,hc1⟩
   obtain⟨b1,d1,rfl,_⟩:=bA hc1.1
   have H1:Hid (dR w s zr _ (k*6+2) (w1.setCell ⟨w.heap.size,k*6+1,none⟩ (.slice b1 (s.ent k).ops.length d1))):=H.out.stepO hlt hc1 hl1
   have y1:w1.cell? ⟨w.heap.size,k*6+1,none⟩=some (.slice a1 (s.ent k).ops.length c1):=by rw[hc1.2.2.cell (p:=⟨w.heap.size,k*6+1,none⟩) (by have:=H.out.lt;show w.heap.size<_;omega)];exact q1
   have x1:w1.frozen? ⟨w.heap.size,k*6+1,none⟩=false:=by rw[hc1.2.2.frozen (p:=⟨w.heap.size,k*6+1,none⟩) (by have:=H.out.lt;show w.heap.size<_;omega)];exact z1
   clear H q1 z1 hc1 hs1 hl1
   go_upto_region 6 with fail
   generalize w1.setCell ⟨w.heap.size,k*6+1,none⟩ (.slice b1 (s.ent k).ops.length d1)=W1 at *
   have H:=H1
   clear H1 y1 x1
   obtain⟨a2,c2,q2,hs2,hl2⟩:=(H.out).getI hlt 2 (by omega) (by omega)
   have z2:=H.out.blk.frozen (k*6+2)
   go_wp2_with fail
   refine (cW a2 c2 ((s.ent k).nums 2) _ hs2 hl2).mono ?_
   rintro e w2 ⟨v2,rfl,hc2⟩
   obtain⟨b2,d2,rfl,_⟩:=bA hc2.1
   have H2:Hid (dR w s zr _ (k*6+(2+1)) (w2.setCell ⟨w.heap.size,k*6+2,none⟩ (.slice b2 ((s.ent k).nums 2).length d2))):=H.out.stepI hlt (by omega) (by omega) hc2 hl2
   have y2:w2.cell? ⟨w.heap.size,k*6+2,none⟩=some (.slice a2 ((s.ent k).nums 2).length c2):=by rw[hc2.2.2.cell (p:=⟨w.heap.size,k*6+2,none⟩) (by have:=H.out.lt;show w.heap.size<_;omega)];exact q2
   have x2:w2.frozen? ⟨w.heap.size,k*6+2,none⟩=false:=by rw[hc2.2.2.frozen (p:=⟨w.heap.size,k*6+2,none⟩) (by have:=H.out.lt;show w.heap.size<_;omega)];exact z2
   clear H q2 z2 hc2 hs2 hl2
   go_upto_region 7 with fail
   generalize w2.setCell ⟨w.heap.size,k*6+2,none⟩ (.slice b2 ((s.ent k).nums 2).length d2)=W2 at *
   have H:=H2
   clear H2 y2 x2
   obtain⟨a3,c3,q3,hs3,hl3⟩:=(H.out).getI hlt 3 (by omega) (by omega)
   have z3:=H.out.blk.frozen (k*6+3)
   go_wp2_with fail
   refine (cW a3 c3 ((s.ent k).nums 3) _ hs3 hl3).mono ?_
   rintro e w3 ⟨v3,rfl,hc3⟩
   obtain⟨b3,d3,rfl,_⟩:=bA hc3.1
   have H3:Hid (dR w s zr _ (k*6+(3+1)) (w3.setCell ⟨w.heap.size,k*6+3,none⟩ (.slice b3 ((s.ent k).nums 3).length d3))):=H.out.stepI hlt (by omega) (by omega) hc3 hl3
   have y3:w3.cell? ⟨w.heap.size,k*6+3,none⟩=some (.slice a3 ((s.ent k).nums 3).length c3):=by rw[hc3.2.2.cell (p:=⟨w.heap.size,k*6+3,none⟩) (by have:=H.out.lt;show w.heap.size<_;omega)];exact q3
   have x3:w3.frozen? ⟨w.heap.size,k*6+3,none⟩=false:=by rw[hc3.2.2.frozen (p:=⟨w.heap.size,k*6+3,none⟩) (by have:=H.out.lt;show w.heap.size<_;omega)];exact z3
   clear H q3 z3 hc3 hs3 hl3
   go_upto_region 8 with fail
   generalize w3.setCell ⟨w.heap.size,k*6+3,none⟩ (.slice b3 ((s.ent k).nums 3).length d3)=W3 at *
   have H:=H3
   clear H3 y3 x3
   obtain⟨a4,c4,q4,hs4,hl4⟩:=(H.out).getI hlt 4 (by omega) (by omega)
   have z4:=H.out.blk.frozen (k*6+4)
   go_wp2_with fail
   refine (cW a4 c4 ((s.ent k).nums 4) _ hs4 hl4).mono ?_
   rintro e w4 ⟨v4,rfl,hc4⟩
   obtain⟨b4,d4,rfl,_⟩:=bA hc4.1
   have H4:Hid (dR w s zr _ (k*6+(4+1)) (w4.setCell ⟨w.heap.size,k*6+4,none⟩ (.slice b4 ((s.ent k).nums 4).length d4))):=H.out.stepI hlt (by omega) (by omega) hc4 hl4
   have y4:w4.cell? ⟨w.heap.size,k*6+4,none⟩=some (.slice a4 ((s.ent k).nums 4).length c4):=by rw[hc4.2.2.cell (p:=⟨w.heap.size,k*6+4,none⟩) (by have:=H.out.lt;show w.heap.size<_;omega)];exact q4
   have x4:w4.frozen? ⟨w.heap.size,k*6+4,none⟩=false:=by rw[hc4.2.2.frozen (p:=⟨w.heap.size,k*6+4,none⟩) (by have:=H.out.lt;show w.heap.size<_;omega)];exact z4
   clear H q4 z4 hc4 hs4 hl4
   go_upto_region 9 with fail
   generalize w4.setCell ⟨w.heap.size,k*6+4,none⟩ (.slice b4 ((s.ent k).nums 4).length d4)=W4 at *
   have H:=H4
   clear H4 y4 x4
   obtain⟨a5,c5,q5,hs5,hl5⟩:=(H.out).getI hlt 5 (by omega) (by omega)
   have z5:=H.out.blk.frozen (k*6+5)
   go_wp2_with fail
   refine (cW a5 c5 ((s.ent k).nums 5) _ hs5 hl5).mono ?_
   rintro e w5 ⟨v5,rfl,hc5⟩
   obtain⟨b5,d5,rfl,_⟩:=bA hc5.1
   have H5:Hid (dR w s zr _ (k*6+(5+1)) (w5.setCell ⟨w.heap.size,k*6+5,none⟩ (.slice b5 ((s.ent k).nums 5).length d5))):=H.out.stepI hlt (by omega) (by omega) hc5 hl5
   have y5:w5.cell? ⟨w.heap.size,k*6+5,none⟩=some (.slice a5 ((s.ent k).nums 5).length c5):=by rw[hc5.2.2.cell (p:=⟨w.heap.size,k*6+5,none⟩) (by have:=H.out.lt;show w.heap.size<_;omega)];exact q5
   have x5:w5.frozen? ⟨w.heap.size,k*6+5,none⟩=false:=by rw[hc5.2.2.frozen (p:=⟨w.heap.size,k*6+5,none⟩) (by have:=H.out.lt;show w.heap.size<_;omega)];exact z5
   clear H q5 z5 hc5 hs5 hl5
   go_wp2
   go_roundw
   case rel=>exact⟨k+1,_,by omega,by go_num,H5.out.next⟩
   case measure=>simp[intOf];omega
  ·obtain rfl:k=32:=by omega
   obtain⟨ao,co,eo,hso⟩:=H.out.node.order.sl
   have hlo:s.order.length*8≤140737488355328:=by
    obtain⟨_,_,_,_,hl,_⟩:=H.out.node.order
    exact hl
   have qo:wr.cell? ⟨w.heap.size,192,none⟩=some (.slice ao s.order.length co):=by rw[H.out.blk.cell (by omega),eo]
   have zo:=H.out.blk.frozen 192
   clear eo
   go_wp2_with fail
   refine (cW ao co s.order _ hso hlo).mono ?_
   rintro e w1 ⟨v1,rfl,hc1⟩
   obtain⟨b1,d1,rfl,_⟩:=bA hc1.1
   have y1:w1.cell? ⟨w.heap.size,192,none⟩=some (.slice ao s.order.length co):=by rw[hc1.2.2.cell (p:=⟨w.heap.size,192,none⟩) (by have:=H.out.lt;show w.heap.size<_;omega)];exact qo
   have x1:w1.frozen? ⟨w.heap.size,192,none⟩=false:=by rw[hc1.2.2.frozen (p:=⟨w.heap.size,192,none⟩) (by have:=H.out.lt;show w.heap.size<_;omega)];exact zo
   obtain⟨fv,hfv⟩:∃fv,fv=fun i=>if i=192 then Value.slice b1 s.order.length d1 else mv i:=⟨_,rfl⟩
   have HF:Hid (oQ w s zr fv (w1.setCell ⟨w.heap.size,192,none⟩ (.slice b1 s.order.length d1))):=by rw[hfv];exact H.out.fin hc1 hlo
   clear H qo zo hso hfv hc1
   go_upto_region 12 with fail
   generalize w1.setCell ⟨w.heap.size,192,none⟩ (.slice b1 s.order.length d1)=W1 at *
   obtain⟨t,hblk⟩:=HF.out.blk
   have hres:=HF.out.res
   obtain⟨fr,hfr⟩:∃fr,fr=aE 201 fv:=⟨_,rfl⟩
   have hsize:(Tryz.prog.info? 32).map (·.size)=some fr.size:=by rw[hfr,aG];exact Tryz.infoNode
   have hzs:zr.size=fr.size:=by rw[hfr,HZ.out,aG,aG]
   have hone:fr.all (·.oneCell')=true:=by rw[hfr];exact cR HF.out.one
   rw[←hfr] at hblk
   have HFR:Hid (fr=aE 201 fv):=hfr
   have HW:Hid (lI w.heap.size (W1.setRow (w.heap.size+1) fr) fv s∧Below w.heap.size w (W1.setRow (w.heap.size+1) fr)):=HF.out.done fr
   clear hfr HF y1 x1
   go_wp2_with (first
    | (refine wpList_load_row rfl 32 _ rfl w.heap.size rfl t fr (0,0) _ hblk Tryz.underlying32 rfl hsize ?_)
    | (refine wpList_store_row rfl 32 _ _ rfl (w.heap.size+1) fr rfl rfl 32 _ hres hsize hzs hone ?_))
   refine bodyPost_ret (v:= .agg fr) (results_cell_row Tryz.results44 _ _ (w.heap.size+1) 32 _ (0,0) _ rfl (aI hres) Tryz.underlying32 rfl hsize) rfl ⟨fv,by rw[HFR.out],HW.out⟩
end Go.Proofs.YtkoefoccbjhoiacGreat
