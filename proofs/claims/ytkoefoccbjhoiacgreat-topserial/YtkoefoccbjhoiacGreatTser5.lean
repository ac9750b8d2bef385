/-
squeezed by tools/squeeze.py from: CluT CluU CluV CluW CluX CluY CluZ CluG CluE CluH CluI
-/
import Derived.Test.YtkoefoccbjhoiacGreatTser4
set_option linter.unusedVariables false
set_option linter.unusedSimpArgs false
set_option maxRecDepth 100000
set_option maxHeartbeats 16000000
namespace Go.Proofs.YtkoefoccbjhoiacGreat
open Go.RowKit
theorem oW {c:aE} {id:Int} {g:aC} (h:g∈cR c id):c.begun=true∧(0≤id∧id<32)∧(0≤g.node∧g.node<6)∧g.id=id∧g.ops=c.ops∧((c.fixed=true∧g.kind=3∧g.deps=c.deps)∨(c.fixed=false∧g.kind=1)):=by
 unfold cR at h
 split at h
 ·simp at h
 ·rename_i hn
  obtain⟨n,hn6,hg⟩:=List.mem_flatMap.1 h
  have hn6:=List.mem_range.1 hn6
  have hb:c.begun=true:=by
   cases e:c.begun
   ·exact absurd (Or.inr (Or.inl e)) hn
   ·rfl
  have hi0:0≤id:=by
   by_cases e:id<0
   ·exact absurd (Or.inr (Or.inr (Or.inl e))) hn
   ·omega
  have hi1:id<32:=by
   by_cases e:32≤id
   ·exact absurd (Or.inr (Or.inr (Or.inr (Or.inl e)))) hn
   ·omega
  unfold aE.send at hg
  cases hf:c.fixed
  ·rw[hf] at hg
   simp only[Bool.false_eq_true,if_false] at hg
   split at hg
   ·simp at hg
    subst hg
    exact⟨hb,⟨hi0,hi1⟩,⟨by show (0:Int)≤(n:Int);omega,by show (n:Int)<6;omega⟩,rfl,rfl,Or.inr ⟨rfl,rfl⟩⟩
   ·simp at hg
  ·rw[hf] at hg
   simp only[if_true] at hg
   split at hg
   ·simp at hg
    subst hg
    exact⟨hb,⟨hi0,hi1⟩,⟨by show (0:Int)≤(n:Int);omega,by show (n:Int)<6;omega⟩,rfl,rfl,Or.inl ⟨rfl,rfl,rfl⟩⟩
   ·simp at hg
theorem lX {c:aE} {id:Int} {f g:aC} (hg:g∈(aP c id f).2.1):g∈cR (aP c id f).1 id∧(aP c id f).1.fixed=true:=by
 unfold aP at *
 split at hg
 ·simp at hg
 ·rename_i h1
  rw[if_neg h1]
  split at hg
  ·simp at hg
  ·rename_i h2
   rw[if_neg h2]
   split at hg
   ·simp at hg
   ·rename_i h3
    rw[if_neg h3]
    split at hg
    ·rename_i h4
     rw[if_pos h4]
     split at hg
     ·simp at hg
     ·rename_i h5
      rw[if_neg h5]
      have hg:g∈if (c.hear f).fixed=true then cR (c.hear f) id else []:=hg
      split at hg
      ·rename_i h6;exact⟨hg,h6⟩
      ·simp at hg
    ·split at hg
     ·simp at hg
     ·split at hg<;>simp at hg
theorem pR {c:aE} {id:Int} {f:aC} (h:(aP c id f).2.2=0):c.begun=true∧f.id=id:=by
 unfold aP at h
 split at h
 ·exact absurd h (show (2:Int)≠0 by decide)
 ·rename_i h1
  constructor
  ·cases e:c.begun
   ·exact absurd (Or.inr (Or.inl e)) h1
   ·rfl
  ·by_cases e:f.id=id
   ·exact e
   ·exact absurd (Or.inr (Or.inr (Or.inl e))) h1
theorem fH.setC {S:Sys} (h:fH S) {i:Nat} (_hi:i<32) (c:aE) (N:aC→Prop)
  (hb:(S.C i).begun=true→c.begun=true∧c.ops=(S.C i).ops) (hf:(S.C i).fixed=true→c.fixed=true∧c.deps=(S.C i).deps)
  (ht:∀n,n<6→c.told n=true→1≤((S.B n).ent i).state∧∀d∈((S.B n).ent i).first,d∈c.deps) (hm:c.fixed=true→c.begun=true∧dZ c.ops c.told=true)
  (hN:∀g,N g→tH g∧g.id.toNat=i∧c.begun=true∧g.ops=c.ops∧((c.fixed=true∧g.kind=3∧g.deps=c.deps)∨g.kind=1)):
  fH ⟨S.B,upd S.C i c,fun g=>S.M g∨N g⟩:=by
 have at_:∀m,upd S.C i c m=if m=i then c else S.C m:=fun m=>rfl
 refine⟨h.good,fun g hg=>?_,fun g hg hk=>?_,fun g hg hk=>?_,fun g hg hk=>?_,fun g hg hk=>?_,fun n hn j hj h1=>?_,fun n hn j hj h2=>?_,fun j hj n hn htl=>?_,fun n hn x y hx hy hxy h1 h2 hc=>?_,fun j hj hfx=>?_⟩
 ·rcases hg with hg | hg
  ·exact h.rng g hg
  ·exact (hN g hg).1
 ·show (upd S.C i c g.id.toNat).begun=true∧g.ops=(upd S.C i c g.id.toNat).ops
  rw[at_]
  rcases hg with hg | hg
  ·obtain⟨a1,a2⟩:=h.ask g hg hk
   split
   ·rename_i e
    rw[e] at a1 a2
    obtain⟨b1,b2⟩:=hb a1
    exact⟨b1,by rw[b2];exact a2⟩
   ·exact⟨a1,a2⟩
  ·obtain⟨_,e,b1,b2,_⟩:=hN g hg
   rw[if_pos e]
   exact⟨b1,b2⟩
 ·show ((upd S.C i c g.id.toNat).begun=true∧(upd S.C i c g.id.toNat).fixed=true)∧g.ops=(upd S.C i c g.id.toNat).ops∧g.deps=(upd S.C i c g.id.toNat).deps
  rw[at_]
  rcases hg with hg | hg
  ·obtain⟨⟨a1,a2⟩,a3,a4⟩:=h.com g hg hk
   split
   ·rename_i e
    rw[e] at a1 a2 a3 a4
    obtain⟨b1,b2⟩:=hb a1
    obtain⟨b3,b4⟩:=hf a2
    exact⟨⟨b1,b3⟩,by rw[b2];exact a3,by rw[b4];exact a4⟩
   ·exact⟨⟨a1,a2⟩,a3,a4⟩
  ·obtain⟨_,e,b1,b2,b3⟩:=hN g hg
   rw[if_pos e]
   rcases b3 with ⟨b3,_,b4⟩ | b3
   ·exact⟨⟨b1,b3⟩,b2,b4⟩
   ·omega
 ·rcases hg with hg | hg
  ·exact h.tel g hg hk
  ·obtain⟨_,_,_,_,b⟩:=hN g hg
   rcases b with ⟨_,b,_⟩ | b<;>omega
 ·rcases hg with hg | hg
  ·exact h.don g hg hk
  ·obtain⟨_,_,_,_,b⟩:=hN g hg
   rcases b with ⟨_,b,_⟩ | b<;>omega
 ·obtain⟨a1,a2⟩:=h.ent1 n hn j hj h1
  show (upd S.C i c j).begun=true∧((S.B n).ent j).ops=(upd S.C i c j).ops
  rw[at_]
  split
  ·rename_i e
   rw[e] at a1 a2 ⊢
   obtain⟨b1,b2⟩:=hb a1
   exact⟨b1,by rw[b2];exact a2⟩
  ·exact⟨a1,a2⟩
 ·obtain⟨a1,a2⟩:=h.ent2 n hn j hj h2
  show (upd S.C i c j).fixed=true∧((S.B n).ent j).deps=(upd S.C i c j).deps
  rw[at_]
  split
  ·rename_i e
   rw[e] at a1 a2 ⊢
   obtain⟨b1,b2⟩:=hf a1
   exact⟨b1,by rw[b2];exact a2⟩
  ·exact⟨a1,a2⟩
 ·have htl:(upd S.C i c j).told n=true:=htl
  show 1≤((S.B n).ent j).state∧∀d∈((S.B n).ent j).first,d∈(upd S.C i c j).deps
  rw[at_] at htl ⊢
  split
  ·rename_i e
   rw[if_pos e] at htl
   rw[e]
   exact ht n hn htl
  ·rename_i e
   rw[if_neg e] at htl
   exact h.told j hj n hn htl
 ·have hops:∀z,z<32→1≤((S.B n).ent z).state→(upd S.C i c z).ops=(S.C z).ops:=fun z hz hz1=>by
   rw[at_]
   split
   ·rename_i e
    rw[e]
    exact (hb (by rw[←e];exact (h.ent1 n hn z hz hz1).1)).2
   ·rfl
  have hc:dJ (upd S.C i c x).ops (upd S.C i c y).ops (ofL n)=true:=hc
  rw[hops x hx h1,hops y hy h2] at hc
  exact h.conf n hn x y hx hy hxy h1 h2 hc
 ·have hfx:(upd S.C i c j).fixed=true:=hfx
  show (upd S.C i c j).begun=true∧dZ (upd S.C i c j).ops (upd S.C i c j).told=true
  rw[at_] at hfx ⊢
  split
  ·rename_i e
   rw[if_pos e] at hfx
   exact hm hfx
  ·rename_i e
   rw[if_neg e] at hfx
   exact h.most j hj hfx
theorem fH.case {S:Sys} (h:fH S) {f:aC} (hM:S.M f) (h0:(aP (S.C f.id.toNat) f.id f).2.2=0):
  fH ⟨S.B,upd S.C f.id.toNat (aP (S.C f.id.toNat) f.id f).1,fun g=>S.M g∨g∈(aP (S.C f.id.toNat) f.id f).2.1⟩:=by
 obtain⟨hr1,hr2⟩:=h.rng f hM
 have hi32:f.id.toNat<32:=by omega
 have hn6:f.node.toNat<6:=by omega
 have hsend:∀g,g∈(aP (S.C f.id.toNat) f.id f).2.1→tH g∧g.id.toNat=f.id.toNat∧(aP (S.C f.id.toNat) f.id f).1.begun=true∧g.ops=(aP (S.C f.id.toNat) f.id f).1.ops∧
   (((aP (S.C f.id.toNat) f.id f).1.fixed=true∧g.kind=3∧g.deps=(aP (S.C f.id.toNat) f.id f).1.deps)∨g.kind=1):=fun g hg=>by
  obtain⟨h1,h2⟩:=lX hg
  obtain⟨b1,b2,b3,b4,b5,b6⟩:=oW h1
  refine⟨⟨b3,by rw[b4];exact b2⟩,by rw[b4],b1,b5,?_⟩
  rcases b6 with b6 | b6
  ·exact Or.inl b6
  ·exact Or.inr b6.2
 rcases gF (S.C f.id.toNat) f.id f with ⟨h1,_⟩ | ⟨_,_,hk,hf,_,_,he,_⟩ | ⟨_,_,_,hs,_,_⟩
 ·exact absurd h0 h1
 ·refine h.setC hi32 _ _ ?_ ?_ ?_ ?_ hsend
  ·rw[he];exact fun e=>⟨e,rfl⟩
  ·intro e;rw[hf] at e;cases e
  ·rw[he]
   intro n hn ht
   have ht:upd (S.C f.id.toNat).told f.node.toNat true n=true:=ht
   show _∧∀d∈((S.B n).ent f.id.toNat).first,d∈iA (S.C f.id.toNat).deps f.deps
   by_cases e:n=f.node.toNat
   ·subst e
    obtain⟨t1,t2⟩:=h.tel f hM hk
    refine⟨t1,fun d hd=>FE (by rw[t2];exact hd) (A5 (h.good _ hn) hi32 d hd)⟩
   ·rw[aI _ _ e] at ht
    obtain⟨t1,t2⟩:=h.told _ hi32 n hn ht
    exact⟨t1,fun d hd=>IP (t2 d hd) (A5 (h.good _ hn) hi32 d hd)⟩
  ·rw[he]
   intro e
   exact⟨(pR h0).1,e⟩
 ·refine h.setC hi32 _ _ ?_ ?_ ?_ ?_ hsend
  ·exact fun e=>⟨by rw[hs.begun];exact e,hs.ops⟩
  ·exact fun e=>⟨by rw[hs.fixed];exact e,hs.deps⟩
  ·intro n hn ht
   rw[hs.told] at ht
   rw[hs.deps]
   exact h.told _ hi32 n hn ht
  ·intro e
   rw[hs.fixed] at e
   obtain⟨m1,m2⟩:=h.most _ hi32 e
   exact⟨by rw[hs.begun];exact m1,by rw[hs.ops,hs.told];exact m2⟩
theorem fH.again {S:Sys} (h:fH S) {i:Nat} (hi:i<32):fH ⟨S.B,S.C,fun g=>S.M g∨g∈cR (S.C i) (i:Int)⟩:=by
  have e:upd S.C i (S.C i)=S.C:=by
    funext j
    unfold upd
    split
    ·rename_i e;rw[e]
    ·rfl
  have:=h.setC hi (S.C i) (fun g=>g∈cR (S.C i) (i:Int)) (fun e=>⟨e,rfl⟩) (fun e=>⟨e,rfl⟩) (fun n hn ht=>h.told i hi n hn ht) (fun e=>h.most i hi e) (fun g hg=>by
    obtain⟨b1,b2,b3,b4,b5,b6⟩:=oW hg
    refine⟨⟨b3,by rw[b4];exact b2⟩,by rw[b4];omega,b1,b5,?_⟩
    rcases b6 with b6 | b6
    ·exact Or.inl b6
    ·exact Or.inr b6.2)
  rw[e] at this
  exact this
theorem fH.begin {S:Sys} (h:fH S) {i:Nat} (hi:i<32) (hz:S.C i=cB) (ops:List OpL):
  fH ⟨S.B,upd S.C i { cB with begun:=true,ops:=ops },fun g=>S.M g∨g∈cR { cB with begun:=true,ops:=ops } (i:Int)⟩:=by
 refine h.setC hi _ _ (fun e=>?_) (fun e=>?_) (fun n hn ht=>?_) (fun e=>?_) (fun g hg=>?_)
 ·rw[hz] at e;cases e
 ·rw[hz] at e;cases e
 ·cases ht
 ·cases e
 ·obtain⟨b1,b2,b3,b4,b5,b6⟩:=oW hg
  refine⟨⟨b3,by rw[b4];exact b2⟩,by rw[b4];omega,b1,b5,?_⟩
  rcases b6 with b6 | b6
  ·exact Or.inl b6
  ·exact Or.inr b6.2
theorem fH.zero:fH ⟨fun _=>dR,fun _=>cB,fun _=>False⟩:=by
 refine⟨fun _ _=>IH,fun _ h=>h.elim,fun _ h=>h.elim,fun _ h=>h.elim,fun _ h=>h.elim,fun _ h=>h.elim,fun n _ i _ h=>?_,fun n _ i _ h=>?_,fun i _ n _ h=>?_,fun n _ x y _ _ _ h=>?_,fun i _ h=>?_⟩
 ·exact absurd h (show ¬ (1:Int)≤0 by decide)
 ·exact absurd h (show ¬ (2:Int)≤0 by decide)
 ·cases h
 ·exact absurd h (show ¬ (1:Int)≤0 by decide)
 ·cases h
theorem MC (t:Nat→Bool) (sh:Nat):j6 t sh=(t (sh*3+0)).toNat+(t (sh*3+1)).toNat+(t (sh*3+2)).toNat:=by
 unfold j6
 rw[show List.range 3=[0,1,2] from rfl]
 simp only[List.filter_cons,List.filter_nil]
 generalize t (sh*3+0)=a
 generalize t (sh*3+1)=b
 generalize t (sh*3+2)=c
 cases a<;>cases b<;>cases c<;>rfl
theorem IW {t u:Nat→Bool} {sh:Nat} (h1:2≤j6 t sh) (h2:2≤j6 u sh):∃k,k<3∧t (sh*3+k)=true∧u (sh*3+k)=true:=by
 rw[MC] at h1 h2
 by_cases e0:t (sh*3+0)=true∧u (sh*3+0)=true
 ·exact⟨0,by omega,e0⟩
 by_cases e1:t (sh*3+1)=true∧u (sh*3+1)=true
 ·exact⟨1,by omega,e1⟩
 by_cases e2:t (sh*3+2)=true∧u (sh*3+2)=true
 ·exact⟨2,by omega,e2⟩
 exfalso
 generalize t (sh*3+0)=a0 at *
 generalize t (sh*3+1)=a1 at *
 generalize t (sh*3+2)=a2 at *
 generalize u (sh*3+0)=b0 at *
 generalize u (sh*3+1)=b1 at *
 generalize u (sh*3+2)=b2 at *
 cases a0<;>cases a1<;>cases a2<;>cases b0<;>cases b1<;>cases b2<;>simp_all
theorem yY {ops:List OpL} {t:Nat→Bool} (h:dZ ops t=true) {sh:Nat} (hs:sh<2) (ht:bK ops (sh:Int)=true):2≤j6 t sh:=by
 unfold dZ at h
 simp only[Bool.and_eq_true,Bool.or_eq_true,Bool.not_eq_true',decide_eq_true_iff] at h
 match sh,hs with
 | 0,_=>
  rcases h.1 with e | e
  ·have ht:bK ops 0=true:=ht
   rw[e] at ht;cases ht
  ·exact e
 | 1,_=>
  rcases h.2 with e | e
  ·have ht:bK ops 1=true:=ht
   rw[e] at ht;cases ht
  ·exact e
theorem fH.ahead {S:Sys} (h:fH S) {x y sh:Nat} (hx:x<32) (hy:y<32) (hxy:x≠y) (fx:(S.C x).fixed=true) (fy:(S.C y).fixed=true) (hs:sh<2) (hc:dJ (S.C x).ops (S.C y).ops (sh:Int)=true):
  (y:Int)∈(S.C x).deps∨(x:Int)∈(S.C y).deps:=by
 obtain⟨t1,t2⟩:=uT hc
 obtain⟨k,hk,a,b⟩:=IW (yY (h.most x hx fx).2 hs t1) (yY (h.most y hy fy).2 hs t2)
 have hn:sh*3+k<6:=by omega
 obtain⟨a1,a2⟩:=h.told x hx _ hn a
 obtain⟨b1,b2⟩:=h.told y hy _ hn b
 have ho:ofL ((sh*3+k:Nat):Int)=(sh:Int):=by
  rw[D1]
  split
  ·rename_i e
   have:sh=0:=by omega
   subst this;rfl
  ·rename_i e
   have:sh=1:=by omega
   subst this;rfl
 rcases h.conf _ hn x y hx hy hxy a1 b1 (by rw[ho];exact hc) with e | e
 ·exact Or.inl (a2 _ e)
 ·exact Or.inr (b2 _ e)
def Sys.graph (S:Sys):aX:=⟨fun i=>(S.C i).fixed,fun i=>(S.C i).deps⟩
theorem wC {A A':Nat→Nat→Bool} {P:Nat→Prop} (hs:∀x,P x→∀y,A x y=A' x y) (hc:∀x y,P x→A x y=true→P y) {x y:Nat} (h:cA A x y):P x→cA A' x y:=by
 induction h using cA.ind with
 | refl x=>exact fun _=> .refl x
 | step a h ih=>exact fun hx=> .step (by rw[←hs _ hx];exact a) (ih (hc _ _ hx a))
theorem qN {g g':aX} {P:Nat→Prop} (h32:∀x,P x→x<32) (hs:∀x,P x→∀y,g.adj x y=g'.adj x y) (hc:∀x y,P x→g.adj x y=true→P y) {x:Nat} (hx:P x) (y:Nat):bR g x y=bR g' x y:=by
 rw[Bool.eq_iff_iff,b8 g (h32 x hx),b8 g' (h32 x hx)]
 exact⟨fun h=>wC hs hc h hx,fun h=>wC (fun x hx y=>(hs x hx y).symm) (fun x y hx a=>hc x y hx (by rw[hs x hx];exact a)) h hx⟩
theorem fH.sorted {S:Sys} (h:fH S) {n:Nat} (hn:n<6) (hS:gX (S.B n)):jC (bR S.graph) (S.B n).did:=by
 refine hS.sorted.later fun x hx y _=>?_
 refine qN (P:=fun x=>x∈(S.B n).did) hS.sorted.lt (fun x hx y=>?_) (fun x y hx a=>?_) hx y
 ·have hx32:=hS.sorted.lt x hx
  have h3:=(lL (h.good n hn) hx32).1 hx
  obtain⟨e1,e2⟩:=h.ent2 n hn x hx32 (by rw[h3];decide)
  have k:(S.B n).graph.known x=S.graph.known x:=by
   show decide (2≤((S.B n).ent x).state)=(S.C x).fixed
   rw[h3,e1];rfl
  have d:(S.B n).graph.deps x=S.graph.deps x:=e2
  unfold aX.adj
  rw[k,d]
 ·exact hS.sorted.closed x hx y (aX.adj_lt _ x y a) ((b8 _ (hS.sorted.lt x hx) y).2 (.one a))
theorem xG {pre post:List Nat} {x y:Nat}:y∈pre↔(pre++x::post).idxOf y<pre.length:=by
 rw[List.idxOf_append]
 split
 ·rename_i h
  exact⟨fun _=>List.idxOf_lt_length_of_mem h,fun _=>h⟩
 ·rename_i h
  exact⟨fun k=>absurd k h,fun k=>by omega⟩
theorem sJ {pre post:List Nat} {x:Nat} (h:x ∉ pre):(pre++x::post).idxOf x=pre.length:=by
 rw[List.idxOf_append,if_neg h]
 simp
theorem vF {L:List Nat} (hd:L.Nodup) {x:Nat} (hx:x∈L):∃pre post,L=pre++x::post∧x ∉ pre:=by
 obtain⟨pre,post,e⟩:=List.append_of_mem hx
 refine⟨pre,post,e,fun hp=>?_⟩
 rw[e,List.nodup_append] at hd
 exact hd.2.2 x hp x (by simp) rfl
theorem jC.place {H:Nat→Nat→Bool} {L:List Nat} (h:jC H L) {x y:Nat} (hx:x∈L) (hy:y<32) (hxy:x≠y) (hH:H x y=true):L.idxOf y<L.idxOf x↔(H y x=false∨y<x):=by
 obtain⟨pre,post,e,hn⟩:=vF h.nodup hx
 have e1:L.idxOf x=pre.length:=by rw[e];exact sJ hn
 have e2:y∈pre↔L.idxOf y<L.idxOf x:=by rw[e1,e];exact xG
 rw[←e2]
 cases hb:H y x
 ·exact⟨fun _=>Or.inl rfl,fun _=>h.behind pre x post e y hy hH hb⟩
 ·rw[h.ring pre x post e y hy hH hb (fun e=>hxy e.symm)]
  exact⟨fun k=>Or.inr k,fun k=>k.resolve_left (by simp)⟩
theorem IL {L:List Nat} {x y:Nat} (hx:x∈L) (hy:y∈L) (hxy:x≠y):L.idxOf x≠L.idxOf y:=by
 intro e
 have h1:=List.getElem_idxOf (List.idxOf_lt_length_of_mem hx)
 have h2:=List.getElem_idxOf (List.idxOf_lt_length_of_mem hy)
 apply hxy
 rw[←h1,←h2]
 congr 1
theorem jC.alike {H:Nat→Nat→Bool} {L L':List Nat} (h:jC H L) (h':jC H L') {x y:Nat} (hx:x∈L) (hy:y∈L) (hx':x∈L') (hy':y∈L') (hxy:x≠y) (hH:H x y=true∨H y x=true):L.idxOf y<L.idxOf x↔L'.idxOf y<L'.idxOf x:=by
 rcases hH with e | e
 ·rw[h.place hx (h.lt y hy) hxy e,h'.place hx' (h.lt y hy) hxy e]
 ·have a:=h.place hy (h.lt x hx) (Ne.symm hxy) e
  have b:=h'.place hy' (h.lt x hx) (Ne.symm hxy) e
  have n1:=IL hx hy hxy
  have n2:=IL hx' hy' hxy
  have:L.idxOf x<L.idxOf y↔L'.idxOf x<L'.idxOf y:=by rw[a,b]
  omega
theorem BA {g:aX} {x y:Nat} (hx:x<32) (hy:y<32) (hk:g.known x=true) (hd:(y:Int)∈g.deps x):bR g x y=true:=by
 rw[b8 g hx]
 refine .one ?_
 unfold aX.adj
 simp[hx,hy,hk,hd]
theorem fH.hang {S:Sys} (h:fH S) {x y sh:Nat} (hx:x<32) (hy:y<32) (hxy:x≠y) (fx:(S.C x).fixed=true) (fy:(S.C y).fixed=true) (hs:sh<2) (hc:dJ (S.C x).ops (S.C y).ops (sh:Int)=true):bR S.graph x y=true∨bR S.graph y x=true:=by
 rcases h.ahead hx hy hxy fx fy hs hc with e | e
 ·exact Or.inl (BA hx hy fx e)
 ·exact Or.inr (BA hy hx fy e)
theorem fH.did_fixed {S:Sys} (h:fH S) {n:Nat} (hn:n<6) {x:Nat} (hx:x<32) (hd:x∈(S.B n).did):(S.C x).fixed=true:=
 (h.ent2 n hn x hx (by rw[(lL (h.good n hn) hx).1 hd];decide)).1
theorem wD {L M:List Nat} {x y:Nat} (hx:x∈L) (hy:y∈L):(L++M).idxOf y<(L++M).idxOf x↔L.idxOf y<L.idxOf x:=by
 rw[List.idxOf_append,List.idxOf_append,if_pos hx,if_pos hy]
def after (sh:Int) (ops:Nat→List OpL):List Nat→(Nat→Int)→(Nat→Int)
 | [],v=>v
 | x::l,v=>after sh ops l (b7 sh 0 (ops x) v).1
theorem sC (sh:Int) (ops:Nat→List OpL):∀(l m:List Nat) (v:Nat→Int),after sh ops (l++m) v=after sh ops m (after sh ops l v)
 | [],_,_=>rfl
 | x::l,m,v=>sC sh ops l m (b7 sh 0 (ops x) v).1
theorem nK (sh:Int) {ops ops':Nat→List OpL}:∀(l:List Nat) (v:Nat→Int),(∀x∈l,ops x=ops' x)→after sh ops l v=after sh ops' l v
 | [],_,_=>rfl
 | x::l,v,h=>by
  show after sh ops l (b7 sh 0 (ops x) v).1=after sh ops' l (b7 sh 0 (ops' x) v).1
  rw[h x (by simp),nK sh l _ fun y hy=>h y (by simp[hy])]
structure jI (sh:Int) (s:aA):Prop where
 all:s.vals=after sh (fun x=>(s.ent x).ops) s.did fun _=>0
 each:∀pre x post,s.did=pre++x::post→(s.ent x).ats=(b7 sh 0 (s.ent x).ops (after sh (fun x=>(s.ent x).ops) pre fun _=>0)).2.1∧(s.ent x).vals=(b7 sh 0 (s.ent x).ops (after sh (fun x=>(s.ent x).ops) pre fun _=>0)).2.2
theorem MJ (sh:Int):jI sh dR:=⟨rfl,by intro pre x post e;simp[dR,aA.did] at e⟩
theorem jI.same {sh:Int} {s t:aA} (V:jI sh s) (hd:t.did=s.did) (hv:t.vals=s.vals) (he:∀x∈s.did,t.ent x=s.ent x):jI sh t:=by
 refine⟨?_,fun pre x post e=>?_⟩
 ·rw[hv,hd,V.all]
  exact nK sh _ _ fun x hx=>by rw[he x hx]
 ·rw[hd] at e
  have hx:x∈s.did:=by rw[e];simp
  rw[he x hx]
  have:after sh (fun x=>(t.ent x).ops) pre (fun _=>0)=after sh (fun x=>(s.ent x).ops) pre (fun _=>0):=nK sh _ _ fun y hy=>by rw[he y (by rw[e];simp[hy])]
  rw[this]
  exact V.each pre x post e
theorem MH {sh:Int} {s:aA} (h:bS s) (V:jI sh s) {n:Nat} (hn:n<32) (hs:(s.ent n).state=2):jI sh (s.exec sh n):=by
 have ops:(fun x=>((s.exec sh n).ent x).ops)=fun x=>(s.ent x).ops:=by
  funext x
  exact congrArg Prod.fst (yO s sh hs x)
 have did:(s.exec sh n).did=s.did++[n]:=by unfold aA.did aA.exec;simp
 have no:n ∉ s.did:=fun e=>by
  have:=(lL h hn).1 e
  omega
 have same:(s.exec sh n).ent n=⟨3,(s.ent n).ops,(s.ent n).first,(s.ent n).deps,(b7 sh 0 (s.ent n).ops s.vals).2.1,(b7 sh 0 (s.ent n).ops s.vals).2.2⟩:=aQ _ _ _
 refine⟨?_,fun pre x post e=>?_⟩
 ·rw[ops,did,sC]
  show (b7 sh 0 (s.ent n).ops s.vals).1=(b7 sh 0 (s.ent n).ops (after sh (fun x=>(s.ent x).ops) s.did fun _=>0)).1
  rw[←V.all]
 ·rw[ops]
  rw[did] at e
  rw[List.append_eq_append_iff] at e
  have last:∀p q,[n]=p++x::q→s.did++p=pre→((s.exec sh n).ent x).ats=(b7 sh 0 ((s.exec sh n).ent x).ops (after sh (fun x=>(s.ent x).ops) pre fun _=>0)).2.1∧((s.exec sh n).ent x).vals=(b7 sh 0 ((s.exec sh n).ent x).ops (after sh (fun x=>(s.ent x).ops) pre fun _=>0)).2.2:=by
   intro p q e1 e2
   cases p with
   | nil=>
    simp at e1 e2
    obtain⟨rfl,_⟩:=e1
    rw[same,←e2,←V.all]
    exact⟨rfl,rfl⟩
   | cons a p=>simp at e1
  rcases e with ⟨qs,e1,e2⟩ | ⟨bs,e1,e2⟩
  ·exact last qs post e2 e1.symm
  ·cases bs with
   | nil=>exact last [] post (by simpa using e2.symm) (by simpa using e1)
   | cons b bs=>
    simp only[List.cons_append,List.cons.injEq] at e2
    obtain⟨rfl,_⟩:=e2
    have hx:x∈s.did:=by rw[e1];simp
    have:(s.exec sh n).ent x=s.ent x:=aI _ _ (fun e=>no (e ▸ hx))
    rw[this]
    exact V.each pre x bs e1
theorem zT (sh:Int):∀(l:List Nat) {s:aA},(∀x∈l,x<32)→bS s→jI sh s→jI sh (s.execs sh l)
 | [],_,_,_,V=>V
 | a::l,s,hl,h,V=>by
  have h1:bS (aA.execIf sh s a)∧jI sh (aA.execIf sh s a):=by
   unfold aA.execIf
   split
   ·rename_i e;exact⟨yS h sh (hl a (by simp)) e,MH h V (hl a (by simp)) e⟩
   ·exact⟨h,V⟩
  exact zT (s:=aA.execIf sh s a) sh l (fun x hx=>hl x (by simp[hx])) h1.1 h1.2
theorem GP {sh:Int} {s:aA} (h:bS s) (V:jI sh s):jI sh (s.settle sh):=by
 have:∀(l:List Nat) (t:aA),bS t→jI sh t→jI sh (l.foldl (aA.round s.graph sh) t):=by
  intro l
  induction l with
  | nil=>exact fun t _ ht=>ht
  | cons a l ih=>
   intro t ht hv
   have h1:bS (aA.round s.graph sh t a)∧jI sh (aA.round s.graph sh t a):=by
    unfold aA.round
    split
    ·exact⟨lN (s:=t) sh _ (kQ _ _) ht,zT (s:=t) sh _ (kQ _ _) ht hv⟩
    ·exact⟨ht,hv⟩
   exact ih _ h1.1 h1.2
 exact this _ s h V
theorem MI {s:aA} {who:Int} {f:aC} (V:jI (ofL who) s):jI (ofL who) (aL s who f).1:=by
 rcases dN s who f with ⟨_,h1,_⟩ | ⟨hg,hf,_,_,_,_,⟨hk,_,e⟩ | ⟨hk,e⟩⟩
 ·rw[h1];exact V
 ·rw[e]
  obtain⟨i1,i2,_⟩:=kA hf
  show jI _ (s.asked (ofL who) f)
  unfold aA.asked
  split
  ·rename_i h0
   refine V.same rfl rfl fun x hx=>fB s _ f fun e=>?_
   subst e
   have:=(lL hg (by omega)).1 hx
   omega
  ·exact V
 ·rw[e]
  obtain⟨i1,i2,_⟩:=kA hf
  show jI _ (s.commit (ofL who) f)
  unfold aA.commit
  split
  ·rename_i h0
   refine GP (lS hg _ hf hk h0) (V.same rfl rfl fun x hx=>aI _ _ fun e=>?_)
   subst e
   have:=(lL hg (by omega)).1 hx
   omega
  ·exact V
def kF (a:Int):Prop:= -1099511627776≤a∧a≤1099511627776
theorem IX {a:Int} (h:kF a):near a=a:=by
 unfold near
 rw[if_neg (by have:=h.1;omega),if_neg (by have:=h.2;omega)]
theorem yM (v kind n:Int):kF (doL v kind n):=by
 unfold doL
 split
 ·exact⟨tM _,tL _⟩
 ·split<;>exact⟨tM _,tL _⟩
theorem M1 {v:Int} (h:kF v) (n:Int):doL v 1 n=v:=by
 unfold doL
 rw[if_neg (by decide),if_neg (by decide),IX h]
def kI (k:Nat):List OpL→Int→Int
 | [],a=>a
 | o::r,a=>kI k r (if o.2.1.toNat=k then doL a o.1 o.2.2 else a)
def iQ (k:Nat) (ops:List OpL):Bool:=ops.any fun o=>o.2.1.toNat == k && o.1 !=1
theorem rO (k:Nat):∀(ops:List OpL) (a:Int),kF a→kF (kI k ops a)
 | [],_,h=>h
 | o::r,a,h=>by
  refine rO k r _ ?_
  split
  ·exact yM _ _ _
  ·exact h
theorem sM (k:Nat):∀(ops:List OpL) (a:Int),iQ k ops=false→kF a→kI k ops a=a
 | [],_,_,_=>rfl
 | o::r,a,h,ha=>by
  unfold iQ at h
  rw[List.any_cons,Bool.or_eq_false_iff] at h
  have h2:iQ k r=false:=h.2
  show kI k r (if o.2.1.toNat=k then doL a o.1 o.2.2 else a)=a
  have e:(if o.2.1.toNat=k then doL a o.1 o.2.2 else a)=a:=by
   split
   ·rename_i hk
    have:o.1=1:=by
     have h1:=h.1
     rw[hk] at h1
     simpa using h1
    rw[this]
    exact M1 ha _
   ·rfl
  rw[e]
  exact sM k r a h2 ha
def dG:List OpL→(Nat→Int)→(Nat→Int) × List Int
 | [],v=>(v,[])
 | o::r,v=>((dG r (upd v o.2.1.toNat (doL (v o.2.1.toNat) o.1 o.2.2))).1,doL (v o.2.1.toNat) o.1 o.2.2::(dG r (upd v o.2.1.toNat (doL (v o.2.1.toNat) o.1 o.2.2))).2)
theorem oC:∀(ops:List OpL) (v:Nat→Int),(dG ops v).2.length=ops.length
 | [],_=>rfl
 | o::r,v=>by
  show ((dG r _).2).length+1=r.length+1
  rw[oC r]
theorem wS (k:Nat):∀(ops:List OpL) (v:Nat→Int),(dG ops v).1 k=kI k ops (v k)
 | [],_=>rfl
 | o::r,v=>by
  show (dG r (upd v o.2.1.toNat (doL (v o.2.1.toNat) o.1 o.2.2))).1 k=kI k r (if o.2.1.toNat=k then doL (v k) o.1 o.2.2 else v k)
  rw[wS k r]
  congr 1
  by_cases e:o.2.1.toNat=k
  ·rw[if_pos e,←e,aQ]
  ·rw[if_neg e,aI _ _ (fun h=>e h.symm)]
theorem qZ (sh:Int) (k:Nat) (hk:(k:Int) % 2=sh):∀(ops:List OpL) (i:Nat) (v:Nat→Int),(∀o∈ops,0≤o.2.1)→(b7 sh i ops v).1 k=kI k ops (v k)
 | [],_,_,_=>rfl
 | o::r,i,v,h=>by
  have h0:=h o (by simp)
  have hr:∀p∈r,0≤p.2.1:=fun p hp=>h p (by simp[hp])
  show _=kI k r (if o.2.1.toNat=k then doL (v k) o.1 o.2.2 else v k)
  unfold b7
  split
  ·rw[qZ sh k hk r (i+1) _ hr]
   congr 1
   by_cases e:o.2.1.toNat=k
   ·rw[if_pos e,←e,aQ]
   ·rw[if_neg e,aI _ _ (fun h=>e h.symm)]
  ·rename_i hs
   rw[qZ sh k hk r (i+1) _ hr]
   congr 1
   rw[if_neg]
   intro e
   apply hs
   have:o.2.1=(k:Int):=by omega
   rw[this,hk]
   simp
theorem zR (sh:Int):∀(ops:List OpL) (i:Nat) (v u:Nat→Int),(∀o∈ops,0≤o.2.1)→(∀o∈ops,o.2.1 % 2=sh→v o.2.1.toNat=u o.2.1.toNat)→
  ∀a w,(a,w)∈(b7 sh i ops v).2.1.zip (b7 sh i ops v).2.2→∃p:Nat,p<ops.length∧a=(i:Int)+p∧(dG ops u).2[p]? =some w
 | [],_,_,_,_,_,a,w,h=>by simp[b7] at h
 | o::r,i,v,u,h0,hv,a,w,h=>by
  have hr:∀p∈r,0≤p.2.1:=fun p hp=>h0 p (by simp[hp])
  have ho:=h0 o (by simp)
  have next:∀(v':Nat→Int),(∀p∈r,p.2.1 % 2=sh→v' p.2.1.toNat=upd u o.2.1.toNat (doL (u o.2.1.toNat) o.1 o.2.2) p.2.1.toNat)→(a,w)∈(b7 sh (i+1) r v').2.1.zip (b7 sh (i+1) r v').2.2→
    ∃p:Nat,p<(o::r).length∧a=(i:Int)+p∧(dG (o::r) u).2[p]? =some w:=by
   intro v' hv' hm
   obtain⟨p,h1,h2,h3⟩:=zR sh r (i+1) v' _ hr hv' a w hm
   refine⟨p+1,by simp;exact h1,by rw[h2];push_cast;omega,?_⟩
   show (_::(dG r _).2)[p+1]? =some w
   rw[List.getElem?_cons_succ]
   exact h3
  unfold b7 at h
  split at h
  ·rename_i hs
   have hs':o.2.1 % 2=sh:=by simpa using hs
   have e:=hv o (by simp) hs'
   rw[List.zip_cons_cons,List.mem_cons] at h
   rcases h with h | h
   ·obtain⟨rfl,rfl⟩:=Prod.mk.inj h
    exact⟨0,by simp,by simp,by show some (doL (u o.2.1.toNat) o.1 o.2.2)=_;rw[e]⟩
   ·refine next _ (fun p hp hps=>?_) h
    rw[e]
    by_cases ek:p.2.1.toNat=o.2.1.toNat
    ·rw[ek,aQ,aQ]
    ·rw[aI _ _ ek,aI _ _ ek]
     exact hv p (by simp[hp]) hps
  ·rename_i hs
   refine next v (fun p hp hps=>?_) h
   have hp0:=hr p hp
   rw[aI _ _ (fun ek=>?_)]
   ·exact hv p (by simp[hp]) hps
   ·apply hs
    have:o.2.1=p.2.1:=by omega
    rw[this,hps]
    simp
def mF (k:Nat) (ops:Nat→List OpL):List Nat→Int→Int
 | [],a=>a
 | x::l,a=>mF k ops l (kI k (ops x) a)
theorem lP (k:Nat) (ops:Nat→List OpL):∀(l:List Nat) (a:Int),kF a→mF k ops l a=mF k ops (l.filter fun x=>iQ k (ops x)) a
 | [],_,_=>rfl
 | x::l,a,h=>by
  show mF k ops l (kI k (ops x) a)=_
  cases hw:iQ k (ops x)
  ·rw[List.filter_cons_of_neg (by simp[hw]),sM k _ a hw h]
   exact lP k ops l a h
  ·rw[List.filter_cons_of_pos (p:=fun x=>iQ k (ops x)) hw]
   exact lP k ops l _ (rO k _ a h)
theorem yE (sh:Int) (k:Nat) (hk:(k:Int) % 2=sh) (ops:Nat→List OpL):∀(l:List Nat) (v:Nat→Int),(∀x∈l,∀o∈ops x,0≤o.2.1)→after sh ops l v k=mF k ops l (v k)
 | [],_,_=>rfl
 | x::l,v,h=>by
  show after sh ops l (b7 sh 0 (ops x) v).1 k=mF k ops l (kI k (ops x) (v k))
  rw[yE sh k hk ops l _ (fun y hy=>h y (by simp[hy])),qZ sh k hk _ 0 v (h x (by simp))]
def serial (ops:Nat→List OpL):List Nat→(Nat→Int)→(Nat→Int)
 | [],v=>v
 | x::l,v=>serial ops l (dG (ops x) v).1
theorem wV (k:Nat) (ops:Nat→List OpL):∀(l:List Nat) (v:Nat→Int),serial ops l v k=mF k ops l (v k)
 | [],_=>rfl
 | x::l,v=>by
  show serial ops l (dG (ops x) v).1 k=mF k ops l (kI k (ops x) (v k))
  rw[wV k ops l,wS]
theorem hJ {a y:Nat} {l:List Nat} (h:y≠a):(a::l).idxOf y=l.idxOf y+1:=by
 rw[List.idxOf_cons]
 have:(a == y)=false:=by simpa using fun e=>h e.symm
 rw[this]
 rfl
theorem m8 (a:Nat) (l:List Nat):(a::l).idxOf a=0:=by simp
theorem zL:∀{l m:List Nat},l.Nodup→m.Nodup→(∀x,x∈l↔x∈m)→(∀x∈l,∀y∈l,x≠y→(l.idxOf y<l.idxOf x↔m.idxOf y<m.idxOf x))→l=m
 | [],[],_,_,_,_=>rfl
 | [],b::m,_,_,h,_=>by have:=(h b).2 (by simp);simp at this
 | a::l,[],_,_,h,_=>by have:=(h a).1 (by simp);simp at this
 | a::l,b::m,h1,h2,h,ho=>by
  have hab:a=b:=by
   cases Classical.em (a=b) with
   | inl e=>exact e
   | inr e=>
    have hb:b∈a::l:=(h b).2 (by simp)
    have:=(ho b hb a (by simp) (fun k=>e k.symm)).1 (by rw[m8,hJ (fun k=>e k.symm)];omega)
    rw[m8] at this
    omega
  subst hab
  rw[List.nodup_cons] at h1 h2
  have na:∀x∈l,x≠a:=fun x hx e=>h1.1 (e ▸ hx)
  have:l=m:=by
   refine zL h1.2 h2.2 (fun x=>?_) (fun x hx y hy hxy=>?_)
   ·constructor
    ·intro hx
     have:=(h x).1 (by simp[hx])
     rcases List.mem_cons.1 this with e | e
     ·exact absurd e (na x hx)
     ·exact e
    ·intro hx
     have:=(h x).2 (by simp[hx])
     rcases List.mem_cons.1 this with e | e
     ·exact absurd (e ▸ hx) h2.1
     ·exact e
   ·have:=ho x (by simp[hx]) y (by simp[hy]) hxy
    rw[hJ (na x hx),hJ (na y hy),hJ (na x hx),hJ (na y hy)] at this
    omega
  rw[this]
theorem n7 {p:Nat→Bool}:∀{l:List Nat} {x y:Nat},x∈l.filter p→y∈l.filter p→((l.filter p).idxOf y<(l.filter p).idxOf x↔l.idxOf y<l.idxOf x)
 | [],x,y,hx,_=>by simp at hx
 | a::l,x,y,hx,hy=>by
  cases hp:p a
  ·rw[List.filter_cons_of_neg (by simp[hp])] at hx hy ⊢
   have nx:x≠a:=fun e=>by
    have:=(List.mem_filter.1 hx).2
    rw[e,hp] at this;cases this
   have ny:y≠a:=fun e=>by
    have:=(List.mem_filter.1 hy).2
    rw[e,hp] at this;cases this
   rw[n7 hx hy,hJ nx,hJ ny]
   omega
  ·rw[List.filter_cons_of_pos hp] at hx hy ⊢
   by_cases ex:x=a
   ·subst ex
    rw[m8,m8]
    omega
   ·by_cases ey:y=a
    ·subst ey
     rw[m8,m8,hJ ex,hJ ex]
     omega
    ·rw[hJ ex,hJ ey,hJ ex,hJ ey]
     have:=n7 (p:=p) (l:=l) (x:=x) (y:=y) ((List.mem_cons.1 hx).resolve_left ex) ((List.mem_cons.1 hy).resolve_left ey)
     omega
theorem BJ {a b:List OpL} {o:OpL} (ho:o∈a) (h0:0≤o.2.1) (hb:∀p∈b,0≤p.2.1) (hw:iQ o.2.1.toNat b=true):dJ a b (o.2.1 % 2)=true:=by
 unfold iQ at hw
 obtain⟨p,hp,h⟩:=List.any_eq_true.1 hw
 simp at h
 have:=hb p hp
 refine (mO _ _ _).2 ⟨o,ho,p,hp,rfl,?_⟩
 have e:o.2.1=p.2.1:=by omega
 unfold nM
 simp[e,h.2]
theorem J7 {k:Nat} {b:List OpL} (hw:iQ k b=true):∃p∈b,p.2.1.toNat=k:=by
 unfold iQ at hw
 obtain⟨p,hp,h⟩:=List.any_eq_true.1 hw
 simp at h
 exact⟨p,hp,h.1⟩
theorem fH.serial {S:Sys} (h:fH S) {n:Nat} (hn:n<6) (sn:gX (S.B n)) (vn:jI (ofL n) (S.B n)) (hkeys:∀y,y<32→(S.C y).fixed=true→∀o∈(S.C y).ops,0≤o.2.1)
    {L:List Nat} (hL:jC (bR S.graph) L) (hall:∀y,y<32→(∀d,d<32→bR S.graph y d=true→(S.C d).fixed=true)→y∈L) (hfix:∀y∈L,(S.C y).fixed=true)
    {x:Nat} (hx:x∈(S.B n).did) {pre post:List Nat} (e:L=pre++x::post) (a w:Int) (hm:(a,w)∈((S.B n).ent x).ats.zip ((S.B n).ent x).vals):
    ∃p:Nat,p<(S.C x).ops.length∧a=(p:Int)∧(dG (S.C x).ops (serial (fun y=>(S.C y).ops) pre fun _=>0)).2[p]? =some w:=by
  have hD:=h.sorted hn sn
  have x32:=hD.lt x hx
  have fx:=h.did_fixed hn x32 hx
  have inL:∀y∈(S.B n).did,y∈L:=fun y hy=>hall y (hD.lt y hy) fun d hd hyd=>h.did_fixed hn hd (hD.closed y hy d hd hyd)
  have opsE:∀y∈(S.B n).did,((S.B n).ent y).ops=(S.C y).ops:=fun y hy=>(h.ent1 n hn y (hD.lt y hy) (by rw[(lL (h.good n hn) (hD.lt y hy)).1 hy];decide)).2
  obtain⟨pn,qn,en,xpn⟩:=vF hD.nodup hx
  have xpre:x ∉ pre:=fun hp=>by
    have:=hL.nodup
    rw[e,List.nodup_append] at this
    exact this.2.2 x hp x (by simp) rfl
  obtain⟨v1,v2⟩:=vn.each pn x qn en
  rw[v1,v2,opsE x hx,nK (ops':=fun y=>(S.C y).ops) _ pn _ (fun y hy=>opsE y (by rw[en];simp[hy]))] at hm
  have kx:=hkeys x x32 fx
  have iN:∀y,y∈pn↔(S.B n).did.idxOf y<(S.B n).did.idxOf x:=fun y=>by rw[en,sJ xpn];exact xG
  have iL:∀y,y∈pre↔L.idxOf y<L.idxOf x:=fun y=>by rw[e,sJ xpre];exact xG
  have xL:=inL x hx
  have sh2:∃sh:Nat,sh<2∧ofL n=(sh:Int):=by
    rw[D1]
    split
    ·exact⟨0,by omega,rfl⟩
    ·exact⟨1,by omega,rfl⟩
  obtain⟨sh,hsh,esh⟩:=sh2
  have key:∀o∈(S.C x).ops,o.2.1 % 2=ofL n→after (ofL n) (fun y=>(S.C y).ops) pn (fun _=>0) o.2.1.toNat=Go.Proofs.YtkoefoccbjhoiacGreat.serial (fun y=>(S.C y).ops) pre (fun _=>0) o.2.1.toNat:=by
    intro o ho hos
    obtain⟨k,hk⟩:=zNm (o.2.1.toNat)
    have o0:=kx o ho
    have hk2:(k:Int) % 2=ofL n:=by rw[hk,←hos];congr 1;omega
    rw[←hk,yE _ k hk2 _ pn _ (fun y hy=>hkeys y (hD.lt y (by rw[en];simp[hy])) (h.did_fixed hn (hD.lt y (by rw[en];simp[hy])) (by rw[en];simp[hy]))),wV,
      lP k _ pn _ (by unfold kF;decide),lP k _ pre _ (by unfold kF;decide)]
    congr 1
    have hang:∀y,y<32→y≠x→(S.C y).fixed=true→iQ k (S.C y).ops=true→bR S.graph x y=true∨bR S.graph y x=true:=by
      intro y hy hne fy hw
      refine h.hang x32 hy (Ne.symm hne) fx fy hsh ?_
      rw[←esh,←hos]
      exact BJ ho o0 (hkeys y hy fy) (hk ▸ hw)
    have hang2:∀y z,y<32→z<32→y≠z→(S.C y).fixed=true→(S.C z).fixed=true→iQ k (S.C y).ops=true→iQ k (S.C z).ops=true→bR S.graph y z=true∨bR S.graph z y=true:=by
      intro y z hy hz hne fy fz wy wz
      obtain⟨q,hq,eq⟩:=J7 wy
      have q0:=hkeys y hy fy q hq
      refine h.hang hy hz hne fy fz hsh ?_
      have:(sh:Int)=q.2.1 % 2:=by
        rw[←esh,←hk2]
        congr 1
        omega
      rw[this]
      exact BJ hq q0 (hkeys z hz fz) (eq ▸ wz)
    refine zL (List.Pairwise.filter _ ?_) (List.Pairwise.filter _ ?_) (fun y=>?_) (fun y hy z hz hyz=>?_)
    ·have:=hD.nodup
     rw[en,List.nodup_append] at this
     exact this.1
    ·have:=hL.nodup
     rw[e,List.nodup_append] at this
     exact this.1
    ·rw[List.mem_filter,List.mem_filter]
     constructor
     ·rintro⟨hp,hw⟩
      have yd:y∈(S.B n).did:=by rw[en];simp[hp]
      have hne:y≠x:=fun k=>xpn (k ▸ hp)
      have y32:=hD.lt y yd
      refine⟨(iL y).2 ?_,hw⟩
      rw[←hD.alike hL hx yd xL (inL y yd) (Ne.symm hne) (hang y y32 hne (h.did_fixed hn y32 yd) hw)]
      exact (iN y).1 hp
     ·rintro⟨hp,hw⟩
      have yL:y∈L:=by rw[e];simp[hp]
      have hne:y≠x:=fun k=>xpre (k ▸ hp)
      have y32:=hL.lt y yL
      have H:=hang y y32 hne (hfix y yL) hw
      have hlt:=(iL y).1 hp
      have hxy:bR S.graph x y=true:=by
        cases hb:bR S.graph x y
        ·have:=(hL.place yL x32 hne (H.resolve_left (by rw[hb];simp))).2 (Or.inl hb)
         omega
        ·rfl
      have yd:=hD.closed x hx y y32 hxy
      refine⟨(iN y).2 ?_,hw⟩
      rw[hD.alike hL hx yd xL yL (Ne.symm hne) H]
      exact hlt
    ·rw[n7 hy hz]
     have hy1:=(List.mem_filter.1 hy).1
     have hz1:=(List.mem_filter.1 hz).1
     have yd:y∈(S.B n).did:=by rw[en];simp[hy1]
     have zd:z∈(S.B n).did:=by rw[en];simp[hz1]
     have y32:=hD.lt y yd
     have z32:=hD.lt z zd
     have wy:=(List.mem_filter.1 hy).2
     have wz:=(List.mem_filter.1 hz).2
     have fy:=h.did_fixed hn y32 yd
     have fz:=h.did_fixed hn z32 zd
     have up:∀y∈pn,iQ k (S.C y).ops=true→y∈pre:=by
       intro y hp hw
       have yd:y∈(S.B n).did:=by rw[en];simp[hp]
       have hne:y≠x:=fun k=>xpn (k ▸ hp)
       have y32:=hD.lt y yd
       refine (iL y).2 ?_
       rw[←hD.alike hL hx yd xL (inL y yd) (Ne.symm hne) (hang y y32 hne (h.did_fixed hn y32 yd) hw)]
       exact (iN y).1 hp
     have yp:=up y hy1 wy
     have zp:=up z hz1 wz
     rw[n7 (List.mem_filter.2 ⟨yp,wy⟩) (List.mem_filter.2 ⟨zp,wz⟩)]
     have A:=hD.alike hL yd zd (inL y yd) (inL z zd) hyz (hang2 y z y32 z32 hyz fy fz wy wz)
     rw[en,e,wD hy1 hz1,wD yp zp] at A
     exact A
  obtain⟨p,h1,h2,h3⟩:=zR (ofL n) (S.C x).ops 0 _ _ kx key a w hm
  exact⟨p,h1,by rw[h2];simp,h3⟩
def bA (g:aX) (k:Nat):List Nat:=(List.range k).foldl (fun L (n:Nat)=>L++(cT g (n:Int)).filter fun x=>!L.contains x) []
theorem rP (g:aX) (k:Nat):bA g (k+1)=bA g k++(cT g (k:Int)).filter fun x=>!(bA g k).contains x:=by
 unfold bA
 rw[List.range_succ,List.foldl_append]
 rfl
theorem zB {g:aX} {n:Nat} (hn:n<32):iV g (n:Int)=true↔∀d,d<32→bR g n d=true→g.known d=true:=by
 unfold iV
 have:jH (n:Int)=true:=by unfold jH;simp;omega
 rw[this,Bool.true_and]
 exact wF
theorem nN {g:aX} {n:Nat} (hn:n<32):cT g (n:Int)=if iV g (n:Int)=true then dS (bR g) (bR g n) 32 else []:=by
 cases hr:iV g (n:Int)
 ·rw[if_neg (by simp)]
  unfold cT
  rw[hr]
  rfl
 ·rw[if_pos rfl,←wK g hn]
  unfold cT
  rw[hr]
  rfl
theorem gQ (g:aX):∀k,k≤32→jC (bR g) (bA g k)∧(∀y,y<k→(∀d,d<32→bR g y d=true→g.known d=true)→y∈bA g k)∧∀y∈bA g k,∀d,d<32→bR g y d=true→g.known d=true
 | 0,_=>⟨oD _,fun y hy=>by omega,fun y hy=>by simp[bA] at hy⟩
 | k+1,hk=>by
  obtain⟨i1,i2,i3⟩:=gQ g k (by omega)
  have hk32:k<32:=by omega
  have hc:=oH g hk32
  rw[rP,nN hk32]
  by_cases hr:iV g (k:Int)=true
  ·rw[if_pos hr]
   have hrd:=(zB hk32).1 hr
   refine⟨nO hc i1,fun y hy hd=>?_,fun y hy d hd hyd=>?_⟩
   ·by_cases e:y<k
    ·exact List.mem_append_left _ (i2 y e hd)
    ·obtain rfl:y=k:=by omega
     by_cases hm:y∈bA g y
     ·exact List.mem_append_left _ hm
     ·refine List.mem_append_right _ (List.mem_filter.2 ⟨(qS hc y).2 ((b8 g hk32 y).2 (.refl y)),by simpa using hm⟩)
   ·rcases List.mem_append.1 hy with h | h
    ·exact i3 y h d hd hyd
    ·have:=(qS hc y).1 (List.mem_filter.1 h).1
     exact hrd d hd (hc.closed y d this hyd)
  ·rw[if_neg hr,List.filter_nil,List.append_nil]
   refine⟨i1,fun y hy hd=>?_,i3⟩
   by_cases e:y<k
   ·exact i2 y e hd
   ·obtain rfl:y=k:=by omega
    exact absurd ((zB hk32).2 hd) hr
theorem fH.serial_all {S:Sys} (h:fH S) {n:Nat} (hn:n<6) (sn:gX (S.B n)) (vn:jI (ofL n) (S.B n)) (hkeys:∀y,y<32→(S.C y).fixed=true→∀o∈(S.C y).ops,0≤o.2.1)
  {x:Nat} (hx:x∈(S.B n).did):∃pre post,bA S.graph 32=pre++x::post∧∀a w,(a,w)∈((S.B n).ent x).ats.zip ((S.B n).ent x).vals→
   ∃p:Nat,p<(S.C x).ops.length∧a=(p:Int)∧(dG (S.C x).ops (Go.Proofs.YtkoefoccbjhoiacGreat.serial (fun y=>(S.C y).ops) pre fun _=>0)).2[p]? =some w:=by
 obtain⟨o1,o2,o3⟩:=gQ S.graph 32 (Nat.le_refl _)
 have hD:=h.sorted hn sn
 have hin:x∈bA S.graph 32:=o2 x (hD.lt x hx) fun d hd hxd=>h.did_fixed hn hd (hD.closed x hx d hd hxd)
 obtain⟨pre,post,e,_⟩:=vF o1.nodup hin
 refine⟨pre,post,e,fun a w hm=>?_⟩
 exact h.serial hn sn vn hkeys o1 (fun y hy hd=>o2 y hy hd) (fun y hy=>o3 y hy y (o1.lt y hy) ((b8 _ (o1.lt y hy) y).2 (.refl y))) hx e a w hm
structure gB (S:Sys) (a b:Nat):Prop where
 fixed:∀d,d<32→bR S.graph b d=true→(S.C d).fixed=true∧d≠a
 begun:(S.C a).begun=true
 first:∀n,n<6→(S.C b).told n=true→1≤((S.B n).ent a).state→dJ (S.C a).ops (S.C b).ops (ofL n)=true→(b:Int)∈((S.B n).ent a).first
theorem gB.self {S:Sys} {a b:Nat} (hb:b<32) (h:gB S a b):(S.C b).fixed=true∧b≠a:=h.fixed b hb ((b8 _ hb b).2 (.refl b))
theorem gB.new {S:Sys} {a b:Nat} (hI:fH S) (ha:a<32) (hz:(S.C a).begun=false) {m:Nat} (hm:m<6) (sm:gX (S.B m)) (hd:b∈(S.B m).did) (c:aE) (hc:c.begun=true) (N:aC→Prop):
  gB ⟨S.B,upd S.C a c,N⟩ a b:=by
 have hD:=hI.sorted hm sm
 have hb:=hD.lt b hd
 have na:∀d,d<32→(S.C d).fixed=true→d≠a:=fun d hd32 hf e=>by
  subst e
  rw[(hI.most d hd32 hf).1] at hz;cases hz
 have fixedD:∀d∈(S.B m).did,(S.C d).fixed=true:=fun d hdd=>hI.did_fixed hm (hD.lt d hdd) hdd
 have same:∀d,bR S.graph b d=bR (Sys.graph ⟨S.B,upd S.C a c,N⟩) b d:=by
  intro d
  refine qN (P:=fun x=>x∈(S.B m).did) hD.lt (fun x hx y=>?_) (fun x y hx e=>hD.closed x hx y (aX.adj_lt _ x y e) ((b8 _ (hD.lt x hx) y).2 (.one e))) hd d
  have hne:=na x (hD.lt x hx) (fixedD x hx)
  have e:upd S.C a c x=S.C x:=aI _ _ hne
  unfold aX.adj Sys.graph
  simp only[e]
 refine⟨fun d hd32 hbd=>?_,by show (upd S.C a c a).begun=true;rw[aQ];exact hc,fun n hn _ h1 _=>?_⟩
 ·rw[←same] at hbd
  have hdd:=hD.closed b hd d hd32 hbd
  have hne:=na d hd32 (fixedD d hdd)
  refine⟨?_,hne⟩
  show (upd S.C a c d).fixed=true
  rw[aI _ _ hne]
  exact fixedD d hdd
 ·exfalso
  have:=(hI.ent1 n hn a ha h1).1
  rw[hz] at this;cases this
theorem gB.later {S T:Sys} {a b:Nat} (hI:fH S) (ha:a<32) (hb:b<32) (h:gB S a b)
  (hf:∀d,d<32→(S.C d).fixed=true→(T.C d).fixed=true∧(T.C d).deps=(S.C d).deps∧(T.C d).told=(S.C d).told)
  (hbg:∀d,d<32→(S.C d).begun=true→(T.C d).begun=true∧(T.C d).ops=(S.C d).ops)
  (hB:∀n,n<6→1≤((S.B n).ent a).state→((T.B n).ent a).first=((S.B n).ent a).first)
  (hN:∀n,n<6→((S.B n).ent a).state<1→1≤((T.B n).ent a).state→1≤((S.B n).ent b).state→dJ (S.C b).ops (S.C a).ops (ofL n)=true→(b:Int)∈((T.B n).ent a).first):gB T a b:=by
 obtain⟨fb,hne⟩:=h.self hb
 have same:∀d,bR S.graph b d=bR T.graph b d:=by
  intro d
  refine qN (P:=fun x=>x<32∧bR S.graph b x=true) (fun x hx=>hx.1) (fun x hx y=>?_) (fun x y hx e=>?_) ⟨hb,(b8 _ hb b).2 (.refl b)⟩ d
  ·obtain⟨fx,_⟩:=h.fixed x hx.1 hx.2
   obtain⟨e1,e2,_⟩:=hf x hx.1 fx
   unfold aX.adj Sys.graph
   simp only[fx,e1,e2]
  ·have hy:=aX.adj_lt _ x y e
   exact⟨hy,(b8 _ hb y).2 (((b8 _ hb x).1 hx.2).trans (.one e))⟩
 have opsa:=(hbg a ha h.begun)
 have opsb:=(hbg b hb (hI.most b hb fb).1)
 refine⟨fun d hd hbd=>?_,opsa.1,fun n hn ht h1 hc=>?_⟩
 ·rw[←same] at hbd
  obtain⟨fd,hda⟩:=h.fixed d hd hbd
  exact⟨(hf d hd fd).1,hda⟩
 ·rw[(hf b hb fb).2.2] at ht
  rw[opsa.2,opsb.2] at hc
  by_cases h0:1≤((S.B n).ent a).state
  ·rw[hB n hn h0]
   exact h.first n hn ht h0 hc
  ·exact hN n hn (by omega) h1 (hI.told b hb n hn ht).1 (by rw[rK];exact hc)
theorem yN (sh:Int):∀(l:List (Int × Int)) (c:aE) (k:Nat),(c.dones sh l).has k=true→c.has k=true∨∃p∈l,p.1.toNat=k∧(c.dones sh l).vals k=p.2
 | [],_,_,h=>Or.inl h
 | p::l,c,k,h=>by
  have e:c.dones sh (p::l)=(aE.done1 sh c p).dones sh l:=rfl
  rw[e] at h ⊢
  rcases yN sh l (aE.done1 sh c p) k h with h1 | ⟨q,hq,h1,h2⟩
  ·by_cases hc:c.has k=true
   ·exact Or.inl hc
   ·right
    refine⟨p,by simp,?_⟩
    have kv:=((pL sh l (aE.done1 sh c p)).2 k h1).2
    rw[kv]
    unfold aE.done1 at h1 ⊢
    split at h1
    ·rename_i hp
     rw[if_pos hp]
     have h1:upd c.has p.1.toNat true k=true:=h1
     by_cases ek:k=p.1.toNat
     ·refine⟨ek.symm,?_⟩
      show upd c.vals p.1.toNat p.2 k=p.2
      rw[ek,aQ]
     ·rw[aI _ _ ek] at h1
      exact absurd h1 hc
    ·exact absurd h1 hc
  ·exact Or.inr ⟨q,by simp[hq],h1,h2⟩
theorem AR:∀(l:Int) (n:Nat) (zs:List Int),dO l n zs=true→∀z∈zs,l<z
 | _,_,[],_=>by simp
 | l,n,k::r,h=>by
  unfold dO at h
  simp only[Bool.and_eq_true,decide_eq_true_iff] at h
  intro z hz
  rcases List.mem_cons.1 hz with e | e
  ·rw[e];exact h.1.1
  ·have:=AR k n r h.2 z e
   omega
theorem JT {c:aE} {id:Int} {f:aC} {k:Nat} (h:(aP c id f).1.has k=true):c.has k=true∨(f.kind=5∧∃p∈f.ats.zip f.vals,p.1.toNat=k∧(aP c id f).1.vals k=p.2):=by
 unfold aP at *
 split
 ·rename_i h1;rw[if_pos h1] at h;exact Or.inl h
 ·rename_i h1
  rw[if_neg h1] at h
  split
  ·rename_i h2;rw[if_pos h2] at h;exact Or.inl h
  ·rename_i h2
   rw[if_neg h2] at h
   split
   ·rename_i h3;rw[if_pos h3] at h;exact Or.inl h
   ·rename_i h3
    rw[if_neg h3] at h
    split
    ·rename_i h4
     rw[if_pos h4] at h
     split at h<;>exact Or.inl h
    ·rename_i h4
     rw[if_neg h4] at h
     split
     ·rename_i h5;rw[if_pos h5] at h;exact Or.inl h
     ·rename_i h5
      rw[if_neg h5] at h
      split
      ·rename_i h6;rw[if_pos h6] at h;exact Or.inl h
      ·rename_i h6
       rw[if_neg h6] at h
       have hk:f.kind=5:=by
        have hg:aM f=0:=by
         by_cases e:aM f=0
         ·exact e
         ·exact absurd e h2
        unfold aM at hg
        split at hg
        ·exact absurd hg (by decide)
        ·rename_i hk
         omega
       rcases yN (ofL f.node) _ c k h with e | e
       ·exact Or.inl e
       ·exact Or.inr ⟨hk,e⟩
structure eX (S:Sys):Prop where
 s:fH S
 sort:∀n,n<6→gX (S.B n)
 val:∀n:Nat,n<6→jI (ofL (n:Int)) (S.B n)
 state:∀n,n<6→∀j,0≤((S.B n).ent j).state
 case:∀i,i<32→(S.C i).begun=true→nS (S.C i).ops (S.C i)
 zero:∀i,i<32→(S.C i).begun=false→S.C i=cB
 has:∀i,i<32→∀k,(S.C i).has k=true→∃m,m<6∧((S.B m).ent i).state=3∧((k:Int),(S.C i).vals k)∈((S.B m).ent i).ats.zip ((S.B m).ent i).vals
theorem eX.start:eX ⟨fun _=>dR,fun _=>cB,fun _=>False⟩:=
 ⟨fH.zero,fun _ _=>JR,fun _ _=>MJ _,fun _ _ _=>Int.le_refl _,fun i _ h=>(by cases h),fun _ _ _=>rfl,fun i _ k h=>(by cases h)⟩
theorem eX.node {S:Sys} (h:eX S) {f:aC} (hM:S.M f) (hk:f.kind=1∨f.kind=3) (h0:(aL (S.B f.node.toNat) f.node f).2.2=0):
  eX ⟨upd S.B f.node.toNat (aL (S.B f.node.toNat) f.node f).1,S.C,fun g=>S.M g∨g∈(aL (S.B f.node.toNat) f.node f).2.1⟩:=by
 obtain⟨hr1,hr2⟩:=h.s.rng f hM
 have hn6:f.node.toNat<6:=by omega
 have hnat:(f.node.toNat:Int)=f.node:=by omega
 have K:=mY (S.B f.node.toNat) f.node f (h.state _ hn6)
 refine⟨h.s.node hM hk h0,fun n hn=>?_,fun n hn=>?_,fun n hn j=>?_,h.case,h.zero,fun i hi k hh=>?_⟩
 ·show gX (upd S.B f.node.toNat _ n)
  by_cases e:n=f.node.toNat
  ·rw[e,aQ];exact JX (h.sort _ hn6)
  ·rw[aI _ _ e];exact h.sort n hn
 ·show jI (ofL (n:Int)) (upd S.B f.node.toNat _ n)
  by_cases e:n=f.node.toNat
  ·rw[e,aQ,hnat]
   have:=h.val _ hn6
   rw[hnat] at this
   exact MI this
  ·rw[aI _ _ e];exact h.val n hn
 ·show 0≤((upd S.B f.node.toNat _ n).ent j).state
  by_cases e:n=f.node.toNat
  ·rw[e,aQ]
   exact Int.le_trans (h.state _ hn6 j) (K.state j)
  ·rw[aI _ _ e];exact h.state n hn j
 ·obtain⟨m,hm,h3,hz⟩:=h.has i hi k hh
  refine⟨m,hm,?_⟩
  show ((upd S.B f.node.toNat (aL (S.B f.node.toNat) f.node f).1 m).ent i).state=3∧_∈((upd S.B f.node.toNat (aL (S.B f.node.toNat) f.node f).1 m).ent i).ats.zip ((upd S.B f.node.toNat (aL (S.B f.node.toNat) f.node f).1 m).ent i).vals
  by_cases e:m=f.node.toNat
  ·subst e
   rw[aQ]
   have same:=K.done i h3
   rw[same]
   exact⟨h3,hz⟩
  ·rw[aI _ _ e]
   exact⟨h3,hz⟩
theorem e8 (C:Nat→aE) (i:Nat) (c:aE):∀j,(j=i∧upd C i c j=c)∨(j≠i∧upd C i c j=C j):=by
 intro j
 by_cases e:j=i
 ·exact Or.inl ⟨e,by rw[e,aQ]⟩
 ·exact Or.inr ⟨e,aI _ _ e⟩
theorem eX.answer {S:Sys} (h:eX S) {f:aC} (hM:S.M f) (h0:(aP (S.C f.id.toNat) f.id f).2.2=0):
  eX ⟨S.B,upd S.C f.id.toNat (aP (S.C f.id.toNat) f.id f).1,fun g=>S.M g∨g∈(aP (S.C f.id.toNat) f.id f).2.1⟩:=by
 obtain⟨hr1,hr2⟩:=h.s.rng f hM
 have hi32:f.id.toNat<32:=by omega
 have hn6:f.node.toNat<6:=by omega
 obtain⟨hb,_⟩:=pR h0
 obtain⟨rs,kv⟩:=BY (id:=f.id) (f:=f) (h.case _ hi32 hb)
 refine⟨h.s.case hM h0,h.sort,h.val,h.state,fun i hi e=>?_,fun i hi e=>?_,fun i hi k hh=>?_⟩
 ·have e:(upd S.C f.id.toNat (aP (S.C f.id.toNat) f.id f).1 i).begun=true:=e
  show nS (upd S.C f.id.toNat (aP (S.C f.id.toNat) f.id f).1 i).ops (upd S.C f.id.toNat (aP (S.C f.id.toNat) f.id f).1 i)
  rcases e8 S.C f.id.toNat (aP (S.C f.id.toNat) f.id f).1 i with ⟨_,e2⟩ | ⟨_,e2⟩
  ·rw[e2,rs.eops];exact rs
  ·rw[e2] at e ⊢;exact h.case i hi e
 ·have e:(upd S.C f.id.toNat (aP (S.C f.id.toNat) f.id f).1 i).begun=false:=e
  show upd S.C f.id.toNat (aP (S.C f.id.toNat) f.id f).1 i=cB
  rcases e8 S.C f.id.toNat (aP (S.C f.id.toNat) f.id f).1 i with ⟨_,e2⟩ | ⟨_,e2⟩
  ·rw[e2,rs.begun] at e;cases e
  ·rw[e2] at e ⊢;exact h.zero i hi e
 ·have hh:(upd S.C f.id.toNat (aP (S.C f.id.toNat) f.id f).1 i).has k=true:=hh
  show ∃m,m<6∧((S.B m).ent i).state=3∧((k:Int),(upd S.C f.id.toNat (aP (S.C f.id.toNat) f.id f).1 i).vals k)∈((S.B m).ent i).ats.zip ((S.B m).ent i).vals
  rcases e8 S.C f.id.toNat (aP (S.C f.id.toNat) f.id f).1 i with ⟨e1,e2⟩ | ⟨_,e2⟩
  ·rw[e2] at hh ⊢
   clear e2
   subst e1
   rename (aP (S.C f.id.toNat) f.id f).1.has k=true=>hh2
   rcases JT hh2 with e | ⟨hk,p,hp,h1,h2⟩
   ·rw[(kv k e).2]
    exact h.has _ hi32 k e
   ·obtain⟨d1,d2,d3⟩:=h.s.don f hM hk
    refine⟨f.node.toNat,hn6,d1,?_⟩
    rw[←d2,←d3,h2]
    have F:=(h.s.good _ hn6).fine hi32 (by rw[d1];decide)
    have hz:p.1∈f.ats:=(List.of_mem_zip (a:=p.1) (b:=p.2) hp).1
    rw[d2] at hz
    have:=AR _ _ _ F.ats _ hz
    have e:(k:Int)=p.1:=by omega
    rw[e]
    exact hp
  ·rw[e2] at hh ⊢;exact h.has i hi k hh
theorem eX.again {S:Sys} (h:eX S) {i:Nat} (hi:i<32):eX ⟨S.B,S.C,fun g=>S.M g∨g∈cR (S.C i) (i:Int)⟩:=
 ⟨h.s.again hi,h.sort,h.val,h.state,h.case,h.zero,h.has⟩
theorem eX.begin {S:Sys} (h:eX S) {i:Nat} (hi:i<32) (hb:(S.C i).begun=false) {ops:List OpL} (h0:(bF (i:Int) ops).2.2=0):
  eX ⟨S.B,upd S.C i (bF (i:Int) ops).1,fun g=>S.M g∨g∈(bF (i:Int) ops).2.1⟩:=by
 have rs:=zH h0
 have hz:=h.zero i hi hb
 have e:bF (i:Int) ops=({ cB with begun:=true,ops:=ops },cR { cB with begun:=true,ops:=ops } (i:Int),0):=by
  unfold bF at *
  split at h0
  ·exact absurd h0 (show (2:Int)≠0 by decide)
  ·rename_i h1
   rw[if_neg h1]
   split at h0
   ·exact absurd h0 (show (1:Int)≠0 by decide)
   ·rename_i h2
    rw[if_neg h2]
 rw[e] at rs ⊢
 refine⟨h.s.begin hi hz ops,h.sort,h.val,h.state,fun j hj eb=>?_,fun j hj eb=>?_,fun j hj k hh=>?_⟩
 ·have eb:(upd S.C i { cB with begun:=true,ops:=ops } j).begun=true:=eb
  show nS (upd S.C i { cB with begun:=true,ops:=ops } j).ops (upd S.C i { cB with begun:=true,ops:=ops } j)
  rcases e8 S.C i { cB with begun:=true,ops:=ops } j with ⟨_,e2⟩ | ⟨_,e2⟩
  ·rw[e2];exact rs
  ·rw[e2] at eb ⊢;exact h.case j hj eb
 ·have eb:(upd S.C i { cB with begun:=true,ops:=ops } j).begun=false:=eb
  show upd S.C i { cB with begun:=true,ops:=ops } j=cB
  rcases e8 S.C i { cB with begun:=true,ops:=ops } j with ⟨_,e2⟩ | ⟨_,e2⟩
  ·rw[e2] at eb;cases eb
  ·rw[e2] at eb ⊢;exact h.zero j hj eb
 ·have hh:(upd S.C i { cB with begun:=true,ops:=ops } j).has k=true:=hh
  show ∃m,m<6∧((S.B m).ent j).state=3∧((k:Int),(upd S.C i { cB with begun:=true,ops:=ops } j).vals k)∈((S.B m).ent j).ats.zip ((S.B m).ent j).vals
  rcases e8 S.C i { cB with begun:=true,ops:=ops } j with ⟨_,e2⟩ | ⟨_,e2⟩
  ·rw[e2] at hh;cases hh
  ·rw[e2] at hh ⊢;exact h.has j hj k hh
theorem oJ {zs:List OpL} (h:bM zs=true):∀o∈zs,0≤o.2.1∧o.2.1<8:=by
 intro o ho
 unfold bM at h
 rw[Bool.and_eq_true] at h
 obtain⟨i,hi,e⟩:=List.getElem_of_mem ho
 have:=List.all_eq_true.1 h.2 i (List.mem_range.2 hi)
 unfold jM at this
 rw[Bool.and_eq_true] at this
 have g:=this.1
 rw[List.getD_eq_getElem?_getD,List.getElem?_eq_getElem hi,Option.getD_some,e] at g
 unfold fL at g
 have:=of_decide_eq_true g
 exact⟨this.1,this.2.1⟩
theorem eX.ops {S:Sys} (h:eX S) {i:Nat} (hi:i<32) (hb:(S.C i).begun=true):bM (S.C i).ops=true:=by
 have g:=(h.case i hi hb).good
 rw[kD hb,Bool.and_eq_true] at g
 exact g.1
theorem eX.keys {S:Sys} (h:eX S):∀y,y<32→(S.C y).fixed=true→∀o∈(S.C y).ops,0≤o.2.1:=
 fun y hy fy o ho=>(oJ (h.ops hy (h.s.most y hy fy).1) o ho).1
theorem eX.told {S:Sys} (h:eX S) {x:Nat} (hx:x<32) {k:Nat} (hk:(S.C x).has k=true):
  ∃pre post,bA S.graph 32=pre++x::post∧k<(S.C x).ops.length∧(dG (S.C x).ops (serial (fun y=>(S.C y).ops) pre fun _=>0)).2[k]? =some ((S.C x).vals k):=by
 obtain⟨m,hm,h3,hz⟩:=h.has x hx k hk
 have hd:=(lL (h.s.good m hm) hx).2 h3
 obtain⟨pre,post,e,ha⟩:=h.s.serial_all hm (h.sort m hm) (h.val m hm) h.keys hd
 obtain⟨p,h1,h2,h4⟩:=ha _ _ hz
 have:p=k:=by omega
 subst this
 exact⟨pre,post,e,h1,h4⟩
theorem rH {L:List Nat} (hd:L.Nodup) {x:Nat} {p q p' q':List Nat} (h:L=p++x::q) (k:L=p'++x::q'):p=p':=by
 have no:∀{p q:List Nat},L=p++x::q→x ∉ p:=fun {p q} e hp=>by
  rw[e,List.nodup_append] at hd
  exact hd.2.2 x hp x (by simp) rfl
 have e1:L.idxOf x=p.length:=by rw[h];exact sJ (no h)
 have e2:L.idxOf x=p'.length:=by rw[k];exact sJ (no k)
 have:p++x::q=p'++x::q':=by rw[←h,k]
 exact (List.append_inj this (by omega)).1
theorem eX.result {S:Sys} (h:eX S) {x:Nat} (hx:x<32) (hb:(S.C x).begun=true) (hr:(bN (S.C x)).2=true):
  ∃pre post,bA S.graph 32=pre++x::post∧(bN (S.C x)).1=(dG (S.C x).ops (serial (fun y=>(S.C y).ops) pre fun _=>0)).2∧(bN (S.C x)).1≠[]:=by
 have R:=h.case x hx hb
 have hg:=h.ops hx hb
 obtain⟨h1,h2⟩:=BX R hr
 have hp:0<(S.C x).ops.length:=by
  unfold bM at hg
  simp at hg
  omega
 obtain⟨pre,post,e,_,_⟩:=h.told hx (h1 0 hp)
 have nd:=(gQ S.graph 32 (Nat.le_refl _)).1.nodup
 refine⟨pre,post,e,?_,?_⟩
 ·rw[h2]
  refine List.ext_getElem? fun k=>?_
  by_cases hk:k<(S.C x).ops.length
  ·obtain⟨p',q',e',_,t⟩:=h.told hx (h1 k hk)
   rw[rH nd e e',t]
   simp[hk]
  ·rw[List.getElem?_eq_none (by simp;omega),List.getElem?_eq_none (by rw[oC];omega)]
 ·intro e0
  have:=(NH R hr hg).1
  rw[e0] at this
  simp at this
  omega
theorem eX.somewhere {S:Sys} (h:eX S) {x:Nat} (hx:x<32) (hb:(S.C x).begun=true) (hr:(bN (S.C x)).2=true):∃m,m<6∧x∈(S.B m).did:=by
 have hg:=h.ops hx hb
 have hp:0<(S.C x).ops.length:=by
  unfold bM at hg
  simp at hg
  omega
 obtain⟨m,hm,h3,_⟩:=h.has x hx 0 ((BX (h.case x hx hb) hr).1 0 hp)
 exact⟨m,hm,(lL (h.s.good m hm) hx).2 h3⟩
theorem gB.node {S:Sys} (h:eX S) {a b:Nat} (ha:a<32) (hb:b<32) (L:gB S a b) {f:aC} (hM:S.M f) (hk:f.kind=1∨f.kind=3) (h0:(aL (S.B f.node.toNat) f.node f).2.2=0) (N:aC→Prop):
  gB ⟨upd S.B f.node.toNat (aL (S.B f.node.toNat) f.node f).1,S.C,N⟩ a b:=by
 obtain⟨hr1,hr2⟩:=h.s.rng f hM
 have hn6:f.node.toNat<6:=by omega
 have hnat:(f.node.toNat:Int)=f.node:=by omega
 have K:=mY (S.B f.node.toNat) f.node f (h.state _ hn6)
 obtain⟨fb,hne⟩:=L.self hb
 refine L.later h.s ha hb (fun d _ hf=>⟨hf,rfl,rfl⟩) (fun d _ hf=>⟨hf,rfl⟩) (fun n hn h1=>?_) (fun n hn h1 h2 h3 hc=>?_)
 ·show ((upd S.B f.node.toNat _ n).ent a).first=_
  by_cases e:n=f.node.toNat
  ·rw[e] at h1 ⊢
   rw[aQ]
   exact K.first a (by omega)
  ·rw[aI _ _ e]
 ·have h2:1≤((upd S.B f.node.toNat (aL (S.B f.node.toNat) f.node f).1 n).ent a).state:=h2
  show (b:Int)∈((upd S.B f.node.toNat (aL (S.B f.node.toNat) f.node f).1 n).ent a).first
  by_cases e:n=f.node.toNat
  ·rw[e] at h1 h2 h3 hc ⊢
   rw[aQ] at h2 ⊢
   rw[hnat] at hc
   have ea:a=f.id.toNat:=by
    by_cases ea:a=f.id.toNat
    ·exact ea
    ·have:=congrArg (fun c=>c.2.2.2.1) (mX (s:=S.B f.node.toNat) (who:=f.node) (f:=f) ea)
     have this:decide (1≤((aL (S.B f.node.toNat) f.node f).1.ent a).state)=decide (1≤((S.B f.node.toNat).ent a).state):=this
     rw[decide_eq_true h2,decide_eq_false (by omega)] at this
     cases this
   have hs0:=h.state _ hn6 a
   have first:((aL (S.B f.node.toNat) f.node f).1.ent a).first=(S.B f.node.toNat).ahead a f.ops (ofL f.node)∧f.ops=(S.C a).ops:=by
    rw[ea] at h1 hs0 ⊢
    rcases hk with hk | hk
    ·refine⟨?_,(h.s.ask f hM hk).2⟩
     rw[nX h0 hk,if_pos (by omega)]
    ·refine⟨?_,(h.s.com f hM hk).2.1⟩
     have:=lZ h0 hk
     rw[if_pos (by omega),if_pos (by omega)] at this
     exact congrArg (fun c=>c.2.1) this
   rw[first.1,first.2]
   exact oX.2 ⟨hb,hne,by omega,by rw[(h.s.ent1 _ hn6 b hb h3).2];exact hc⟩
  ·rw[aI _ _ e] at h2
   omega
theorem gB.setC {S:Sys} (h:eX S) {a b:Nat} (ha:a<32) (hb:b<32) (L:gB S a b) {i:Nat} (c:aE) (hf:(S.C i).fixed=true→c.fixed=true∧c.deps=(S.C i).deps∧c.told=(S.C i).told) (hg:(S.C i).begun=true→c.begun=true∧c.ops=(S.C i).ops) (N:aC→Prop):
  gB ⟨S.B,upd S.C i c,N⟩ a b:=by
 refine L.later h.s ha hb (fun d _ e=>?_) (fun d _ e=>?_) (fun n hn h1=>rfl) (fun n hn h1 h2 h3 hc=>absurd h2 (by show ¬ 1≤((S.B n).ent a).state;omega))
 ·show (upd S.C i c d).fixed=true∧(upd S.C i c d).deps=_∧(upd S.C i c d).told=_
  rcases e8 S.C i c d with ⟨e1,e2⟩ | ⟨_,e2⟩
  ·rw[e2]
   subst e1
   exact hf e
  ·rw[e2]
   exact⟨e,rfl,rfl⟩
 ·show (upd S.C i c d).begun=true∧(upd S.C i c d).ops=_
  rcases e8 S.C i c d with ⟨e1,e2⟩ | ⟨_,e2⟩
  ·rw[e2]
   subst e1
   exact hg e
  ·rw[e2]
   exact⟨e,rfl⟩
theorem gB.answer {S:Sys} (h:eX S) {a b:Nat} (ha:a<32) (hb:b<32) (L:gB S a b) (f:aC) (N:aC→Prop):gB ⟨S.B,upd S.C f.id.toNat (aP (S.C f.id.toNat) f.id f).1,N⟩ a b:=by
 refine L.setC h ha hb _ (fun e=>?_) (fun e=>?_) N
 ·rcases gF (S.C f.id.toNat) f.id f with ⟨_,h1,_⟩ | ⟨_,_,_,hf,_⟩ | ⟨_,_,_,hs,_⟩
  ·rw[h1];exact⟨e,rfl,rfl⟩
  ·rw[hf] at e;cases e
  ·exact⟨by rw[hs.fixed];exact e,hs.deps,hs.told⟩
 ·rcases gF (S.C f.id.toNat) f.id f with ⟨_,h1,_⟩ | ⟨_,_,_,_,_,_,he,_⟩ | ⟨_,_,_,hs,_⟩
  ·rw[h1];exact⟨e,rfl⟩
  ·rw[he];exact⟨e,rfl⟩
  ·exact⟨by rw[hs.begun];exact e,hs.ops⟩
theorem gB.begin {S:Sys} (h:eX S) {a b:Nat} (ha:a<32) (hb:b<32) (L:gB S a b) {i:Nat} (hi:i<32) (hz:(S.C i).begun=false) (c:aE) (N:aC→Prop):gB ⟨S.B,upd S.C i c,N⟩ a b:=
 L.setC h ha hb c (fun e=>by rw[(h.s.most i hi e).1] at hz;cases hz) (fun e=>by rw[e] at hz;cases hz) N
theorem gB.sent {S:Sys} {a b:Nat} (L:gB S a b) (N:aC→Prop):gB ⟨S.B,S.C,N⟩ a b:=⟨L.fixed,L.begun,L.first⟩
theorem eX.late {S:Sys} (h:eX S) {a b:Nat} (ha:a<32) (hb:b<32) (hz:(S.C a).begun=false) (hbb:(S.C b).begun=true) (hr:(bN (S.C b)).2=true) (c:aE) (hc:c.begun=true) (N:aC→Prop):gB ⟨S.B,upd S.C a c,N⟩ a b:=by
 obtain⟨m,hm,hd⟩:=h.somewhere hb hbb hr
 exact gB.new h.s ha hz hm (h.sort m hm) hd c hc N
def iY (s:aA):Prop:=∀i,∀v∈(s.ent i).vals,kF v
theorem q7 (sh:Int):∀(ops:List OpL) (i:Nat) (v:Nat→Int),∀w∈(b7 sh i ops v).2.2,kF w
 | [],_,_,w,h=>by simp[b7] at h
 | o::r,i,v,w,h=>by
  unfold b7 at h
  split at h
  ·rcases List.mem_cons.1 h with e | e
   ·rw[e];exact yM _ _ _
   ·exact q7 sh r (i+1) _ w e
  ·exact q7 sh r (i+1) _ w h
theorem J4:iY dR:=by intro i v h;simp[dR,kE] at h
theorem J3 {s:aA} (h:iY s) (sh:Int) (n:Nat):iY (s.exec sh n):=by
 intro i v hv
 by_cases e:i=n
 ·subst e
  have:((s.exec sh i).ent i).vals=(b7 sh 0 (s.ent i).ops s.vals).2.2:=congrArg cX.vals (aQ _ _ _)
  rw[this] at hv
  exact q7 _ _ _ _ v hv
 ·have:(s.exec sh n).ent i=s.ent i:=aI _ _ e
  rw[this] at hv
  exact h i v hv
theorem wY (sh:Int):∀(l:List Nat) {s:aA},iY s→iY (s.execs sh l)
 | [],_,h=>h
 | a::l,s,h=>by
  have h1:iY (aA.execIf sh s a):=by
   unfold aA.execIf
   split
   ·exact J3 h sh a
   ·exact h
  exact wY (s:=aA.execIf sh s a) sh l h1
theorem DU {s:aA} (h:iY s) (sh:Int):iY (s.settle sh):=by
 have:∀(l:List Nat) (t:aA),iY t→iY (l.foldl (aA.round s.graph sh) t):=by
  intro l
  induction l with
  | nil=>exact fun t ht=>ht
  | cons a l ih=>
   intro t ht
   refine ih _ ?_
   unfold aA.round
   split
   ·exact wY (s:=t) sh _ ht
   ·exact ht
 exact this _ s h
theorem zU {s:aA} {who:Int} {f:aC} (h:iY s):iY (aL s who f).1:=by
 rcases dN s who f with ⟨_,h1,_⟩ | ⟨_,_,_,_,_,_,⟨_,_,e⟩ | ⟨_,e⟩⟩
 ·rw[h1];exact h
 ·rw[e]
  show iY (s.asked (ofL who) f)
  unfold aA.asked
  split
  ·intro i v hv
   by_cases ei:i=f.id.toNat
   ·rw[ei,jO] at hv
    simp at hv
   ·rw[fB s _ f ei] at hv
    exact h i v hv
  ·exact h
 ·rw[e]
  show iY (s.commit (ofL who) f)
  unfold aA.commit
  split
  ·refine DU (fun i v hv=>?_) _
   by_cases ei:i=f.id.toNat
   ·rw[ei,kR] at hv
    exact h _ v hv
   ·have:(s.placed (ofL who) f).ent i=s.ent i:=aI _ _ ei
    rw[this] at hv
    exact h i v hv
  ·exact h
theorem zQ:∀(xs vs:List Int) (l:Int) (n:Nat),n≤4→dO l n xs=true→(∀v∈vs,kF v)→cE l xs vs=true
 | [],_,_,_,_,_,_=>by unfold cE;rfl
 | _::_,[],_,_,_,_,_=>by unfold cE;rfl
 | a::xs,v::vs,l,n,hn,ha,hv=>by
  unfold dO at ha
  simp only[Bool.and_eq_true,decide_eq_true_iff] at ha
  unfold cE
  have hw:=hv v (by simp)
  rw[zQ xs vs a n hn ha.2 (fun w h=>hv w (by simp[h])),show decide (-1099511627776≤v∧v≤1099511627776)=true from decide_eq_true hw]
  have:(decide (a≤l) || decide (4≤a))=false:=by
   rw[Bool.or_eq_false_iff]
   exact⟨decide_eq_false (by omega),decide_eq_false (by omega)⟩
  rw[this]
  rfl
theorem IF {zs:List OpL} (h:bM zs=true):zs.length≤4:=(I2 h).1
theorem pG {s:aA} {who:Int} {f:aC} (hw:iY s):∀g∈(aL s who f).2.1,aM g=0∧g.kind≠1∧g.kind≠3:=by
 intro g hg
 have hw':=zU (who:=who) (f:=f) hw
 have hgood:(aL s who f).2.2=0→bS (aL s who f).1:=zN
 rcases dN s who f with ⟨_,_,h1⟩ | ⟨_,hf,h0,hn,w0,w5,⟨_,_,e⟩ | ⟨_,e⟩⟩
 ·rw[h1] at hg;simp at hg
 ·have G:=hgood h0
  obtain⟨i1,i2,_⟩:=kA hf
  rw[e] at hg G
  have hg:g∈[(⟨2,who,f.id,[],((s.asked (ofL who) f).ent f.id.toNat).first,[],[]⟩:aC)]:=hg
  rw[List.mem_singleton] at hg
  subst hg
  have G:bS (s.asked (ofL who) f):=G
  have hfi:bE (-1) ((s.asked (ofL who) f).ent f.id.toNat).first=true∧dK ((s.asked (ofL who) f).ent f.id.toNat).first f.id=false:=by
   rcases G.ent f.id.toNat (by omega) with e | F
   ·rw[e];exact⟨rfl,rfl⟩
   ·have:=F.first
    rw[show ((f.id.toNat:Nat):Int)=f.id by omega] at this
    exact this
  refine⟨?_,(show (2:Int)≠1 by decide),(show (2:Int)≠3 by decide)⟩
  unfold aM eJ dQ dX
  simp only[hfi.1,hfi.2]
  rw[if_neg (by decide),if_neg (by omega)]
  rfl
 ·have G:=hgood h0
  obtain⟨i1,i2,_⟩:=kA hf
  rw[e] at hg G hw'
  have hg:g∈(s.commit (ofL who) f).answers (ofL who) who f.id:=hg
  have G:bS (s.commit (ofL who) f):=G
  have hw':iY (s.commit (ofL who) f):=hw'
  unfold aA.answers at hg
  rcases List.mem_cons.1 hg with hg | hg
  ·subst hg
   refine⟨?_,(show (4:Int)≠1 by decide),(show (4:Int)≠3 by decide)⟩
   unfold aM eJ dQ dX
   simp only
   rw[if_neg (by decide),if_neg (by omega)]
   rfl
  ·split at hg
   ·rename_i h3
    rw[List.mem_singleton] at hg
    subst hg
    refine⟨?_,(show (5:Int)≠1 by decide),(show (5:Int)≠3 by decide)⟩
    have F:=G.fine (n:=f.id.toNat) (by omega) (by rw[h3.1];decide)
    have t:=zQ _ ((s.commit (ofL who) f).ent f.id.toNat).vals (-1) _ (IF F.ops) F.ats (hw' _)
    unfold aM eJ dQ dX
    simp only[t,F.vals]
    rw[if_neg (by decide),if_neg (by omega)]
    simp
   ·simp at hg
theorem lI {c:aE} {id:Int} {g:aC} (h:g∈cR c id):aM g=0:=by
 obtain⟨hb,hid,hn,eid,eops,_⟩:=oW h
 unfold cR at h
 split at h
 ·simp at h
 ·rename_i hno
  have hg:eB c=true:=by
   cases e:eB c
   ·exact absurd (Or.inl e) hno
   ·rfl
  have hd:dK c.deps id=false:=by
   cases e:dK c.deps id
   ·rfl
   ·exact absurd (Or.inr (Or.inr (Or.inr (Or.inr e)))) hno
  rw[kD hb,Bool.and_eq_true] at hg
  obtain⟨n,hn6,hg1⟩:=List.mem_flatMap.1 h
  have hn6:=List.mem_range.1 hn6
  unfold aE.send at hg1
  split at hg1
  ·split at hg1
   ·rw[List.mem_singleton] at hg1
    subst hg1
    unfold aM eJ dQ dX
    simp only[hg.1,hg.2,hd]
    rw[if_neg (by decide),if_neg (by omega)]
    rfl
   ·simp at hg1
  ·split at hg1
   ·rw[List.mem_singleton] at hg1
    subst hg1
    unfold aM eJ dQ dX
    simp only[hg.1]
    rw[if_neg (by decide),if_neg (by omega)]
    rfl
   ·simp at hg1
def kZ (s:aA):Prop:=∀i,i<32→(s.ent i).state=2→iV s.graph (i:Int)=false
theorem CB:kZ dR:=fun i _ h=>absurd h (show (0:Int)≠2 by decide)
theorem A0 (s:aA) (sh:Int) (n:Nat):(aA.execIf sh s n).graph=s.graph:=by
 unfold aA.execIf
 split
 ·rename_i h;exact vZ s sh n h
 ·rfl
theorem uA (sh:Int):∀(l:List Nat) (s:aA),(s.execs sh l).graph=s.graph
 | [],_=>rfl
 | a::l,s=>(uA sh l (aA.execIf sh s a)).trans (A0 s sh a)
theorem ES {s:aA} {sh:Int} {n i:Nat} (h:((aA.execIf sh s n).ent i).state=2):(s.ent i).state=2∧i≠n:=by
 unfold aA.execIf at h
 split at h
 ·rename_i e
  by_cases ei:i=n
  ·subst ei
   have:((s.exec sh i).ent i).state=3:=congrArg cX.state (aQ _ _ _)
   rw[this] at h
   exact absurd h (by decide)
  ·have:(s.exec sh n).ent i=s.ent i:=aI _ _ ei
   rw[this] at h
   exact⟨h,ei⟩
 ·rename_i e
  exact⟨h,fun k=>e (k ▸ h)⟩
theorem sG (sh:Int):∀(l:List Nat) {s:aA} {i:Nat},((s.execs sh l).ent i).state=2→(s.ent i).state=2∧i ∉ l
 | [],_,_,h=>⟨h,by simp⟩
 | a::l,s,i,h=>by
  obtain⟨h1,h2⟩:=sG sh l (s:=aA.execIf sh s a) h
  obtain⟨h3,h4⟩:=ES h1
  exact⟨h3,by simp[h2,h4]⟩
theorem DJ (g:aX) (sh:Int) (t:aA) (n:Nat):(aA.round g sh t n).graph=t.graph:=by
 unfold aA.round
 split
 ·exact uA sh _ t
 ·rfl
theorem zJ {g:aX} {sh:Int} {t:aA} {n i:Nat} (h:((aA.round g sh t n).ent i).state=2):(t.ent i).state=2:=by
 unfold aA.round at h
 split at h
 ·exact (sG sh _ h).1
 ·exact h
theorem FN {g:aX} {n:Nat} (hn:n<32) (hr:iV g (n:Int)=true):n∈cT g (n:Int):=by
 rw[nN hn,if_pos hr]
 exact (qS (oH g hn) n).2 ((b8 g hn n).2 (.refl n))
theorem GF {g:aX} {sh:Int} {t:aA} {n:Nat} (hn:n<32) (hr:iV g (n:Int)=true):((aA.round g sh t n).ent n).state≠2:=by
 intro h
 have h2:=zJ h
 unfold aA.round at h
 rw[if_pos h2] at h
 exact (sG sh _ h).2 (FN hn hr)
theorem B9 (s:aA) (sh:Int):kZ (s.settle sh)∧(s.settle sh).graph=s.graph:=by
 have:∀k,k≤32→(∀i,i<k→(((List.range k).foldl (aA.round s.graph sh) s).ent i).state=2→iV s.graph (i:Int)=false)∧((List.range k).foldl (aA.round s.graph sh) s).graph=s.graph:=by
  intro k
  induction k with
  | zero=>exact fun _=>⟨fun i hi=>absurd hi (Nat.not_lt_zero i),rfl⟩
  | succ k ih=>
   intro hk
   obtain⟨i1,i2⟩:=ih (by omega)
   rw[List.range_succ,List.foldl_append]
   refine⟨fun i hi h=>?_,?_⟩
   ·have h:((aA.round s.graph sh ((List.range k).foldl (aA.round s.graph sh) s) k).ent i).state=2:=h
    by_cases e:i<k
    ·exact i1 i e (zJ h)
    ·obtain rfl:i=k:=by omega
     cases hr:iV s.graph (i:Int)
     ·rfl
     ·exact absurd h (GF (by omega) hr)
   ·exact (DJ s.graph sh _ k).trans i2
 obtain⟨h1,h2⟩:=this 32 (Nat.le_refl _)
 refine⟨fun i hi h=>?_,h2⟩
 have e:(s.settle sh).graph=s.graph:=h2
 rw[e]
 exact h1 i hi h
theorem CA {s:aA} {who:Int} {f:aC} (h:kZ s):kZ (aL s who f).1:=by
 rcases dN s who f with ⟨_,h1,_⟩ | ⟨hg,hf,_,_,_,_,⟨hk,_,e⟩ | ⟨hk,e⟩⟩
 ·rw[h1];exact h
 ·rw[e]
  show kZ (s.asked (ofL who) f)
  intro i hi h2
  rw[pM hg (ofL who) hf]
  refine h i hi ?_
  unfold aA.asked at h2
  split at h2
  ·by_cases ei:i=f.id.toNat
   ·rw[ei,jO] at h2
    exact absurd h2 (show (1:Int)≠2 by decide)
   ·rw[fB s _ f ei] at h2
    exact h2
  ·exact h2
 ·rw[e]
  show kZ (s.commit (ofL who) f)
  unfold aA.commit
  split
  ·exact (B9 _ _).1
  ·exact h
def Sys.took (S:Sys) (f:aC):Sys:=⟨upd S.B f.node.toNat (aL (S.B f.node.toNat) f.node f).1,S.C,fun g=>S.M g∨g∈(aL (S.B f.node.toNat) f.node f).2.1⟩
structure j0 (S:Sys):Prop where
 own:∀i:Nat,i<32→dK (S.C i).deps (i:Int)=false
 most:∀i,i<32→(S.C i).begun=true→(S.C i).fixed=false→dZ (S.C i).ops (S.C i).told=false
 kn:∀f,S.M f→f.kind=4→2≤((S.B f.node.toNat).ent f.id.toNat).state
 known:∀i,i<32→∀k,k<6→(S.C i).known k=true→2≤((S.B k).ent i).state
 settled:∀n,n<6→kZ (S.B n)
 ask:∀f,S.M f→f.kind=1→bK f.ops (ofL f.node)=true
 first:∀n,n<6→∀i,i<32→∀d:Nat,(d:Int)∈((S.B n).ent i).first→(S.C d).begun=true
 deps:∀i,i<32→∀d:Nat,(d:Int)∈(S.C i).deps→(S.C d).begun=true
theorem j0.start:j0 ⟨fun _=>dR,fun _=>cB,fun _=>False⟩:=by
 refine⟨fun _ _=>rfl,fun i _ h=>?_,fun _ h=>h.elim,fun i _ k _ h=>?_,fun _ _=>CB,fun _ h=>h.elim,fun n _ i _ d h=>?_,fun i _ d h=>?_⟩
 ·cases h
 ·cases h
 ·have h:(d:Int)∈([]:List Int):=h
  simp at h
 ·have h:(d:Int)∈([]:List Int):=h
  simp at h
theorem GN {s:aA} {who:Int} {f:aC} (h0:∀n,0≤(s.ent n).state) (i:Nat):(s.ent i).state≤((aL s who f).1.ent i).state:=(mY s who f h0).state i
theorem j0.node {S:Sys} (h:eX S) (u:j0 S) {f:aC} (hM:S.M f) (hk:f.kind=1∨f.kind=3) (h0:(aL (S.B f.node.toNat) f.node f).2.2=0):j0 (S.took f):=by
 obtain⟨hr1,hr2⟩:=h.s.rng f hM
 have hn6:f.node.toNat<6:=by omega
 have hnat:(f.node.toNat:Int)=f.node:=by omega
 have st:∀n,n<6→∀i,((S.B n).ent i).state≤(((S.took f).B n).ent i).state:=fun n hn i=>by
  show _≤((upd S.B f.node.toNat (aL (S.B f.node.toNat) f.node f).1 n).ent i).state
  by_cases e:n=f.node.toNat
  ·subst e
   rw[aQ];exact GN (h.state _ hn6) i
  ·rw[aI _ _ e];exact Int.le_refl _
 have K:=mY (S.B f.node.toNat) f.node f (h.state _ hn6)
 refine⟨u.own,u.most,fun g hg hg4=>?_,fun i hi k hk6 hkn=>Int.le_trans (u.known i hi k hk6 hkn) (st k hk6 i),fun n hn=>?_,fun g hg hg1=>?_,fun n hn i hi d hd=>?_,u.deps⟩
 ·rcases hg with hg | hg
  ·obtain⟨q1,q2⟩:=h.s.rng g hg
   exact Int.le_trans (u.kn g hg hg4) (st _ (by omega) _)
  ·rcases dN (S.B f.node.toNat) f.node f with ⟨hh,_⟩ | ⟨_,hf,_,_,_,_,⟨_,_,e⟩ | ⟨hk3,e⟩⟩
   ·exact absurd h0 hh
   ·rw[e] at hg
    have hg:g∈[(⟨2,f.node,f.id,[],_,[],[]⟩:aC)]:=hg
    rw[List.mem_singleton] at hg
    rw[hg] at hg4
    exact absurd hg4 (show (2:Int)≠4 by decide)
   ·have hgg:g.node=f.node∧g.id=f.id:=by
     rw[e] at hg
     have hg:g∈((S.B f.node.toNat).commit (ofL f.node) f).answers (ofL f.node) f.node f.id:=hg
     unfold aA.answers at hg
     rcases List.mem_cons.1 hg with hg | hg
     ·rw[hg];exact⟨rfl,rfl⟩
     ·split at hg
      ·rw[List.mem_singleton] at hg
       rw[hg];exact⟨rfl,rfl⟩
      ·simp at hg
    rw[hgg.1,hgg.2]
    show 2≤((upd S.B f.node.toNat (aL (S.B f.node.toNat) f.node f).1 f.node.toNat).ent f.id.toNat).state
    rw[aQ]
    have:=congrArg (fun c=>c.2.2.2.2) (lZ h0 hk3)
    have this:decide (2≤((aL (S.B f.node.toNat) f.node f).1.ent f.id.toNat).state)=_:=this
    by_cases hlt:((S.B f.node.toNat).ent f.id.toNat).state<2
    ·rw[if_pos hlt] at this
     exact of_decide_eq_true this
    ·exact Int.le_trans (by omega) (K.state f.id.toNat)
 ·show kZ (upd S.B f.node.toNat _ n)
  by_cases e:n=f.node.toNat
  ·rw[e,aQ];exact CA (u.settled _ hn6)
  ·rw[aI _ _ e];exact u.settled n hn
 ·rcases hg with hg | hg
  ·exact u.ask g hg hg1
  ·rcases dN (S.B f.node.toNat) f.node f with ⟨hh,_⟩ | ⟨_,hf,_,_,_,_,⟨_,_,e⟩ | ⟨hk3,e⟩⟩
   ·exact absurd h0 hh
   ·rw[e] at hg
    have hg:g∈[(⟨2,f.node,f.id,[],_,[],[]⟩:aC)]:=hg
    rw[List.mem_singleton] at hg
    rw[hg] at hg1
    exact absurd hg1 (show (2:Int)≠1 by decide)
   ·rw[e] at hg
    have hg:g∈((S.B f.node.toNat).commit (ofL f.node) f).answers (ofL f.node) f.node f.id:=hg
    unfold aA.answers at hg
    rcases List.mem_cons.1 hg with hg | hg
    ·rw[hg] at hg1
     exact absurd hg1 (show (4:Int)≠1 by decide)
    ·split at hg
     ·rw[List.mem_singleton] at hg
      rw[hg] at hg1
      exact absurd hg1 (show (5:Int)≠1 by decide)
     ·simp at hg
 ·have hd:(d:Int)∈((upd S.B f.node.toNat (aL (S.B f.node.toNat) f.node f).1 n).ent i).first:=hd
  show (S.C d).begun=true
  by_cases e:n=f.node.toNat
  ·rw[e,aQ] at hd
   have old:(d:Int)∈((S.B f.node.toNat).ent i).first→(S.C d).begun=true:=fun h1=>u.first _ hn6 i hi d h1
   have new:∀ops sh,(d:Int)∈(S.B f.node.toNat).ahead i ops sh→(S.C d).begun=true:=fun ops sh h1=>by
    obtain⟨d32,_,ds,_⟩:=oX.1 h1
    exact (h.s.ent1 _ hn6 d d32 (by omega)).1
   by_cases ei:i=f.id.toNat
   ·subst ei
    rcases hk with hk | hk
    ·rw[nX h0 hk] at hd
     split at hd
     ·exact new _ _ hd
     ·exact old hd
    ·have:=congrArg (fun c=>c.2.1) (lZ h0 hk)
     have this:((aL (S.B f.node.toNat) f.node f).1.ent f.id.toNat).first=_:=this
     rw[this] at hd
     split at hd
     ·have hd:(d:Int)∈(if ((S.B f.node.toNat).ent f.id.toNat).state=0 then (S.B f.node.toNat).ahead f.id.toNat f.ops (ofL f.node) else ((S.B f.node.toNat).ent f.id.toNat).first):=hd
      split at hd
      ·exact new _ _ hd
      ·exact old hd
     ·exact old hd
   ·have:=congrArg (fun c=>c.2.1) (mX (s:=S.B f.node.toNat) (who:=f.node) (f:=f) ei)
    have this:((aL (S.B f.node.toNat) f.node f).1.ent i).first=((S.B f.node.toNat).ent i).first:=this
    rw[this] at hd
    exact old hd
  ·rw[aI _ _ e] at hd
   exact u.first n hn i hi d hd
theorem tW (sh:Int):∀(l:List (Int × Int)) (c:aE),(c.dones sh l).known=c.known
 | [],_=>rfl
 | p::l,c=>by
  show ((aE.done1 sh c p).dones sh l).known=c.known
  rw[tW sh l]
  unfold aE.done1
  split<;>rfl
theorem DS {c:aE} {id:Int} {f:aC} {k:Nat} (h:(aP c id f).1.known k=true):c.known k=true∨(f.kind=4∧k=f.node.toNat):=by
 unfold aP at h
 split at h
 ·exact Or.inl h
 ·split at h
  ·exact Or.inl h
  ·split at h
   ·exact Or.inl h
   ·split at h
    ·split at h<;>exact Or.inl h
    ·split at h
     ·exact Or.inl h
     ·split at h
      ·rename_i h4
       have h:upd c.known f.node.toNat true k=true:=h
       by_cases e:k=f.node.toNat
       ·exact Or.inr ⟨h4,e⟩
       ·rw[aI _ _ e] at h;exact Or.inl h
      ·have h:(c.dones (ofL f.node) (f.ats.zip f.vals)).known k=true:=h
       rw[tW] at h
       exact Or.inl h
theorem jJ {c:aE} {id:Int} {g:aC} (h:g∈cR c id):(g.kind=1→bK g.ops (ofL g.node)=true)∧g.kind≠4:=by
 unfold cR at h
 split at h
 ·simp at h
 ·obtain⟨n,_,hg⟩:=List.mem_flatMap.1 h
  unfold aE.send at hg
  split at hg
  ·split at hg
   ·rw[List.mem_singleton] at hg
    rw[hg]
    exact⟨fun e=>absurd e (show (3:Int)≠1 by decide),(show (3:Int)≠4 by decide)⟩
   ·simp at hg
  ·split at hg
   ·rename_i ht
    rw[List.mem_singleton] at hg
    rw[hg]
    rw[Bool.and_eq_true] at ht
    exact⟨fun _=>ht.1,(show (1:Int)≠4 by decide)⟩
   ·simp at hg
theorem vG (c:aE) (id:Int) (f:aC):(aP c id f).1.begun=c.begun:=by
 rcases gF c id f with ⟨_,h1,_⟩ | ⟨_,_,_,_,_,_,he,_⟩ | ⟨_,_,_,hs,_⟩
 ·rw[h1]
 ·rw[he];rfl
 ·exact hs.begun
theorem m7 {zs:List Int} {n:Int}:dK zs n=true↔n∈zs:=by
 unfold dK eqB
 simp
theorem j0.answer {S:Sys} (h:eX S) (u:j0 S) {f:aC} (hM:S.M f) (h0:(aP (S.C f.id.toNat) f.id f).2.2=0):
  j0 ⟨S.B,upd S.C f.id.toNat (aP (S.C f.id.toNat) f.id f).1,fun g=>S.M g∨g∈(aP (S.C f.id.toNat) f.id f).2.1⟩:=by
 obtain⟨hr1,hr2⟩:=h.s.rng f hM
 have hi32:f.id.toNat<32:=by omega
 have hn6:f.node.toNat<6:=by omega
 have hnat:(f.id.toNat:Int)=f.id:=by omega
 have beg:∀d,(upd S.C f.id.toNat (aP (S.C f.id.toNat) f.id f).1 d).begun=(S.C d).begun:=fun d=>by
  rcases e8 S.C f.id.toNat (aP (S.C f.id.toNat) f.id f).1 d with ⟨e1,e2⟩ | ⟨_,e2⟩
  ·rw[e2,vG,e1]
  ·rw[e2]
 have D:∀d:Nat,(d:Int)∈(aP (S.C f.id.toNat) f.id f).1.deps→(S.C d).begun=true:=by
  intro d hd
  rcases gF (S.C f.id.toNat) f.id f with ⟨h1,_⟩ | ⟨_,_,hk,_,_,_,he,_⟩ | ⟨_,_,_,hs,_⟩
  ·exact absurd h0 h1
  ·rw[he] at hd
   have hd:(d:Int)∈iA (S.C f.id.toNat).deps f.deps:=hd
   rcases (qP.1 hd).2 with e | e
   ·exact u.deps _ hi32 d e
   ·rw[(h.s.tel f hM hk).2] at e
    exact u.first _ hn6 _ hi32 d e
  ·rw[hs.deps] at hd
   exact u.deps _ hi32 d hd
 have O:dK (aP (S.C f.id.toNat) f.id f).1.deps (f.id.toNat:Int)=false:=by
  have old:=u.own _ hi32
  rcases gF (S.C f.id.toNat) f.id f with ⟨h1,_⟩ | ⟨_,hg,hk,_,_,_,he,_⟩ | ⟨_,_,_,hs,_⟩
  ·exact absurd h0 h1
  ·rw[he]
   show dK (iA (S.C f.id.toNat).deps f.deps) (f.id.toNat:Int)=false
   cases e:dK (iA (S.C f.id.toNat).deps f.deps) (f.id.toNat:Int)
   ·rfl
   ·rcases (qP.1 (m7.1 e)).2 with e | e
    ·rw[m7.2 e] at old;cases old
    ·have F:=h.s.tel f hM hk
     rw[F.2] at e
     have:=((h.s.good _ hn6).fine hi32 (by have:=F.1;omega)).first.2
     rw[m7.2 e] at this;cases this
  ·rw[hs.deps];exact old
 refine⟨fun i hi=>?_,fun i hi hb hf=>?_,fun g hg hg4=>?_,fun i hi k hk hkn=>?_,u.settled,fun g hg hg1=>?_,fun n hn i hi d hd=>?_,fun i hi d hd=>?_⟩
 ·show dK (upd S.C f.id.toNat (aP (S.C f.id.toNat) f.id f).1 i).deps (i:Int)=false
  rcases e8 S.C f.id.toNat (aP (S.C f.id.toNat) f.id f).1 i with ⟨e1,e2⟩ | ⟨_,e2⟩
  ·rw[e2,e1];exact O
  ·rw[e2];exact u.own i hi
 ·have hb:(upd S.C f.id.toNat (aP (S.C f.id.toNat) f.id f).1 i).begun=true:=hb
  have hf:(upd S.C f.id.toNat (aP (S.C f.id.toNat) f.id f).1 i).fixed=false:=hf
  show dZ (upd S.C f.id.toNat (aP (S.C f.id.toNat) f.id f).1 i).ops (upd S.C f.id.toNat (aP (S.C f.id.toNat) f.id f).1 i).told=false
  rw[beg] at hb
  rcases e8 S.C f.id.toNat (aP (S.C f.id.toNat) f.id f).1 i with ⟨e1,e2⟩ | ⟨_,e2⟩
  ·rw[e2] at hf ⊢
   rcases gF (S.C f.id.toNat) f.id f with ⟨h1,_⟩ | ⟨_,_,_,_,_,_,he,_⟩ | ⟨_,_,_,hs,_⟩
   ·exact absurd h0 h1
   ·rw[he] at hf ⊢
    exact hf
   ·rw[hs.ops,hs.told]
    rw[hs.fixed] at hf
    rw[e1] at hb
    exact u.most _ hi32 hb hf
  ·rw[e2] at hf ⊢
   exact u.most i hi hb hf
 ·rcases hg with hg | hg
  ·exact u.kn g hg hg4
  ·exact absurd hg4 (jJ (lX hg).1).2
 ·have hkn:(upd S.C f.id.toNat (aP (S.C f.id.toNat) f.id f).1 i).known k=true:=hkn
  show 2≤((S.B k).ent i).state
  rcases e8 S.C f.id.toNat (aP (S.C f.id.toNat) f.id f).1 i with ⟨e1,e2⟩ | ⟨_,e2⟩
  ·rw[e2] at hkn
   rw[e1]
   rcases DS hkn with e | ⟨e,ek⟩
   ·exact u.known _ hi32 k hk e
   ·rw[ek]
    exact u.kn f hM e
  ·rw[e2] at hkn
   exact u.known i hi k hk hkn
 ·rcases hg with hg | hg
  ·exact u.ask g hg hg1
  ·exact (jJ (lX hg).1).1 hg1
 ·exact (beg d).trans (u.first n hn i hi d hd)
 ·have hd:(d:Int)∈(upd S.C f.id.toNat (aP (S.C f.id.toNat) f.id f).1 i).deps:=hd
  refine (beg d).trans ?_
  rcases e8 S.C f.id.toNat (aP (S.C f.id.toNat) f.id f).1 i with ⟨e1,e2⟩ | ⟨_,e2⟩
  ·rw[e2] at hd;exact D d hd
  ·rw[e2] at hd;exact u.deps i hi d hd
theorem j0.again {S:Sys} (u:j0 S) (i:Nat):j0 ⟨S.B,S.C,fun g=>S.M g∨g∈cR (S.C i) (i:Int)⟩:=by
 refine⟨u.own,u.most,fun g hg hg4=>?_,u.known,u.settled,fun g hg hg1=>?_,u.first,u.deps⟩
 ·rcases hg with hg | hg
  ·exact u.kn g hg hg4
  ·exact absurd hg4 (jJ hg).2
 ·rcases hg with hg | hg
  ·exact u.ask g hg hg1
  ·exact (jJ hg).1 hg1
theorem I1 {ops:List OpL} (h:bM ops=true):dZ ops (fun _=>false)=false:=by
 have hk:=oJ h
 have e0:j6 (fun _=>false) 0=0:=rfl
 have e1:j6 (fun _=>false) 1=0:=rfl
 unfold dZ
 rw[e0,e1]
 cases ops with
 | nil=>unfold bM at h;simp at h
 | cons o r=>
  have:=hk o (by simp)
  by_cases ho:o.2.1 % 2=0
  ·have:bK (o::r) 0=true:=List.any_eq_true.2 ⟨o,by simp,by simp[j7,ho]⟩
   rw[this]
   rfl
  ·have:bK (o::r) 1=true:=List.any_eq_true.2 ⟨o,by simp,by simp[j7];omega⟩
   rw[this]
   simp
theorem j0.begin {S:Sys} (u:j0 S) {i:Nat} {ops:List OpL} (h0:(bF (i:Int) ops).2.2=0):
  j0 ⟨S.B,upd S.C i (bF (i:Int) ops).1,fun g=>S.M g∨g∈(bF (i:Int) ops).2.1⟩:=by
 have hgo:=(yP h0).2.1
 have e:bF (i:Int) ops=({ cB with begun:=true,ops:=ops },cR { cB with begun:=true,ops:=ops } (i:Int),0):=by
  unfold bF at *
  split at h0
  ·exact absurd h0 (show (2:Int)≠0 by decide)
  ·rename_i h1
   rw[if_neg h1]
   split at h0
   ·exact absurd h0 (show (1:Int)≠0 by decide)
   ·rename_i h2
    rw[if_neg h2]
 rw[e]
 obtain⟨c,hc⟩:=zNm ({ cB with begun:=true,ops:=ops }:aE)
 show j0 ⟨S.B,upd S.C i { cB with begun:=true,ops:=ops },fun g=>S.M g∨g∈cR { cB with begun:=true,ops:=ops } (i:Int)⟩
 rw[←hc]
 have beg:∀d,(S.C d).begun=true→(upd S.C i c d).begun=true:=fun d hd=>by
  rcases e8 S.C i c d with ⟨_,e2⟩ | ⟨_,e2⟩
  ·rw[e2,hc]
  ·rw[e2];exact hd
 refine⟨fun j hj=>?_,fun j hj hbj hf=>?_,fun g hg hg4=>?_,fun j hj k hk hkn=>?_,u.settled,fun g hg hg1=>?_,fun n hn j hj d hd=>beg d (u.first n hn j hj d hd),fun j hj d hd=>?_⟩
 ·show dK (upd S.C i c j).deps (j:Int)=false
  rcases e8 S.C i c j with ⟨_,e2⟩ | ⟨_,e2⟩
  ·rw[e2,hc];rfl
  ·rw[e2];exact u.own j hj
 ·have hbj:(upd S.C i c j).begun=true:=hbj
  have hf:(upd S.C i c j).fixed=false:=hf
  show dZ (upd S.C i c j).ops (upd S.C i c j).told=false
  rcases e8 S.C i c j with ⟨_,e2⟩ | ⟨_,e2⟩
  ·rw[e2,hc];exact I1 hgo
  ·rw[e2] at hbj hf ⊢;exact u.most j hj hbj hf
 ·rcases hg with hg | hg
  ·exact u.kn g hg hg4
  ·exact absurd hg4 (jJ hg).2
 ·have hkn:(upd S.C i c j).known k=true:=hkn
  show 2≤((S.B k).ent j).state
  rcases e8 S.C i c j with ⟨_,e2⟩ | ⟨_,e2⟩
  ·rw[e2,hc] at hkn;cases hkn
  ·rw[e2] at hkn;exact u.known j hj k hk hkn
 ·rcases hg with hg | hg
  ·exact u.ask g hg hg1
  ·exact (jJ hg).1 hg1
 ·have hd:(d:Int)∈(upd S.C i c j).deps:=hd
  refine beg d ?_
  rcases e8 S.C i c j with ⟨_,e2⟩ | ⟨_,e2⟩
  ·rw[e2,hc] at hd
   have hd:(d:Int)∈([]:List Int):=hd
   simp at hd
  ·rw[e2] at hd;exact u.deps j hj d hd
end Go.Proofs.YtkoefoccbjhoiacGreat
