/-
squeezed by tools/squeeze.py from: NodeG GLearn NodeS NodeT NMem PostL CMem CluN Confl
-/
import Derived.Test.YtkoefoccbjhoiadGreatTope5
import Derived.Test.YtkoefoccbjhoiadGreatTope3
import Derived.Test.YtkoefoccbjhoiadGreatTope2
import Derived.Test.YtkoefoccbjhoiadGreatTope1
set_option linter.unusedVariables false
set_option linter.unusedSimpArgs false
set_option maxRecDepth 100000
set_option maxHeartbeats 4000000
namespace Go.Proofs.YtkoefoccbjhoiadGreat
open Go.RowKit
theorem GK (xs:List Nat):∀(l:Int),(∀x∈xs,l<(x:Int)∧x<32)→xs.Pairwise (· < ·)→bD l (xs.map Int.ofNat)=true:=by
 induction xs with
 | nil=>intros;rfl
 | cons x r ih=>
  intro l h hp
  have hx:=h x (by simp)
  obtain⟨h1,h2⟩:=List.pairwise_cons.1 hp
  rw[List.map_cons,bD,ih (Int.ofNat x) (fun y hy=>⟨by have:=h1 y hy;simp;omega,(h y (by simp[hy])).2⟩) h2]
  have e1:decide (Int.ofNat x≤l)=false:=by simp;omega
  have e2:decide (32≤Int.ofNat x)=false:=by simp;omega
  rw[e1,e2]
  rfl
theorem r8 (s:aB) (id:Nat) (ops:List OpL) (sh:Int):bD (-1) (s.ahead id ops sh)=true:=by
 unfold aB.ahead cG
 refine GK _ _ (fun x hx=>?_) (List.Pairwise.filter _ List.pairwise_lt_range)
 have:=List.mem_range.1 (List.mem_filter.1 hx).1
 omega
theorem wD (s:aB) (id:Nat) (ops:List OpL) (sh:Int):dY (s.ahead id ops sh) id=false:=by
 unfold dY
 rw[List.any_eq_false]
 intro x hx he
 unfold aB.ahead cG at hx
 rw[List.mem_map] at hx
 obtain⟨y,hy,rfl⟩:=hx
 have h1:=(List.mem_filter.1 hy).2
 unfold eqB at he
 have:y=id:=by
  have h2:((y:Nat):Int)=(id:Int):=by simpa using he
  omega
 subst this
 simp at h1
theorem vS (sh:Int):∀(ops:List OpL) (i:Nat) (v:Nat→Int) (l:Int) (N:Nat),l<(i:Int)→i+ops.length≤N→dK l N (cM sh i ops v).2.1=true
 | [],_,_,_,_,_,_=>rfl
 | o::r,i,v,l,N,h1,h2=>by
  simp only[List.length_cons] at h2
  unfold cM
  split
  ·show (decide (l<(i:Int)) && decide ((i:Int)<(N:Int)) && dK (i:Int) N _)=true
   rw[decide_eq_true h1,decide_eq_true (show (i:Int)<(N:Int) by omega),vS sh r (i+1) _ (i:Int) N (by omega) (by omega)]
   rfl
  ·exact vS sh r (i+1) v l N (by omega) (by omega)
theorem vU (sh:Int):∀(ops:List OpL) (i:Nat) (v:Nat→Int),(cM sh i ops v).2.2.length=(cM sh i ops v).2.1.length
 | [],_,_=>rfl
 | o::r,i,v=>by
  unfold cM
  split
  ·simp only[List.length_cons,vU sh r (i+1)]
  ·exact vU sh r (i+1) v
theorem JU:(1:Int)≤3∧(3:Int)≤3:=by decide
theorem LB:(1:Int)≤2∧(2:Int)≤3:=by decide
theorem LN:(1:Int)≤1∧(1:Int)≤3:=by decide
theorem bR.fine {s:aB} (h:bR s) {n:Nat} (hn:n<32) (hs:(s.ent n).state≠0):CF (s.ent n) n:=by
 rcases h.ent n hn with e | e
 ·rw[e] at hs;exact absurd rfl hs
 ·exact e
theorem bR.state {s:aB} (h:bR s) {n:Nat} (hn:n<32):0≤(s.ent n).state∧(s.ent n).state≤3:=by
 rcases h.ent n hn with e | e
 ·rw[e];decide
 ·have:=e.st;omega
theorem wO {s:aB} (h:bR s) (sh:Int) {n:Nat} (hn:n<32) (hs:(s.ent n).state=2):bR (s.exec sh n):=by
 have F:=h.fine hn (by rw[hs];decide)
 have same:(s.exec sh n).ent n=⟨3,(s.ent n).ops,(s.ent n).first,(s.ent n).deps,(cM sh 0 (s.ent n).ops s.vals).2.1,(cM sh 0 (s.ent n).ops s.vals).2.2⟩:=aU _ _ _
 have other:∀m,m≠n→(s.exec sh n).ent m=s.ent m:=fun m hm=>aQ _ _ hm
 refine⟨fun m hm=>?_,fun m hm=>?_,fun x hx=>?_⟩
 ·by_cases e:m=n
  ·subst e
   right
   rw[same]
   exact⟨JU,F.ops,F.first,F.deps,fun h=>absurd (show (3:Int)=1 from h) (by decide),fun h=>absurd rfl h,vS sh (s.ent m).ops 0 s.vals (-1) (s.ent m).ops.length (by omega) (by omega),vU sh _ _ _⟩
  ·rw[other m e];exact h.ent m hm
 ·have h1:=h.cnt m hm
  show (s.order++[(n:Int)]).count (m:Int)=_
  rw[List.count_append,h1]
  by_cases e:m=n
  ·subst e
   rw[same,hs]
   simp
  ·rw[other m e]
   have:List.count (m:Int) [(n:Int)]=0:=by
    rw[List.count_eq_zero]
    simp
    omega
   rw[this]
   rfl
 ·rcases List.mem_append.1 hx with hx | hx
  ·exact h.lt x hx
  ·simp at hx
   omega
theorem k7 (sh:Int):∀(l:List Nat) {s:aB},(∀x∈l,x<32)→bR s→bR (s.execs sh l)
 | [],_,_,h=>h
 | a::l,s,hl,h=>by
  have h1:bR (aB.execIf sh s a):=by
   unfold aB.execIf
   split
   ·rename_i e;exact wO h sh (hl a (by simp)) e
   ·exact h
  exact k7 (s:=aB.execIf sh s a) sh l (fun x hx=>hl x (by simp[hx])) h1
theorem kB (g:bG) (n:Int):∀x∈dV g n,x<32:=by
 intro x hx
 unfold dV at hx
 split at hx
 ·exact (lT _ _ 32).lt x hx
 ·simp at hx
theorem AR {s:aB} (h:bR s) (sh:Int):bR (s.settle sh):=by
 have:∀(l:List Nat) (t:aB),bR t→bR (l.foldl (aB.round s.graph sh) t):=by
  intro l
  induction l with
  | nil=>exact fun t ht=>ht
  | cons a l ih=>
   intro t ht
   refine ih _ ?_
   unfold aB.round
   split
   ·exact k7 (s:=t) sh _ (kB _ _) ht
   ·exact ht
 exact this _ s h
theorem jW {f:aD} (h:aM f=0):0≤f.id∧f.id<32∧((f.kind=1∨f.kind=3)→bO f.ops=true)∧(f.kind=3→bD (-1) f.deps=true∧dY f.deps f.id=false):=by
 unfold aM at h
 split at h
 ·cases h
 ·split at h
  ·cases h
  ·rename_i h2
   split at h
   ·rename_i h3
    rw[Bool.and_eq_true,Bool.and_eq_true] at h3
    refine⟨by omega,by omega,fun hk=>?_,fun hk=>?_⟩
    ·have:=h3.1
     unfold eB at this
     rw[if_pos hk] at this
     exact this
    ·have:=h3.2.1
     unfold dM at this
     rw[if_pos (Or.inr hk),Bool.and_eq_true] at this
     exact⟨this.1,by simpa using this.2⟩
   ·cases h
theorem C0 {s:aB} (h:bR s) (sh:Int) {f:aD} (hf:aM f=0) (hk:f.kind=1):bR (s.asked sh f):=by
 obtain⟨i1,i2,i3,_⟩:=jW hf
 unfold aB.asked
 split
 ·rename_i e0
  refine⟨fun m hm=>?_,fun m hm=>?_,h.lt⟩
  ·by_cases e:m=f.id.toNat
   ·subst e
    right
    rw[i7]
    exact⟨LN,i3 (Or.inl hk),⟨r8 _ _ _ _,wD _ _ _ _⟩,⟨rfl,rfl⟩,fun _=>rfl,fun _=>rfl,rfl,rfl⟩
   ·rw[eY s sh f e];exact h.ent m hm
  ·have h1:=h.cnt m hm
   show s.order.count (m:Int)=_
   rw[h1]
   by_cases e:m=f.id.toNat
   ·subst e
    rw[i7,e0]
    rfl
   ·rw[eY s sh f e]
 ·exact h
theorem lC {s:aB} (h:bR s) (sh:Int) {f:aD} (hf:aM f=0) (hk:f.kind=3) (hs:(s.ent f.id.toNat).state<2):bR (s.placed sh f):=by
 obtain⟨i1,i2,i3,i4⟩:=jW hf
 have hid:((f.id.toNat:Nat):Int)=f.id:=by omega
 have hlt:f.id.toNat<32:=by omega
 have other:∀m,m≠f.id.toNat→(s.placed sh f).ent m=s.ent m:=fun m hm=>aQ _ _ hm
 have hats:(s.ent f.id.toNat).ats=[]∧(s.ent f.id.toNat).vals=[]:=by
  rcases h.ent _ hlt with e | e
  ·rw[e];exact⟨rfl,rfl⟩
  ·have h1:=e.told (by omega)
   exact⟨h1,List.eq_nil_of_length_eq_zero (by rw[e.vals,h1];rfl)⟩
 refine⟨fun m hm=>?_,fun m hm=>?_,h.lt⟩
 ·by_cases e:m=f.id.toNat
  ·subst e
   right
   rw[kC,hats.1,hats.2]
   have hfi:bD (-1) (if (s.ent f.id.toNat).state=0 then s.ahead f.id.toNat f.ops sh else (s.ent f.id.toNat).first)=true∧dY (if (s.ent f.id.toNat).state=0 then s.ahead f.id.toNat f.ops sh else (s.ent f.id.toNat).first) ((f.id.toNat:Nat):Int)=false:=by
    split
    ·exact⟨r8 _ _ _ _,wD _ _ _ _⟩
    ·rename_i e0
     exact (h.fine hlt e0).first
   have hdp:bD (-1) f.deps=true∧dY f.deps ((f.id.toNat:Nat):Int)=false:=by rw[hid];exact i4 hk
   exact⟨LB,i3 (Or.inr hk),hfi,hdp,fun h=>absurd (show (2:Int)=1 from h) (by decide),fun _=>rfl,rfl,rfl⟩
  ·rw[other m e];exact h.ent m hm
 ·have h1:=h.cnt m hm
  show s.order.count (m:Int)=_
  rw[h1]
  by_cases e:m=f.id.toNat
  ·subst e
   rw[kC,if_neg (by omega)]
   rfl
  ·rw[other m e]
theorem sL {s:aB} (h:bR s) (sh:Int) {f:aD} (hf:aM f=0) (hk:f.kind=3):bR (s.commit sh f):=by
 unfold aB.commit
 split
 ·rename_i e;exact AR (lC h sh hf hk e) sh
 ·exact h
theorem FD:bR dN:=⟨fun _ _=>Or.inl rfl,fun _ _=>rfl,by simp[dN]⟩
def bG.learn (g:bG) (m:Nat) (zs:List Int):bG:=⟨upd g.known m true,upd g.deps m zs⟩
theorem wS {g:bG} {m:Nat} {zs:List Int} {x:Nat} (hx:x≠m) (y:Nat):(g.learn m zs).adj x y=g.adj x y:=by
 unfold bG.adj bG.learn
 simp only[aQ _ _ hx]
theorem AS {g:bG} {m:Nat} {zs:List Int} {x y:Nat} (h:b8 g.adj x y) (hm:¬ b8 g.adj x m):b8 (g.learn m zs).adj x y:=by
 induction h using b8.ind with
 | refl=>exact .refl _
 | step a h ih=>
  rename_i x z y
  have hx:x≠m:=fun e=>hm (e ▸ .refl _)
  exact .step (by rw[wS hx];exact a) (ih (fun h=>hm (.step a h)))
theorem xO {g:bG} {m:Nat} {zs:List Int} {x y:Nat} (h:b8 (g.learn m zs).adj x y) (hm:¬ b8 g.adj x m):b8 g.adj x y:=by
 induction h using b8.ind with
 | refl=>exact .refl _
 | step a h ih=>
  rename_i x z y
  have hx:x≠m:=fun e=>hm (e ▸ .refl _)
  rw[wS hx] at a
  exact .step a (ih (fun h=>hm (.step a h)))
theorem FL {g:bG} {m:Nat} {zs:List Int} {x:Nat} (hx:x<32) (hm:cE g x m=false) (y:Nat):cE g x y=cE (g.learn m zs) x y:=by
 have hm':¬ b8 g.adj x m:=fun h=>by rw[(cH g hx m).2 h] at hm;cases hm
 rw[Bool.eq_iff_iff,cH g hx y,cH (g.learn m zs) hx y]
 exact⟨fun h=>AS h hm',fun h=>xO h hm'⟩
def aB.did (s:aB):List Nat:=s.order.map Int.toNat
theorem mH {s:aB} (h:bR s) {n:Nat} (hn:n<32):n∈s.did↔(s.ent n).state=3:=by
 have h1:=h.cnt n hn
 unfold aB.did
 rw[List.mem_map]
 constructor
 ·rintro⟨x,hx,e⟩
  have:=h.lt x hx
  have ex:x=(n:Int):=by omega
  subst ex
  have:0<s.order.count (n:Int):=List.count_pos_iff.2 hx
  split at h1
  ·assumption
  ·omega
 ·intro hs
  rw[if_pos hs] at h1
  exact⟨(n:Int),List.count_pos_iff.1 (by omega),by simp⟩
structure g7 (s:aB):Prop where
 sorted:mY (cE s.graph) s.did
 ready:∀x∈s.did,∀d,d<32→cE s.graph x d=true→s.graph.known d=true
theorem uD (s:aB) (sh:Int) (n:Nat) (h:(s.ent n).state=2):(s.exec sh n).graph=s.graph:=by
 have same:(s.exec sh n).ent n=⟨3,(s.ent n).ops,(s.ent n).first,(s.ent n).deps,_,_⟩:=aU _ _ _
 have other:∀m,m≠n→(s.exec sh n).ent m=s.ent m:=fun m hm=>aQ _ _ hm
 have e1:(fun i=>decide (2≤((s.exec sh n).ent i).state))=fun i=>decide (2≤(s.ent i).state):=by
  funext i
  by_cases e:i=n
  ·rw[e,same,h];rfl
  ·rw[other i e]
 have e2:(fun i=>((s.exec sh n).ent i).deps)=fun i=>(s.ent i).deps:=by
  funext i
  by_cases e:i=n
  ·rw[e,same]
  ·rw[other i e]
 unfold aB.graph
 rw[e1,e2]
theorem wI (sh:Int):∀(l:List Nat) (s:aB),l.Nodup→(s.execs sh l).did=s.did++l.filter (fun x=>decide ((s.ent x).state=2))∧(s.execs sh l).graph=s.graph∧∀x,x ∉ l→(s.execs sh l).ent x=s.ent x
 | [],s,_=>⟨by simp[aB.execs],rfl,fun _ _=>rfl⟩
 | a::l,s,hd=>by
  rw[List.nodup_cons] at hd
  obtain⟨i1,i2,i3⟩:=wI sh l (aB.execIf sh s a) hd.2
  have e0:s.execs sh (a::l)=(aB.execIf sh s a).execs sh l:=rfl
  rw[e0,i1,i2]
  by_cases h:(s.ent a).state=2
  ·have e1:aB.execIf sh s a=s.exec sh a:=by unfold aB.execIf;rw[if_pos h]
   have other:∀m,m≠a→(s.exec sh a).ent m=s.ent m:=fun m hm=>aQ _ _ hm
   rw[e1] at i3 ⊢
   refine⟨?_,uD s sh a h,fun x hx=>?_⟩
   ·have hf:l.filter (fun x=>decide (((s.exec sh a).ent x).state=2))=l.filter (fun x=>decide ((s.ent x).state=2)):=List.filter_congr fun x hx=>by rw[other x (fun e=>hd.1 (e ▸ hx))]
    rw[hf,List.filter_cons_of_pos (by simpa using h)]
    unfold aB.did aB.exec
    simp
   ·rw[i3 x (fun h=>hx (by simp[h])),other x (fun e=>hx (by simp[e]))]
  ·have e1:aB.execIf sh s a=s:=by unfold aB.execIf;rw[if_neg h]
   rw[e1] at i3 ⊢
   refine⟨by rw[List.filter_cons_of_neg (by simpa using h)],rfl,fun x hx=>i3 x (fun h=>hx (by simp[h]))⟩
theorem D4 {s:aB} (h:bR s) (S:g7 s) (sh:Int) {n:Nat} (hn:n<32):g7 (s.execs sh (dV s.graph n))∧(s.execs sh (dV s.graph n)).graph=s.graph:=by
 cases hr:jQ s.graph (n:Int)
 ·have:dV s.graph (n:Int)=[]:=by unfold dV;rw[hr];rfl
  rw[this]
  exact⟨S,rfl⟩
 ·have hc:=yK s.graph hn
  have eo:dV s.graph (n:Int)=dO (cE s.graph) (cE s.graph n) 32:=by unfold dV;rw[hr,←uM s.graph hn];rfl
  have hk:∀i,i<32→cE s.graph n i=true→s.graph.known i=true:=by
   have h1:=hr
   unfold jQ at h1
   rw[Bool.and_eq_true] at h1
   exact DA.1 h1.2
  have L:=mK hc 32
  obtain⟨e1,e2,_⟩:=wI sh (dV s.graph (n:Int)) s (by rw[eo];exact L.nodup)
  refine⟨?_,e2⟩
  have hf:(dV s.graph (n:Int)).filter (fun x=>decide ((s.ent x).state=2))=(dO (cE s.graph) (cE s.graph n) 32).filter fun x=>!s.did.contains x:=by
   rw[eo]
   refine List.filter_congr fun x hx=>?_
   have hd:=L.inD x hx
   have hx32:=hc.lt x hd
   have h2:2≤(s.ent x).state:=by simpa [aB.graph] using hk x hx32 hd
   have h3:=(h.state hx32).2
   have h4:=mH h hx32
   rw[Bool.eq_iff_iff]
   simp only[decide_eq_true_iff,Bool.not_eq_true',List.contains_eq_mem,decide_eq_false_iff_not]
   constructor
   ·intro h5 h6
    have:=h4.1 h6
    omega
   ·intro h5
    have:(s.ent x).state≠3:=fun e=>h5 (h4.2 e)
    omega
  rw[hf] at e1
  refine⟨by rw[e1,e2];exact BP hc S.sorted,fun x hx d hd hxd=>?_⟩
  rw[e2] at hxd ⊢
  rw[e1] at hx
  rcases List.mem_append.1 hx with hx | hx
  ·exact S.ready x hx d hd hxd
  ·have hdx:=L.inD x (List.mem_filter.1 hx).1
   exact hk d hd (hc.closed x d hdx hxd)
theorem BO {s:aB} (h:bR s) (S:g7 s) (sh:Int):g7 (s.settle sh):=by
 have:∀(l:List Nat) (t:aB),(∀x∈l,x<32)→bR t→g7 t→t.graph=s.graph→g7 (l.foldl (aB.round s.graph sh) t):=by
  intro l
  induction l with
  | nil=>exact fun t _ _ ht _=>ht
  | cons a l ih=>
   intro t hl hg hS he
   have ha:=hl a (by simp)
   have h1:bR (aB.round s.graph sh t a)∧g7 (aB.round s.graph sh t a)∧(aB.round s.graph sh t a).graph=s.graph:=by
    unfold aB.round
    split
    ·rw[←he]
     obtain⟨k1,k2⟩:=D4 hg hS sh ha
     exact⟨k7 sh _ (kB _ _) hg,k1,k2⟩
    ·exact⟨hg,hS,he⟩
   exact ih _ (fun x hx=>hl x (by simp[hx])) h1.1 h1.2.1 h1.2.2
 exact this _ s (fun x hx=>List.mem_range.1 hx) h S rfl
theorem oM {s:aB} (h:bR s) (sh:Int) {f:aD} (hf:aM f=0):(s.asked sh f).graph=s.graph:=by
 obtain⟨i1,i2,_,_⟩:=jW hf
 unfold aB.asked
 split
 ·rename_i e0
  have hz:s.ent f.id.toNat=j0:=by
   rcases h.ent f.id.toNat (by omega) with e | e
   ·exact e
   ·have:=e.st;omega
  have e1:(fun i=>decide (2≤((s.heard sh f).ent i).state))=fun i=>decide (2≤(s.ent i).state):=by
   funext i
   by_cases e:i=f.id.toNat
   ·rw[e,i7,hz];rfl
   ·rw[eY s sh f e]
  have e2:(fun i=>((s.heard sh f).ent i).deps)=fun i=>(s.ent i).deps:=by
   funext i
   by_cases e:i=f.id.toNat
   ·rw[e,i7,hz];rfl
   ·rw[eY s sh f e]
  unfold aB.graph
  rw[e1,e2]
 ·rfl
theorem wH (s:aB) (sh:Int) (f:aD):(s.asked sh f).did=s.did:=by
 unfold aB.asked
 split<;>rfl
theorem D3 {s:aB} (h:bR s) (S:g7 s) (sh:Int) {f:aD} (hf:aM f=0):g7 (s.asked sh f):=by
 refine⟨?_,?_⟩
 ·rw[oM h sh hf,wH];exact S.sorted
 ·rw[oM h sh hf,wH];exact S.ready
theorem qP (s:aB) (sh:Int) (f:aD):(s.placed sh f).graph=s.graph.learn f.id.toNat f.deps:=by
 have other:∀m,m≠f.id.toNat→(s.placed sh f).ent m=s.ent m:=fun m hm=>aQ _ _ hm
 have e1:(fun i=>decide (2≤((s.placed sh f).ent i).state))=upd (fun i=>decide (2≤(s.ent i).state)) f.id.toNat true:=by
  funext i
  by_cases e:i=f.id.toNat
  ·rw[e,kC,aU];rfl
  ·rw[other i e,aQ _ _ e]
 have e2:(fun i=>((s.placed sh f).ent i).deps)=upd (fun i=>(s.ent i).deps) f.id.toNat f.deps:=by
  funext i
  by_cases e:i=f.id.toNat
  ·rw[e,kC,aU]
  ·rw[other i e,aQ _ _ e]
 unfold aB.graph bG.learn
 rw[e1,e2]
theorem BN {s:aB} (S:g7 s) (sh:Int) {f:aD} (hf:aM f=0) (hs:(s.ent f.id.toNat).state<2):g7 (s.placed sh f):=by
 obtain⟨i1,i2,_,_⟩:=jW hf
 have hid:f.id.toNat<32:=by omega
 have hunk:s.graph.known f.id.toNat=false:=by
  show decide (2≤(s.ent f.id.toNat).state)=false
  exact decide_eq_false (by omega)
 have hno:∀x∈s.did,cE s.graph x f.id.toNat=false:=by
  intro x hx
  cases hh:cE s.graph x f.id.toNat
  ·rfl
  ·rw[S.ready x hx _ hid hh] at hunk;cases hunk
 have hrow:∀x∈s.did,∀y,y<32→cE s.graph x y=cE (s.graph.learn f.id.toNat f.deps) x y:=fun x hx y _=>FL (S.sorted.lt x hx) (hno x hx) y
 have ed:(s.placed sh f).did=s.did:=rfl
 refine⟨by rw[qP,ed];exact S.sorted.later hrow,fun x hx d hd hxd=>?_⟩
 rw[qP] at hxd ⊢
 rw[ed] at hx
 rw[←hrow x hx d hd] at hxd
 have:=S.ready x hx d hd hxd
 show upd s.graph.known f.id.toNat true d=true
 unfold upd
 split
 ·rfl
 ·exact this
theorem BM {s:aB} (h:bR s) (S:g7 s) (sh:Int) {f:aD} (hf:aM f=0) (hk:f.kind=3):g7 (s.commit sh f):=by
 unfold aB.commit
 split
 ·rename_i e;exact BO (lC h sh hf hk e) (BN S sh hf e) sh
 ·exact S
theorem GQ:g7 dN:=⟨D5 _,by simp[dN,aB.did]⟩
def fY (e:cV) (n:Nat):Bool:=
 if e.state=0 then e.ops.isEmpty && e.first.isEmpty && e.deps.isEmpty && e.ats.isEmpty && e.vals.isEmpty
 else decide (1≤e.state∧e.state≤3) && bO e.ops && (bD (-1) e.first && !dY e.first n) && (bD (-1) e.deps && !dY e.deps n) && (decide (e.state≠1) || e.deps.isEmpty) &&
  (decide (e.state=3) || e.ats.isEmpty) && dK (-1) e.ops.length e.ats && decide (e.vals.length=e.ats.length)
def gR (s:aB):Bool:=((List.range 32).all fun n=>fY (s.ent n) n && decide (s.order.count (n:Int)=if (s.ent n).state=3 then 1 else 0)) && s.order.all fun x=>decide (0≤x∧x<32)
theorem IG {e:cV} {n:Nat}:fY e n=true↔e=j0∨CF e n:=by
 obtain⟨st,ops,fi,de,ats,vals⟩:=e
 unfold fY
 by_cases h:st=0
 ·subst h
  rw[if_pos rfl]
  constructor
  ·intro h
   simp at h
   obtain⟨⟨⟨⟨rfl,rfl⟩,rfl⟩,rfl⟩,rfl⟩:=h
   exact Or.inl rfl
  ·rintro (h | h)
   ·cases h;rfl
   ·have h1:(1:Int)≤0:=h.st.1
    omega
 ·rw[if_neg h]
  simp only[Bool.and_eq_true,Bool.or_eq_true,decide_eq_true_iff,Bool.not_eq_true',List.isEmpty_iff]
  constructor
  ·rintro⟨⟨⟨⟨⟨⟨⟨h1,h2⟩,h3⟩,h4⟩,h5⟩,h6⟩,h7⟩,h8⟩
   exact Or.inr ⟨h1,h2,h3,h4,fun e=>h5.resolve_left (fun h=>h e),fun e=>h6.resolve_left e,h7,h8⟩
  ·rintro (e | F)
   ·cases e;exact absurd rfl h
   ·refine⟨⟨⟨⟨⟨⟨⟨F.st,F.ops⟩,F.first⟩,F.deps⟩,?_⟩,?_⟩,F.ats⟩,F.vals⟩
    ·by_cases e:st=1
     ·exact Or.inr (F.asked e)
     ·exact Or.inl e
    ·by_cases e:st=3
     ·exact Or.inl e
     ·exact Or.inr (F.told e)
theorem CY {s:aB}:gR s=true↔bR s:=by
 unfold gR
 simp only[Bool.and_eq_true,List.all_eq_true,List.mem_range,decide_eq_true_iff,IG]
 exact⟨fun h=>⟨fun n hn=>(h.1 n hn).1,fun n hn=>(h.1 n hn).2,h.2⟩,fun h=>⟨fun n hn=>⟨h.ent n hn,h.cnt n hn⟩,h.lt⟩⟩
def aN (s:aB) (who:Int) (f:aD):aB × List aD × Int:=
 if gR s=false∨who<0∨5<who∨f.node≠who then (s,[],2)
 else if aM f≠0 then (s,[],aM f)
 else if f.kind=1 then
  if bP f.ops (ofL who)=false then (s,[],4)
  else (s.asked (ofL who) f,[⟨2,who,f.id,[],((s.asked (ofL who) f).ent f.id.toNat).first,[],[]⟩],0)
 else if f.kind=3 then (s.commit (ofL who) f,(s.commit (ofL who) f).answers (ofL who) who f.id,0)
 else (s,[],3)
theorem dI (s:aB) (who:Int) (f:aD):
    ((aN s who f).2.2≠0∧(aN s who f).1=s∧(aN s who f).2.1=[])∨
    (bR s∧aM f=0∧(aN s who f).2.2=0∧f.node=who∧0≤who∧who≤5∧
      ((f.kind=1∧bP f.ops (ofL who)=true∧aN s who f=(s.asked (ofL who) f,[⟨2,who,f.id,[],((s.asked (ofL who) f).ent f.id.toNat).first,[],[]⟩],0))∨
       (f.kind=3∧aN s who f=(s.commit (ofL who) f,(s.commit (ofL who) f).answers (ofL who) who f.id,0)))):=by
  by_cases h1:gR s=false∨who<0∨5<who∨f.node≠who
  ·left
   have e:aN s who f=(s,[],2):=by unfold aN;rw[if_pos h1]
   rw[e]
   exact⟨(show (2:Int)≠0 by decide),rfl,rfl⟩
  ·by_cases h2:aM f≠0
   ·left
    have e:aN s who f=(s,[],aM f):=by unfold aN;rw[if_neg h1,if_pos h2]
    rw[e]
    exact⟨h2,rfl,rfl⟩
   ·have hg:bR s:=CY.1 (by
       cases h:gR s
       ·exact absurd (Or.inl h) h1
       ·rfl)
    have hn:f.node=who∧0≤who∧who≤5:=by
      refine⟨?_,?_,?_⟩
      ·by_cases e:f.node=who
       ·exact e
       ·exact absurd (Or.inr (Or.inr (Or.inr e))) h1
      ·by_cases e:who<0
       ·exact absurd (Or.inr (Or.inl e)) h1
       ·omega
      ·by_cases e:5<who
       ·exact absurd (Or.inr (Or.inr (Or.inl e))) h1
       ·omega
    have h2':aM f=0:=by omega
    by_cases h3:f.kind=1
    ·by_cases h4:bP f.ops (ofL who)=false
     ·left
      have e:aN s who f=(s,[],4):=by unfold aN;rw[if_neg h1,if_neg h2,if_pos h3,if_pos h4]
      rw[e]
      exact⟨(show (4:Int)≠0 by decide),rfl,rfl⟩
     ·right
      have e:aN s who f=(s.asked (ofL who) f,[⟨2,who,f.id,[],((s.asked (ofL who) f).ent f.id.toNat).first,[],[]⟩],0):=by unfold aN;rw[if_neg h1,if_neg h2,if_pos h3,if_neg h4]
      exact⟨hg,h2',by rw[e],hn.1,hn.2.1,hn.2.2,Or.inl ⟨h3,by simpa using h4,e⟩⟩
    ·by_cases h5:f.kind=3
     ·right
      have e:aN s who f=(s.commit (ofL who) f,(s.commit (ofL who) f).answers (ofL who) who f.id,0):=by unfold aN;rw[if_neg h1,if_neg h2,if_neg h3,if_pos h5]
      exact⟨hg,h2',by rw[e],hn.1,hn.2.1,hn.2.2,Or.inr ⟨h5,e⟩⟩
     ·left
      have e:aN s who f=(s,[],3):=by unfold aN;rw[if_neg h1,if_neg h2,if_neg h3,if_neg h5]
      rw[e]
      exact⟨(show (3:Int)≠0 by decide),rfl,rfl⟩
theorem xD {s:aB} {who:Int} {f:aD} (h:(aN s who f).2.2=0):bR (aN s who f).1:=by
 rcases dI s who f with ⟨h1,_⟩ | ⟨hg,hf,_,_,_,_,⟨hk,_,e⟩ | ⟨hk,e⟩⟩
 ·exact absurd h h1
 ·rw[e];exact C0 hg _ hf hk
 ·rw[e];exact sL hg _ hf hk
theorem GW {s:aB} {who:Int} {f:aD} (S:g7 s):g7 (aN s who f).1:=by
 rcases dI s who f with ⟨_,h1,_⟩ | ⟨hg,hf,_,_,_,_,⟨hk,_,e⟩ | ⟨hk,e⟩⟩
 ·rw[h1];exact S
 ·rw[e];exact D3 hg S _ hf
 ·rw[e];exact BM hg S _ hf hk
theorem mD (s:aB) (who:Int) (f:aD) (h0:∀n,0≤(s.ent n).state):fU s (aN s who f).1:=by
 rcases dI s who f with ⟨_,h1,_⟩ | ⟨_,_,_,_,_,_,⟨_,_,e⟩ | ⟨_,e⟩⟩
 ·rw[h1];exact fU.refl s
 ·rw[e];exact sP s _ f
 ·rw[e];exact y8 s _ f h0
structure iH (ok:Nat→Prop) (w:World) (nv:Nat→Value) (o:Nat) (e:cV):Prop where
 state:nv o= .int .i64 e.state
 ops:IsO ok w (nv (o+1)) e.ops
 first:IsI ok w (nv (o+2)) e.first
 deps:IsI ok w (nv (o+3)) e.deps
 ats:IsI ok w (nv (o+4)) e.ats
 vals:IsI ok w (nv (o+5)) e.vals
theorem iH.later {ok:Nat→Prop} {w w':World} {nv:Nat→Value} {o:Nat} {e:cV} (h:iH ok w nv o e) (hB:bL ok w w'):iH ok w' nv o e:=
 ⟨h.state,h.ops.later hB,h.first.later hB,h.deps.later hB,h.ats.later hB,h.vals.later hB⟩
theorem iH.mono {ok ok':Nat→Prop} {w:World} {nv:Nat→Value} {o:Nat} {e:cV} (h:iH ok w nv o e) (hk:∀k,k<w.heap.size→ok k→ok' k):iH ok' w nv o e:=
 ⟨h.state,h.ops.mono hk,h.first.mono hk,h.deps.mono hk,h.ats.mono hk,h.vals.mono hk⟩
theorem iH.same {ok:Nat→Prop} {w:World} {nv nv':Nat→Value} {o o':Nat} {e:cV} (h:iH ok w nv o e) (hn:∀j,j<6→nv' (o'+j)=nv (o+j)):iH ok w nv' o' e:=
 ⟨by have:=hn 0 (by omega);simp only[Nat.add_zero] at this;rw[this];exact h.state,by rw[hn 1 (by omega)];exact h.ops,by rw[hn 2 (by omega)];exact h.first,by rw[hn 3 (by omega)];exact h.deps,by rw[hn 4 (by omega)];exact h.ats,by rw[hn 5 (by omega)];exact h.vals⟩
theorem iH.one {ok:Nat→Prop} {w:World} {nv:Nat→Value} {o:Nat} {e:cV} (h:iH ok w nv o e):∀j,j<6→(nv (o+j)).oneCell'=true:=by
 intro j hj
 match j,hj with
 | 0,_=>rw[Nat.add_zero,h.state];rfl
 | 1,_=>exact h.ops.one
 | 2,_=>exact h.first.one
 | 3,_=>exact h.deps.one
 | 4,_=>exact h.ats.one
 | 5,_=>exact h.vals.one
structure iS (ok:Nat→Prop) (w:World) (nv:Nat→Value) (s:aB):Prop where
 ent:∀i,i<32→iH ok w nv (i*6) (s.ent i)
 vals:∀k,k<8→nv (193+k)= .int .i64 (s.vals k)
structure bJ (ok:Nat→Prop) (w:World) (nv:Nat→Value) (s:aB):Prop where
 es:iS ok w nv s
 order:IsI ok w (nv 192) s.order
theorem iS.later {ok:Nat→Prop} {w w':World} {nv:Nat→Value} {s:aB} (h:iS ok w nv s) (hB:bL ok w w'):iS ok w' nv s:=⟨fun i hi=>(h.ent i hi).later hB,h.vals⟩
theorem iS.mono {ok ok':Nat→Prop} {w:World} {nv:Nat→Value} {s:aB} (h:iS ok w nv s) (hk:∀k,k<w.heap.size→ok k→ok' k):iS ok' w nv s:=⟨fun i hi=>(h.ent i hi).mono hk,h.vals⟩
theorem bJ.later {ok:Nat→Prop} {w w':World} {nv:Nat→Value} {s:aB} (h:bJ ok w nv s) (hB:bL ok w w'):bJ ok w' nv s:=⟨h.es.later hB,h.order.later hB⟩
theorem bJ.mono {ok ok':Nat→Prop} {w:World} {nv:Nat→Value} {s:aB} (h:bJ ok w nv s) (hk:∀k,k<w.heap.size→ok k→ok' k):bJ ok' w nv s:=⟨h.es.mono hk,h.order.mono hk⟩
theorem bJ.below {w w':World} {nv:Nat→Value} {s:aB} (h:bJ (· <w.heap.size) w nv s) (hb:Below w.heap.size w w'):bJ (· <w'.heap.size) w' nv s:=
 (h.later (bL.of_size hb)).mono (fun k _ (h:k<w.heap.size)=>by have:=hb.size;show k<_;omega)
theorem bJ.any {ok:Nat→Prop} {w:World} {nv:Nat→Value} {s:aB} (h:bJ ok w nv s):bJ (· <w.heap.size) w nv s:=h.mono (fun _ h _=>h)
theorem bJ.one {ok:Nat→Prop} {w:World} {nv:Nat→Value} {s:aB} (h:bJ ok w nv s):∀i,i<201→(nv i).oneCell'=true:=by
 intro i hi
 by_cases h1:i<192
 ·have:=(h.es.ent (i / 6) (by omega)).one (i % 6) (by omega)
  rw[show i / 6*6+i % 6=i by omega] at this
  exact this
 ·by_cases h2:i=192
  ·subst h2;exact h.order.one
  ·have:=h.es.vals (i-193) (by omega)
   rw[show 193+(i-193)=i by omega] at this
   rw[this];rfl
def cV.nums (e:cV) (f:Nat):List Int:=if f=2 then e.first else if f=3 then e.deps else if f=4 then e.ats else e.vals
def cY (ok:Nat→Prop) (w:World) (e:cV) (f:Nat) (v:Value):Prop:=if f=0 then v= .int .i64 e.state else if f=1 then IsO ok w v e.ops else IsI ok w v (e.nums f)
theorem iH.get {ok:Nat→Prop} {w:World} {nv:Nat→Value} {o:Nat} {e:cV} (h:iH ok w nv o e):∀f,f<6→cY ok w e f (nv (o+f)):=by
 intro f hf
 match f,hf with
 | 0,_=>exact h.state
 | 1,_=>exact h.ops
 | 2,_=>exact h.first
 | 3,_=>exact h.deps
 | 4,_=>exact h.ats
 | 5,_=>exact h.vals
theorem iH.of {ok:Nat→Prop} {w:World} {nv:Nat→Value} {o:Nat} {e:cV} (h:∀f,f<6→cY ok w e f (nv (o+f))):iH ok w nv o e:=
 ⟨h 0 (by omega),h 1 (by omega),h 2 (by omega),h 3 (by omega),h 4 (by omega),h 5 (by omega)⟩
theorem iS.change {ok:Nat→Prop} {w:World} {nv nv':Nat→Value} {s:aB} (h:iS ok w nv s) {k:Nat} {e':cV} (he:∀f,f<6→cY ok w e' f (nv' (k*6+f)))
  (ho:∀i,i<201→(i<k*6∨k*6+6≤i)→i≠192→nv' i=nv i) (hk:k<32) (o:List Int):iS ok w nv' ⟨upd s.ent k e',o,s.vals⟩:=by
 refine⟨fun i hi=>?_,fun j hj=>?_⟩
 ·by_cases e:i=k
  ·subst e
   show iH ok w nv' (i*6) (upd s.ent i e' i)
   rw[aU]
   exact iH.of he
  ·show iH ok w nv' (i*6) (upd s.ent k e' i)
   rw[aQ _ _ e]
   exact (h.ent i hi).same (fun j hj=>ho _ (by omega) (by omega) (by omega))
 ·rw[ho _ (by omega) (by omega) (by omega)]
  exact h.vals j hj
theorem bJ.put {ok:Nat→Prop} {w:World} {nv:Nat→Value} {s:aB} (h:bJ ok w nv s) {k f:Nat} (hk:k<32) (hf:f<6) {v:Value} (hv:cY ok w (s.ent k) f v):bJ ok w (fun i=>if i=k*6+f then v else nv i) s:=by
 refine⟨⟨fun i hi=>iH.of fun g hg=>?_,fun j hj=>?_⟩,?_⟩
 ·show cY ok w (s.ent i) g (if i*6+g=k*6+f then v else nv (i*6+g))
  by_cases e:i*6+g=k*6+f
  ·obtain rfl:i=k:=by omega
   obtain rfl:g=f:=by omega
   rw[if_pos rfl]
   exact hv
  ·rw[if_neg e]
   exact (h.es.ent i hi).get g hg
 ·show (if 193+j=k*6+f then v else nv (193+j))=_
  rw[if_neg (by omega)]
  exact h.es.vals j hj
 ·show IsI ok w (if 192=k*6+f then v else nv 192) _
  rw[if_neg (by omega)]
  exact h.order
theorem Tryz.infoNode:(Tryz.prog.info? 42).map (·.size)=some 201:=by kernel_rfl
theorem Tryz.infoEnts:(Tryz.prog.info? 39).map (·.size)=some 192:=by kernel_rfl
theorem Tryz.infoEntry:(Tryz.prog.info? 38).map (·.size)=some 6:=by kernel_rfl
structure aG where
 begun:Bool
 fixed:Bool
 ops:List OpL
 told:Nat→Bool
 known:Nat→Bool
 deps:List Int
 has:Nat→Bool
 vals:Nat→Int
def b9:aG:=⟨false,false,[],fun _=>false,fun _=>false,[],fun _=>false,fun _=>0⟩
def yC (n:Nat) (p:Nat→Bool):Bool:=(List.range n).all fun i=>!p i
def dU (c:aG):Bool:=
 if c.begun then bO c.ops && bD (-1) c.deps
 else !c.fixed && c.ops.isEmpty && yC 6 c.told && yC 6 c.known && c.deps.isEmpty && yC 4 c.has && (List.range 4).all fun i=>c.vals i == 0
def gQ (a b:List Int):List Int:=cG (fun i=>a.contains (i:Int) || b.contains (i:Int)) 32
def aG.lacks (c:aG) (sh:Int):Bool:=(List.range c.ops.length).any fun i=>kR sh (c.ops.getD i (0,0,0)) && !c.has i
def aG.send (c:aG) (id:Int) (n:Nat):List aD:=
 if c.fixed then (if !c.known n || c.lacks (ofL n) then [⟨3,n,id,c.ops,c.deps,[],[]⟩] else [])
 else if bP c.ops (ofL n) && !c.told n then [⟨1,n,id,c.ops,[],[],[]⟩] else []
def cQ (c:aG) (id:Int):List aD:=
 if dU c=false∨c.begun=false∨id<0∨32≤id∨dY c.deps id=true then [] else (List.range 6).flatMap (c.send id)
def bI (id:Int) (ops:List OpL):aG × List aD × Int:=
 if id<0∨32≤id then (b9,[],2) else if bO ops=false then (b9,[],1)
 else ({ b9 with begun:=true,ops:=ops },cQ { b9 with begun:=true,ops:=ops } id,0)
def m6 (t:Nat→Bool) (sh:Nat):Nat:=((List.range 3).filter fun k=>t (sh*3+k)).length
def eC (ops:List OpL) (t:Nat→Bool):Bool:=(!bP ops 0 || decide (2≤m6 t 0)) && (!bP ops 1 || decide (2≤m6 t 1))
def aG.hear (c:aG) (f:aD):aG:=
 { c with told:=upd c.told f.node.toNat true,deps:=gQ c.deps f.deps,fixed:=eC c.ops (upd c.told f.node.toNat true) }
def aG.done1 (sh:Int) (c:aG) (p:Int × Int):aG:=
 if p.1<c.ops.length∧kR sh (c.ops.getD p.1.toNat (0,0,0))=true∧c.has p.1.toNat=false then { c with has:=upd c.has p.1.toNat true,vals:=upd c.vals p.1.toNat p.2 } else c
def aG.dones (c:aG) (sh:Int) (l:List (Int × Int)):aG:=l.foldl (aG.done1 sh) c
def aR (c:aG) (id:Int) (f:aD):aG × List aD × Int:=
 if dU c=false∨c.begun=false∨f.id≠id∨dY c.deps id=true then (c,[],2)
 else if aM f≠0 then (c,[],aM f)
 else if f.kind=1∨f.kind=3 then (c,[],3)
 else if f.kind=2 then
  if c.fixed=true∨c.told f.node.toNat=true∨bP c.ops (ofL f.node)=false then (c,[],0)
  else (c.hear f,if (c.hear f).fixed then cQ (c.hear f) id else [],0)
 else if c.fixed=false then (c,[],0)
 else if f.kind=4 then ({ c with known:=upd c.known f.node.toNat true },[],0)
 else (c.dones (ofL f.node) (f.ats.zip f.vals),[],0)
def cT (c:aG):List Int × Bool:=
 if c.begun=false∨dU c=false∨c.lacks 0=true∨c.lacks 1=true then ([],false) else ((List.range c.ops.length).map c.vals,true)
structure kU (c d:aG):Prop where
 begun:d.begun=c.begun
 fixed:d.fixed=c.fixed
 ops:d.ops=c.ops
 told:d.told=c.told
 deps:d.deps=c.deps
theorem kU.refl (c:aG):kU c c:=⟨rfl,rfl,rfl,rfl,rfl⟩
theorem kU.trans {a b c:aG} (h:kU a b) (k:kU b c):kU a c:=⟨k.begun.trans h.begun,k.fixed.trans h.fixed,k.ops.trans h.ops,k.told.trans h.told,k.deps.trans h.deps⟩
def jJ (c d:aG):Prop:=∀i,c.has i=true→d.has i=true∧d.vals i=c.vals i
theorem jJ.refl (c:aG):jJ c c:=fun _ h=>⟨h,rfl⟩
theorem jJ.trans {a b c:aG} (h:jJ a b) (k:jJ b c):jJ a c:=fun i hi=>⟨(k i (h i hi).1).1,((k i (h i hi).1).2).trans (h i hi).2⟩
theorem AM (sh:Int) (c:aG) (p:Int × Int):kU c (aG.done1 sh c p)∧jJ c (aG.done1 sh c p):=by
 unfold aG.done1
 split
 ·rename_i h
  refine⟨⟨rfl,rfl,rfl,rfl,rfl⟩,fun i hi=>?_⟩
  have hne:i≠p.1.toNat:=fun e=>by rw[e,h.2.2] at hi;cases hi
  exact⟨by show upd _ _ _ i=true;rw[aQ _ _ hne];exact hi,aQ _ _ hne⟩
 ·exact⟨kU.refl c,jJ.refl c⟩
theorem oL (sh:Int):∀(l:List (Int × Int)) (c:aG),kU c (c.dones sh l)∧jJ c (c.dones sh l)
 | [],c=>⟨kU.refl c,jJ.refl c⟩
 | p::l,c=>by
  have h1:=AM sh c p
  have h2:=oL sh l (aG.done1 sh c p)
  exact⟨h1.1.trans h2.1,h1.2.trans h2.2⟩
theorem f8 (c:aG) (id:Int) (f:aD):
  ((aR c id f).2.2≠0∧(aR c id f).1=c∧(aR c id f).2.1=[])∨
  ((aR c id f).2.2=0∧aM f=0∧f.kind=2∧c.fixed=false∧c.told f.node.toNat=false∧bP c.ops (ofL f.node)=true∧(aR c id f).1=c.hear f∧((aR c id f).2.1≠[]→(c.hear f).fixed=true))∨
  ((aR c id f).2.2=0∧(aR c id f).2.1=[]∧(f.kind=2→c.fixed=true∨c.told f.node.toNat=true∨bP c.ops (ofL f.node)=false)∧kU c (aR c id f).1∧jJ c (aR c id f).1∧(c.fixed=false→(aR c id f).1=c)):=by
 unfold aR
 split
 ·left;exact⟨(show (2:Int)≠0 by decide),rfl,rfl⟩
 ·split
  ·rename_i h;left;exact⟨h,rfl,rfl⟩
  ·rename_i hg
   have hg:aM f=0:=by
    by_cases e:aM f=0
    ·exact e
    ·exact absurd e hg
   split
   ·left;exact⟨(show (3:Int)≠0 by decide),rfl,rfl⟩
   ·split
    ·rename_i hk
     split
     ·rename_i h
      right;right
      exact⟨rfl,rfl,fun _=>h,kU.refl c,jJ.refl c,fun _=>rfl⟩
     ·rename_i h
      right;left
      have h1:c.fixed=false:=by cases e:c.fixed;rfl;exact absurd (Or.inl e) h
      have h2:c.told f.node.toNat=false:=by cases e:c.told f.node.toNat;rfl;exact absurd (Or.inr (Or.inl e)) h
      have h3:bP c.ops (ofL f.node)=true:=by cases e:bP c.ops (ofL f.node);exact absurd (Or.inr (Or.inr e)) h;rfl
      refine⟨rfl,hg,hk,h1,h2,h3,rfl,fun hn=>?_⟩
      cases e:(c.hear f).fixed
      ·exact absurd (by show (if (c.hear f).fixed=true then _ else _)=_;rw[e];rfl) hn
      ·rfl
    ·rename_i hk
     split
     ·right;right
      exact⟨rfl,rfl,fun e=>absurd e hk,kU.refl c,jJ.refl c,fun _=>rfl⟩
     ·rename_i hf
      split
      ·right;right
       exact⟨rfl,rfl,fun e=>absurd e hk,⟨rfl,rfl,rfl,rfl,rfl⟩,jJ.refl c,fun e=>absurd e hf⟩
      ·right;right
       have h1:=oL (ofL f.node) (f.ats.zip f.vals) c
       exact⟨rfl,rfl,fun e=>absurd e hk,h1.1,h1.2,fun e=>absurd e hf⟩
structure LH (ops:List OpL) (c:aG) (t:Nat→Bool) (d:List Int):Prop where
 begun:c.begun=true
 eops:c.ops=ops
 told:c.told=t
 deps:c.deps=d
 most:c.fixed=true→eC ops t=true
theorem wL {id:Int} {ops:List OpL} (h:(bI id ops).2.2=0):LH ops (bI id ops).1 (fun _=>false) []∧bO ops=true∧0≤id∧id<32:=by
 unfold bI at *
 split at h
 ·exact absurd h (show (2:Int)≠0 by decide)
 ·rename_i h1
  split at h
  ·exact absurd h (show (1:Int)≠0 by decide)
  ·rename_i h2
   rw[if_neg h1,if_neg h2]
   refine⟨⟨rfl,rfl,rfl,rfl,fun e=>(by cases e)⟩,?_,?_,?_⟩
   ·cases e:bO ops
    ·exact absurd e h2
    ·rfl
   ·by_cases e:id<0
    ·exact absurd (Or.inl e) h1
    ·omega
   ·by_cases e:32≤id
    ·exact absurd (Or.inr e) h1
    ·omega
structure nK (ops:List OpL) (c:aG):Prop where
 begun:c.begun=true
 eops:c.ops=ops
 good:dU c=true
 none:c.fixed=false→∀i,c.has i=false
theorem wR {c:aG} (h0:c.lacks 0=false) (h1:c.lacks 1=false) {i:Nat} (hi:i<c.ops.length):c.has i=true:=by
 unfold aG.lacks at h0 h1
 rw[List.any_eq_false] at h0 h1
 have g0:=h0 i (List.mem_range.2 hi)
 have g1:=h1 i (List.mem_range.2 hi)
 cases e:c.has i
 ·rw[e] at g0 g1
  simp[kR] at g0 g1
  omega
 ·rfl
theorem wP {c:aG} (h:∀i,i<c.ops.length→c.has i=true) (sh:Int):c.lacks sh=false:=by
 unfold aG.lacks
 rw[List.any_eq_false]
 intro i hi
 rw[h i (List.mem_range.1 hi)]
 simp
theorem LW {ops:List OpL} {c:aG} (h:nK ops c) (hr:(cT c).2=true):(∀i,i<ops.length→c.has i=true)∧(cT c).1=(List.range ops.length).map c.vals:=by
 unfold cT at *
 split at hr
 ·cases hr
 ·rename_i hn
  rw[if_neg hn,h.eops]
  refine⟨fun i hi=>wR ?_ ?_ (by rw[h.eops];exact hi),rfl⟩
  ·cases e:c.lacks 0
   ·rfl
   ·exact absurd (Or.inr (Or.inr (Or.inl e))) hn
  ·cases e:c.lacks 1
   ·rfl
   ·exact absurd (Or.inr (Or.inr (Or.inr e))) hn
theorem JL (xs:List Nat):∀(l:Int),(∀x∈xs,l<(x:Int)∧x<32)→xs.Pairwise (· < ·)→bD l (xs.map Int.ofNat)=true:=by
 induction xs with
 | nil=>intros;rfl
 | cons x r ih=>
  intro l h hp
  have hx:=h x (by simp)
  obtain⟨h1,h2⟩:=List.pairwise_cons.1 hp
  rw[List.map_cons,bD,ih (Int.ofNat x) (fun y hy=>⟨by have:=h1 y hy;simp;omega,(h y (by simp[hy])).2⟩) h2]
  have e1:decide (Int.ofNat x≤l)=false:=by simp;omega
  have e2:decide (32≤Int.ofNat x)=false:=by simp;omega
  rw[e1,e2]
  rfl
theorem C6 (a b:List Int):bD (-1) (gQ a b)=true:=by
 refine JL _ _ (fun x hx=>?_) (List.Pairwise.filter _ List.pairwise_lt_range)
 have:=List.mem_range.1 (List.mem_filter.1 hx).1
 omega
theorem wY {id:Int} {ops:List OpL} (h:(bI id ops).2.2=0):nK ops (bI id ops).1:=by
 obtain⟨hf,hg,_⟩:=wL h
 have e:(bI id ops).1={ b9 with begun:=true,ops:=ops }:=by
  unfold bI at *
  split at h
  ·exact absurd h (show (2:Int)≠0 by decide)
  ·rename_i h1
   split at h
   ·exact absurd h (show (1:Int)≠0 by decide)
   ·rename_i h2
    rw[if_neg h1,if_neg h2]
 rw[e]
 refine⟨rfl,rfl,?_,fun _ _=>rfl⟩
 unfold dU
 rw[if_pos rfl]
 show (bO ops && bD (-1) [])=true
 rw[hg]
 rfl
theorem jZ {c:aG} (hb:c.begun=true):dU c=(bO c.ops && bD (-1) c.deps):=by unfold dU;rw[if_pos hb]
theorem zR {ops:List OpL} {c:aG} {id:Int} {f:aD} (h:nK ops c):nK ops (aR c id f).1∧jJ c (aR c id f).1:=by
 have hg:=h.good
 rw[jZ h.begun,Bool.and_eq_true] at hg
 rcases f8 c id f with ⟨_,h1,_⟩ | ⟨_,_,_,hf,_,_,he,_⟩ | ⟨_,_,_,hs,hk,hc⟩
 ·rw[h1];exact⟨h,jJ.refl c⟩
 ·rw[he]
  refine⟨⟨h.begun,h.eops,?_,fun _ i=>h.none hf i⟩,fun i hi=>⟨hi,rfl⟩⟩
  rw[jZ (c:=c.hear f) h.begun,Bool.and_eq_true]
  exact⟨hg.1,C6 _ _⟩
 ·refine⟨⟨hs.begun.trans h.begun,hs.ops.trans h.eops,?_,fun e i=>?_⟩,hk⟩
  ·rw[jZ (hs.begun.trans h.begun),hs.ops,hs.deps,Bool.and_eq_true];exact hg
  ·have e1:c.fixed=false:=by rw[←hs.fixed];exact e
   rw[hc e1];exact h.none e1 i
structure bW (ok:Nat→Prop) (w:World) (nv:Nat→Value) (c:aG):Prop where
 begun:nv 0= .bool c.begun
 fixed:nv 1= .bool c.fixed
 ops:IsO ok w (nv 2) c.ops
 told:∀i,i<6→nv (3+i)= .bool (c.told i)
 known:∀i,i<6→nv (9+i)= .bool (c.known i)
 deps:IsI ok w (nv 15) c.deps
 has:∀i,i<4→nv (16+i)= .bool (c.has i)
 vals:∀i,i<4→nv (20+i)= .int .i64 (c.vals i)
theorem bW.later {ok:Nat→Prop} {w w':World} {nv:Nat→Value} {c:aG} (h:bW ok w nv c) (hB:bL ok w w'):bW ok w' nv c:=
 ⟨h.begun,h.fixed,h.ops.later hB,h.told,h.known,h.deps.later hB,h.has,h.vals⟩
theorem bW.mono {ok ok':Nat→Prop} {w:World} {nv:Nat→Value} {c:aG} (h:bW ok w nv c) (hk:∀k,k<w.heap.size→ok k→ok' k):bW ok' w nv c:=
 ⟨h.begun,h.fixed,h.ops.mono hk,h.told,h.known,h.deps.mono hk,h.has,h.vals⟩
theorem bW.below {w w':World} {nv:Nat→Value} {c:aG} (h:bW (· <w.heap.size) w nv c) (hb:Below w.heap.size w w'):bW (· <w'.heap.size) w' nv c:=
 (h.later (bL.of_size hb)).mono (fun k _ (h:k<w.heap.size)=>by have:=hb.size;show k<_;omega)
theorem bW.any {ok:Nat→Prop} {w:World} {nv:Nat→Value} {c:aG} (h:bW ok w nv c):bW (· <w.heap.size) w nv c:=h.mono (fun _ h _=>h)
theorem bW.one {ok:Nat→Prop} {w:World} {nv:Nat→Value} {c:aG} (h:bW ok w nv c):∀i,i<24→(nv i).oneCell'=true:=by
 intro i hi
 by_cases h0:i=0
 ·subst h0;rw[h.begun];rfl
 by_cases h1:i=1
 ·subst h1;rw[h.fixed];rfl
 by_cases h2:i=2
 ·subst h2;exact h.ops.one
 by_cases h3:i<9
 ·have:=h.told (i-3) (by omega)
  rw[show 3+(i-3)=i by omega] at this
  rw[this];rfl
 by_cases h4:i<15
 ·have:=h.known (i-9) (by omega)
  rw[show 9+(i-9)=i by omega] at this
  rw[this];rfl
 by_cases h5:i=15
 ·subst h5;exact h.deps.one
 by_cases h6:i<20
 ·have:=h.has (i-16) (by omega)
  rw[show 16+(i-16)=i by omega] at this
  rw[this];rfl
 ·have:=h.vals (i-20) (by omega)
  rw[show 20+(i-20)=i by omega] at this
  rw[this];rfl
def zcv (i:Nat):Value:=if i=2∨i=15 then .slice none 0 0 else if 20≤i then .int .i64 0 else .bool false
theorem nU (ok:Nat→Prop) (w:World):bW ok w zcv b9:=
 ⟨rfl,rfl,IsO.nil ok w,fun i hi=>by
   unfold zcv;rw[if_neg (by omega),if_neg (by omega)];rfl,fun i hi=>by
   unfold zcv;rw[if_neg (by omega),if_neg (by omega)];rfl,IsI.nil ok w,fun i hi=>by
   unfold zcv;rw[if_neg (by omega),if_neg (by omega)];rfl,fun i hi=>by
   unfold zcv;rw[if_neg (by omega),if_pos (by omega)];rfl⟩
theorem Tryz.infoCase:(Tryz.prog.info? 51).map (·.size)=some 24:=by kernel_rfl
theorem Tryz.zeroCase:(Tryz.prog.info? 51).map (·.zero)=some (some (.agg (aE 24 zcv))):=by kernel_rfl
def fK (e:cV):List OpL × List Int × List Int × Bool × Bool:=(e.ops,e.first,e.deps,decide (1≤e.state),decide (2≤e.state))
theorem wK (s:aB) (sh:Int) {n:Nat} (h:(s.ent n).state=2) (i:Nat):fK ((s.exec sh n).ent i)=fK (s.ent i):=by
 by_cases e:i=n
 ·subst e
  have:(s.exec sh i).ent i=⟨3,(s.ent i).ops,(s.ent i).first,(s.ent i).deps,_,_⟩:=aU _ _ _
  rw[this]
  unfold fK
  rw[h]
  rfl
 ·have:(s.exec sh n).ent i=s.ent i:=aQ _ _ e
  rw[this]
theorem AO (s:aB) (sh:Int) (n i:Nat):fK ((aB.execIf sh s n).ent i)=fK (s.ent i):=by
 unfold aB.execIf
 split
 ·rename_i h;exact wK s sh h i
 ·rfl
theorem tZ (sh:Int) (i:Nat):∀(l:List Nat) (s:aB),fK ((s.execs sh l).ent i)=fK (s.ent i)
 | [],_=>rfl
 | n::l,s=>(tZ sh i l (aB.execIf sh s n)).trans (AO s sh n i)
theorem uU (g:bG) (sh:Int) (i:Nat):∀(l:List Nat) (s:aB),fK ((l.foldl (aB.round g sh) s).ent i)=fK (s.ent i)
 | [],_=>rfl
 | n::l,s=>by
  refine (uU g sh i l (aB.round g sh s n)).trans ?_
  unfold aB.round
  split
  ·exact tZ sh i _ s
  ·rfl
theorem sV (s:aB) (sh:Int) (i:Nat):fK ((s.settle sh).ent i)=fK (s.ent i):=uU _ sh i _ s
theorem mC {s:aB} {who:Int} {f:aD} {i:Nat} (hi:i≠f.id.toNat):fK ((aN s who f).1.ent i)=fK (s.ent i):=by
 rcases dI s who f with ⟨_,h1,_⟩ | ⟨_,_,_,_,_,_,⟨_,_,e⟩ | ⟨_,e⟩⟩
 ·rw[h1]
 ·rw[e]
  show fK ((s.asked _ f).ent i)=_
  unfold aB.asked
  split
  ·rw[eY s _ f hi]
  ·rfl
 ·rw[e]
  show fK ((s.commit _ f).ent i)=_
  unfold aB.commit
  split
  ·rw[sV]
   have:(s.placed (ofL who) f).ent i=s.ent i:=aQ _ _ hi
   rw[this]
  ·rfl
theorem nA {s:aB} {who:Int} {f:aD} (h0:(aN s who f).2.2=0) (hk:f.kind=1):
  (aN s who f).1.ent f.id.toNat=if (s.ent f.id.toNat).state=0 then ⟨1,f.ops,s.ahead f.id.toNat f.ops (ofL who),[],[],[]⟩ else s.ent f.id.toNat:=by
 rcases dI s who f with ⟨h1,_⟩ | ⟨_,_,_,_,_,_,⟨_,_,e⟩ | ⟨hk3,_⟩⟩
 ·exact absurd h0 h1
 ·rw[e]
  show (s.asked _ f).ent _=_
  unfold aB.asked
  split
  ·exact i7 s _ f
  ·rfl
 ·omega
theorem lK {s:aB} {who:Int} {f:aD} (h0:(aN s who f).2.2=0) (hk:f.kind=3):
  fK ((aN s who f).1.ent f.id.toNat)=if (s.ent f.id.toNat).state<2 then (f.ops,(if (s.ent f.id.toNat).state=0 then s.ahead f.id.toNat f.ops (ofL who) else (s.ent f.id.toNat).first),f.deps,true,true) else fK (s.ent f.id.toNat):=by
 rcases dI s who f with ⟨h1,_⟩ | ⟨_,_,_,_,_,_,⟨hk1,_,_⟩ | ⟨_,e⟩⟩
 ·exact absurd h0 h1
 ·omega
 ·rw[e]
  show fK ((s.commit _ f).ent _)=_
  unfold aB.commit
  split
  ·rw[sV,kC]
   rfl
  ·rfl
theorem CN {e:cV} {a:List OpL} {b c:List Int} {d g:Bool} (h:fK e=(a,b,c,d,g)):e.ops=a∧e.first=b∧e.deps=c∧decide (1≤e.state)=d∧decide (2≤e.state)=g:=by
 unfold fK at h
 simp only[Prod.mk.injEq] at h
 exact h
theorem lN {e e':cV} (h:fK e=fK e'):e.ops=e'.ops∧e.first=e'.first∧e.deps=e'.deps∧((1≤e.state)↔(1≤e'.state))∧((2≤e.state)↔(2≤e'.state)):=by
 unfold fK at h
 simp only[Prod.mk.injEq,decide_eq_decide] at h
 exact h
theorem n7 {s:aB} {id:Nat} {ops:List OpL} {sh:Int} {x:Nat}:(x:Int)∈s.ahead id ops sh↔x<32∧x≠id∧0<(s.ent x).state∧eM (s.ent x).ops ops sh=true:=by
 unfold aB.ahead cG
 simp[and_assoc]
 constructor
 ·rintro⟨a,h1,h2,h3,h4,e⟩
  obtain rfl:a=x:=by omega
  exact⟨h1,h2,h3,h4⟩
 ·rintro⟨h1,h2,h3,h4⟩
  exact⟨x,h1,h2,h3,h4,rfl⟩
theorem uL (o p:OpL):nD o p=nD p o:=by
 unfold nD
 rw[Bool.or_comm (o.1 !=1)]
 have:(o.2.1 == p.2.1)=(p.2.1 == o.2.1):=by
  rw[Bool.eq_iff_iff,beq_iff_eq,beq_iff_eq]
  exact eq_comm
 rw[this]
theorem qM (a b:List OpL) (s:Int):eM a b s=true↔∃o∈a,∃p∈b,o.2.1 % 2=s∧nD o p=true:=by
 simp only[eM,nY,qS,List.any_eq_true,Bool.and_eq_true,beq_iff_eq]
 constructor
 ·rintro⟨o,ho,hs,p,hp,hm⟩
  exact⟨o,ho,p,hp,hs,hm⟩
 ·rintro⟨o,ho,p,hp,hs,hm⟩
  exact⟨o,ho,hs,p,hp,hm⟩
theorem zE {o p:OpL} (h:nD o p=true):o.2.1=p.2.1:=by
 unfold nD at h
 simp at h
 exact h.1
theorem qA (a b:List OpL) (s:Int):eM a b s=eM b a s:=by
 rw[Bool.eq_iff_iff,qM,qM]
 constructor
 ·rintro⟨o,ho,p,hp,hs,hm⟩
  exact⟨p,hp,o,ho,by rw[←zE hm];exact hs,by rw[uL];exact hm⟩
 ·rintro⟨o,ho,p,hp,hs,hm⟩
  exact⟨p,hp,o,ho,by rw[←zE hm];exact hs,by rw[uL];exact hm⟩
end Go.Proofs.YtkoefoccbjhoiadGreat
