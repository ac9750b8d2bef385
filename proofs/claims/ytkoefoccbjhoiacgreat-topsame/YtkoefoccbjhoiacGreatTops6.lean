/-
squeezed by tools/squeeze.py from: NodeG GLearn NodeS NodeT NMem PostL CMem CluN Confl
-/
import Derived.Test.YtkoefoccbjhoiacGreatTops5
import Derived.Test.YtkoefoccbjhoiacGreatTops3
import Derived.Test.YtkoefoccbjhoiacGreatTops2
import Derived.Test.YtkoefoccbjhoiacGreatTops1
set_option linter.unusedVariables false
set_option linter.unusedSimpArgs false
set_option maxRecDepth 100000
set_option maxHeartbeats 4000000
namespace Go.Proofs.YtkoefoccbjhoiacGreat
open Go.RowKit
theorem IB (xs:List Nat):∀(l:Int),(∀x∈xs,l<(x:Int)∧x<32)→xs.Pairwise (· < ·)→bF l (xs.map Int.ofNat)=true:=by
 induction xs with
 | nil=>intros;rfl
 | cons x r ih=>
  intro l h hp
  have hx:=h x (by simp)
  obtain⟨h1,h2⟩:=List.pairwise_cons.1 hp
  rw[List.map_cons,bF,ih (Int.ofNat x) (fun y hy=>⟨by have:=h1 y hy;simp;omega,(h y (by simp[hy])).2⟩) h2]
  have e1:decide (Int.ofNat x≤l)=false:=by simp;omega
  have e2:decide (32≤Int.ofNat x)=false:=by simp;omega
  rw[e1,e2]
  rfl
theorem sP (s:aB) (id:Nat) (ops:List OpL) (sh:Int):bF (-1) (s.ahead id ops sh)=true:=by
 unfold aB.ahead cN
 refine IB _ _ (fun x hx=>?_) (List.Pairwise.filter _ List.pairwise_lt_range)
 have:=List.mem_range.1 (List.mem_filter.1 hx).1
 omega
theorem wZ (s:aB) (id:Nat) (ops:List OpL) (sh:Int):eI (s.ahead id ops sh) id=false:=by
 unfold eI
 rw[List.any_eq_false]
 intro x hx he
 unfold aB.ahead cN at hx
 rw[List.mem_map] at hx
 obtain⟨y,hy,rfl⟩:=hx
 have h1:=(List.mem_filter.1 hy).2
 unfold eqB at he
 have:y=id:=by
  have h2:((y:Nat):Int)=(id:Int):=by simpa using he
  omega
 subst this
 simp at h1
theorem wO (sh:Int):∀(ops:List OpL) (i:Nat) (v:Nat→Int) (l:Int) (N:Nat),l<(i:Int)→i+ops.length≤N→dQ l N (cS sh i ops v).2.1=true
 | [],_,_,_,_,_,_=>rfl
 | o::r,i,v,l,N,h1,h2=>by
  simp only[List.length_cons] at h2
  unfold cS
  split
  ·show (decide (l<(i:Int)) && decide ((i:Int)<(N:Int)) && dQ (i:Int) N _)=true
   rw[decide_eq_true h1,decide_eq_true (show (i:Int)<(N:Int) by omega),wO sh r (i+1) _ (i:Int) N (by omega) (by omega)]
   rfl
  ·exact wO sh r (i+1) v l N (by omega) (by omega)
theorem wQ (sh:Int):∀(ops:List OpL) (i:Nat) (v:Nat→Int),(cS sh i ops v).2.2.length=(cS sh i ops v).2.1.length
 | [],_,_=>rfl
 | o::r,i,v=>by
  unfold cS
  split
  ·simp only[List.length_cons,wQ sh r (i+1)]
  ·exact wQ sh r (i+1) v
theorem KT:(1:Int)≤3∧(3:Int)≤3:=by decide
theorem MC:(1:Int)≤2∧(2:Int)≤3:=by decide
theorem MQ:(1:Int)≤1∧(1:Int)≤3:=by decide
theorem bT.fine {s:aB} (h:bT s) {n:Nat} (hn:n<32) (hs:(s.ent n).state≠0):C5 (s.ent n) n:=by
 rcases h.ent n hn with e | e
 ·rw[e] at hs;exact absurd rfl hs
 ·exact e
theorem bT.state {s:aB} (h:bT s) {n:Nat} (hn:n<32):0≤(s.ent n).state∧(s.ent n).state≤3:=by
 rcases h.ent n hn with e | e
 ·rw[e];decide
 ·have:=e.st;omega
theorem xK {s:aB} (h:bT s) (sh:Int) {n:Nat} (hn:n<32) (hs:(s.ent n).state=2):bT (s.exec sh n):=by
 have F:=h.fine hn (by rw[hs];decide)
 have same:(s.exec sh n).ent n=⟨3,(s.ent n).ops,(s.ent n).first,(s.ent n).deps,(cS sh 0 (s.ent n).ops s.vals).2.1,(cS sh 0 (s.ent n).ops s.vals).2.2⟩:=aT _ _ _
 have other:∀m,m≠n→(s.exec sh n).ent m=s.ent m:=fun m hm=>aQ _ _ hm
 refine⟨fun m hm=>?_,fun m hm=>?_,fun x hx=>?_⟩
 ·by_cases e:m=n
  ·subst e
   right
   rw[same]
   exact⟨KT,F.ops,F.first,F.deps,fun h=>absurd (show (3:Int)=1 from h) (by decide),fun h=>absurd rfl h,wO sh (s.ent m).ops 0 s.vals (-1) (s.ent m).ops.length (by omega) (by omega),wQ sh _ _ _⟩
  ·rw[other m e];exact h.ent m hm
 ·have h1:=h.cnt m hm
  show (s.order++[(n:Int)]).count (m:Int)=_
  rw[List.count_append,h1]
  by_cases e:m=n
  ·subst e
   rw[same,hs]
   simp
  ·rw[other m e]
   have:List.count (m:Int) [(n:Int)]=0:=by
    rw[List.count_eq_zero]
    simp
    omega
   rw[this]
   rfl
 ·rcases List.mem_append.1 hx with hx | hx
  ·exact h.lt x hx
  ·simp at hx
   omega
theorem lJ (sh:Int):∀(l:List Nat) {s:aB},(∀x∈l,x<32)→bT s→bT (s.execs sh l)
 | [],_,_,h=>h
 | a::l,s,hl,h=>by
  have h1:bT (aB.execIf sh s a):=by
   unfold aB.execIf
   split
   ·rename_i e;exact xK h sh (hl a (by simp)) e
   ·exact h
  exact lJ (s:=aB.execIf sh s a) sh l (fun x hx=>hl x (by simp[hx])) h1
theorem kP (g:bG) (n:Int):∀x∈eF g n,x<32:=by
 intro x hx
 unfold eF at hx
 split at hx
 ·exact (mE _ _ 32).lt x hx
 ·simp at hx
theorem BI {s:aB} (h:bT s) (sh:Int):bT (s.settle sh):=by
 have:∀(l:List Nat) (t:aB),bT t→bT (l.foldl (aB.round s.graph sh) t):=by
  intro l
  induction l with
  | nil=>exact fun t ht=>ht
  | cons a l ih=>
   intro t ht
   refine ih _ ?_
   unfold aB.round
   split
   ·exact lJ (s:=t) sh _ (kP _ _) ht
   ·exact ht
 exact this _ s h
theorem kA {f:aD} (h:aN f=0):0≤f.id∧f.id<32∧((f.kind=1∨f.kind=3)→bR f.ops=true)∧(f.kind=3→bF (-1) f.deps=true∧eI f.deps f.id=false):=by
 unfold aN at h
 split at h
 ·cases h
 ·split at h
  ·cases h
  ·rename_i h2
   split at h
   ·rename_i h3
    rw[Bool.and_eq_true,Bool.and_eq_true] at h3
    refine⟨by omega,by omega,fun hk=>?_,fun hk=>?_⟩
    ·have:=h3.1
     unfold eP at this
     rw[if_pos hk] at this
     exact this
    ·have:=h3.2.1
     unfold dU at this
     rw[if_pos (Or.inr hk),Bool.and_eq_true] at this
     exact⟨this.1,by simpa using this.2⟩
   ·cases h
theorem DQ {s:aB} (h:bT s) (sh:Int) {f:aD} (hf:aN f=0) (hk:f.kind=1):bT (s.asked sh f):=by
 obtain⟨i1,i2,i3,_⟩:=kA hf
 unfold aB.asked
 split
 ·rename_i e0
  refine⟨fun m hm=>?_,fun m hm=>?_,h.lt⟩
  ·by_cases e:m=f.id.toNat
   ·subst e
    right
    rw[jG]
    exact⟨MQ,i3 (Or.inl hk),⟨sP _ _ _ _,wZ _ _ _ _⟩,⟨rfl,rfl⟩,fun _=>rfl,fun _=>rfl,rfl,rfl⟩
   ·rw[fC s sh f e];exact h.ent m hm
  ·have h1:=h.cnt m hm
   show s.order.count (m:Int)=_
   rw[h1]
   by_cases e:m=f.id.toNat
   ·subst e
    rw[jG,e0]
    rfl
   ·rw[fC s sh f e]
 ·exact h
theorem lO {s:aB} (h:bT s) (sh:Int) {f:aD} (hf:aN f=0) (hk:f.kind=3) (hs:(s.ent f.id.toNat).state<2):bT (s.placed sh f):=by
 obtain⟨i1,i2,i3,i4⟩:=kA hf
 have hid:((f.id.toNat:Nat):Int)=f.id:=by omega
 have hlt:f.id.toNat<32:=by omega
 have other:∀m,m≠f.id.toNat→(s.placed sh f).ent m=s.ent m:=fun m hm=>aQ _ _ hm
 have hats:(s.ent f.id.toNat).ats=[]∧(s.ent f.id.toNat).vals=[]:=by
  rcases h.ent _ hlt with e | e
  ·rw[e];exact⟨rfl,rfl⟩
  ·have h1:=e.told (by omega)
   exact⟨h1,List.eq_nil_of_length_eq_zero (by rw[e.vals,h1];rfl)⟩
 refine⟨fun m hm=>?_,fun m hm=>?_,h.lt⟩
 ·by_cases e:m=f.id.toNat
  ·subst e
   right
   rw[kQ,hats.1,hats.2]
   have hfi:bF (-1) (if (s.ent f.id.toNat).state=0 then s.ahead f.id.toNat f.ops sh else (s.ent f.id.toNat).first)=true∧eI (if (s.ent f.id.toNat).state=0 then s.ahead f.id.toNat f.ops sh else (s.ent f.id.toNat).first) ((f.id.toNat:Nat):Int)=false:=by
    split
    ·exact⟨sP _ _ _ _,wZ _ _ _ _⟩
    ·rename_i e0
     exact (h.fine hlt e0).first
   have hdp:bF (-1) f.deps=true∧eI f.deps ((f.id.toNat:Nat):Int)=false:=by rw[hid];exact i4 hk
   exact⟨MC,i3 (Or.inr hk),hfi,hdp,fun h=>absurd (show (2:Int)=1 from h) (by decide),fun _=>rfl,rfl,rfl⟩
  ·rw[other m e];exact h.ent m hm
 ·have h1:=h.cnt m hm
  show s.order.count (m:Int)=_
  rw[h1]
  by_cases e:m=f.id.toNat
  ·subst e
   rw[kQ,if_neg (by omega)]
   rfl
  ·rw[other m e]
theorem tC {s:aB} (h:bT s) (sh:Int) {f:aD} (hf:aN f=0) (hk:f.kind=3):bT (s.commit sh f):=by
 unfold aB.commit
 split
 ·rename_i e;exact BI (lO h sh hf hk e) sh
 ·exact h
theorem GE:bT dO:=⟨fun _ _=>Or.inl rfl,fun _ _=>rfl,by simp[dO]⟩
def bG.learn (g:bG) (m:Nat) (zs:List Int):bG:=⟨upd g.known m true,upd g.deps m zs⟩
theorem xO {g:bG} {m:Nat} {zs:List Int} {x:Nat} (hx:x≠m) (y:Nat):(g.learn m zs).adj x y=g.adj x y:=by
 unfold bG.adj bG.learn
 simp only[aQ _ _ hx]
theorem BJ {g:bG} {m:Nat} {zs:List Int} {x y:Nat} (h:cC g.adj x y) (hm:¬ cC g.adj x m):cC (g.learn m zs).adj x y:=by
 induction h using cC.ind with
 | refl=>exact .refl _
 | step a h ih=>
  rename_i x z y
  have hx:x≠m:=fun e=>hm (e ▸ .refl _)
  exact .step (by rw[xO hx];exact a) (ih (fun h=>hm (.step a h)))
theorem yN {g:bG} {m:Nat} {zs:List Int} {x y:Nat} (h:cC (g.learn m zs).adj x y) (hm:¬ cC g.adj x m):cC g.adj x y:=by
 induction h using cC.ind with
 | refl=>exact .refl _
 | step a h ih=>
  rename_i x z y
  have hx:x≠m:=fun e=>hm (e ▸ .refl _)
  rw[xO hx] at a
  exact .step a (ih (fun h=>hm (.step a h)))
theorem GO {g:bG} {m:Nat} {zs:List Int} {x:Nat} (hx:x<32) (hm:cE g x m=false) (y:Nat):cE g x y=cE (g.learn m zs) x y:=by
 have hm':¬ cC g.adj x m:=fun h=>by rw[(cH g hx m).2 h] at hm;cases hm
 rw[Bool.eq_iff_iff,cH g hx y,cH (g.learn m zs) hx y]
 exact⟨fun h=>BJ h hm',fun h=>yN h hm'⟩
def aB.did (s:aB):List Nat:=s.order.map Int.toNat
theorem mV {s:aB} (h:bT s) {n:Nat} (hn:n<32):n∈s.did↔(s.ent n).state=3:=by
 have h1:=h.cnt n hn
 unfold aB.did
 rw[List.mem_map]
 constructor
 ·rintro⟨x,hx,e⟩
  have:=h.lt x hx
  have ex:x=(n:Int):=by omega
  subst ex
  have:0<s.order.count (n:Int):=List.count_pos_iff.2 hx
  split at h1
  ·assumption
  ·omega
 ·intro hs
  rw[if_pos hs] at h1
  exact⟨(n:Int),List.count_pos_iff.1 (by omega),by simp⟩
structure gT (s:aB):Prop where
 sorted:jQ (cE s.graph) s.did
 ready:∀x∈s.did,∀d,d<32→cE s.graph x d=true→s.graph.known d=true
theorem uY (s:aB) (sh:Int) (n:Nat) (h:(s.ent n).state=2):(s.exec sh n).graph=s.graph:=by
 have same:(s.exec sh n).ent n=⟨3,(s.ent n).ops,(s.ent n).first,(s.ent n).deps,_,_⟩:=aT _ _ _
 have other:∀m,m≠n→(s.exec sh n).ent m=s.ent m:=fun m hm=>aQ _ _ hm
 have e1:(fun i=>decide (2≤((s.exec sh n).ent i).state))=fun i=>decide (2≤(s.ent i).state):=by
  funext i
  by_cases e:i=n
  ·rw[e,same,h];rfl
  ·rw[other i e]
 have e2:(fun i=>((s.exec sh n).ent i).deps)=fun i=>(s.ent i).deps:=by
  funext i
  by_cases e:i=n
  ·rw[e,same]
  ·rw[other i e]
 unfold aB.graph
 rw[e1,e2]
theorem xE (sh:Int):∀(l:List Nat) (s:aB),l.Nodup→(s.execs sh l).did=s.did++l.filter (fun x=>decide ((s.ent x).state=2))∧(s.execs sh l).graph=s.graph∧∀x,x ∉ l→(s.execs sh l).ent x=s.ent x
 | [],s,_=>⟨by simp[aB.execs],rfl,fun _ _=>rfl⟩
 | a::l,s,hd=>by
  rw[List.nodup_cons] at hd
  obtain⟨i1,i2,i3⟩:=xE sh l (aB.execIf sh s a) hd.2
  have e0:s.execs sh (a::l)=(aB.execIf sh s a).execs sh l:=rfl
  rw[e0,i1,i2]
  by_cases h:(s.ent a).state=2
  ·have e1:aB.execIf sh s a=s.exec sh a:=by unfold aB.execIf;rw[if_pos h]
   have other:∀m,m≠a→(s.exec sh a).ent m=s.ent m:=fun m hm=>aQ _ _ hm
   rw[e1] at i3 ⊢
   refine⟨?_,uY s sh a h,fun x hx=>?_⟩
   ·have hf:l.filter (fun x=>decide (((s.exec sh a).ent x).state=2))=l.filter (fun x=>decide ((s.ent x).state=2)):=List.filter_congr fun x hx=>by rw[other x (fun e=>hd.1 (e ▸ hx))]
    rw[hf,List.filter_cons_of_pos (by simpa using h)]
    unfold aB.did aB.exec
    simp
   ·rw[i3 x (fun h=>hx (by simp[h])),other x (fun e=>hx (by simp[e]))]
  ·have e1:aB.execIf sh s a=s:=by unfold aB.execIf;rw[if_neg h]
   rw[e1] at i3 ⊢
   refine⟨by rw[List.filter_cons_of_neg (by simpa using h)],rfl,fun x hx=>i3 x (fun h=>hx (by simp[h]))⟩
theorem EZ {s:aB} (h:bT s) (S:gT s) (sh:Int) {n:Nat} (hn:n<32):gT (s.execs sh (eF s.graph n))∧(s.execs sh (eF s.graph n)).graph=s.graph:=by
 cases hr:jV s.graph (n:Int)
 ·have:eF s.graph (n:Int)=[]:=by unfold eF;rw[hr];rfl
  rw[this]
  exact⟨S,rfl⟩
 ·have hc:=zK s.graph hn
  have eo:eF s.graph (n:Int)=dV (cE s.graph) (cE s.graph n) 32:=by unfold eF;rw[hr,←vI s.graph hn];rfl
  have hk:∀i,i<32→cE s.graph n i=true→s.graph.known i=true:=by
   have h1:=hr
   unfold jV at h1
   rw[Bool.and_eq_true] at h1
   exact D1.1 h1.2
  have L:=mY hc 32
  obtain⟨e1,e2,_⟩:=xE sh (eF s.graph (n:Int)) s (by rw[eo];exact L.nodup)
  refine⟨?_,e2⟩
  have hf:(eF s.graph (n:Int)).filter (fun x=>decide ((s.ent x).state=2))=(dV (cE s.graph) (cE s.graph n) 32).filter fun x=>!s.did.contains x:=by
   rw[eo]
   refine List.filter_congr fun x hx=>?_
   have hd:=L.inD x hx
   have hx32:=hc.lt x hd
   have h2:2≤(s.ent x).state:=by simpa [aB.graph] using hk x hx32 hd
   have h3:=(h.state hx32).2
   have h4:=mV h hx32
   rw[Bool.eq_iff_iff]
   simp only[decide_eq_true_iff,Bool.not_eq_true',List.contains_eq_mem,decide_eq_false_iff_not]
   constructor
   ·intro h5 h6
    have:=h4.1 h6
    omega
   ·intro h5
    have:(s.ent x).state≠3:=fun e=>h5 (h4.2 e)
    omega
  rw[hf] at e1
  refine⟨by rw[e1,e2];exact CL hc S.sorted,fun x hx d hd hxd=>?_⟩
  rw[e2] at hxd ⊢
  rw[e1] at hx
  rcases List.mem_append.1 hx with hx | hx
  ·exact S.ready x hx d hd hxd
  ·have hdx:=L.inD x (List.mem_filter.1 hx).1
   exact hk d hd (hc.closed x d hdx hxd)
theorem CK {s:aB} (h:bT s) (S:gT s) (sh:Int):gT (s.settle sh):=by
 have:∀(l:List Nat) (t:aB),(∀x∈l,x<32)→bT t→gT t→t.graph=s.graph→gT (l.foldl (aB.round s.graph sh) t):=by
  intro l
  induction l with
  | nil=>exact fun t _ _ ht _=>ht
  | cons a l ih=>
   intro t hl hg hS he
   have ha:=hl a (by simp)
   have h1:bT (aB.round s.graph sh t a)∧gT (aB.round s.graph sh t a)∧(aB.round s.graph sh t a).graph=s.graph:=by
    unfold aB.round
    split
    ·rw[←he]
     obtain⟨k1,k2⟩:=EZ hg hS sh ha
     exact⟨lJ sh _ (kP _ _) hg,k1,k2⟩
    ·exact⟨hg,hS,he⟩
   exact ih _ (fun x hx=>hl x (by simp[hx])) h1.1 h1.2.1 h1.2.2
 exact this _ s (fun x hx=>List.mem_range.1 hx) h S rfl
theorem pC {s:aB} (h:bT s) (sh:Int) {f:aD} (hf:aN f=0):(s.asked sh f).graph=s.graph:=by
 obtain⟨i1,i2,_,_⟩:=kA hf
 unfold aB.asked
 split
 ·rename_i e0
  have hz:s.ent f.id.toNat=kE:=by
   rcases h.ent f.id.toNat (by omega) with e | e
   ·exact e
   ·have:=e.st;omega
  have e1:(fun i=>decide (2≤((s.heard sh f).ent i).state))=fun i=>decide (2≤(s.ent i).state):=by
   funext i
   by_cases e:i=f.id.toNat
   ·rw[e,jG,hz];rfl
   ·rw[fC s sh f e]
  have e2:(fun i=>((s.heard sh f).ent i).deps)=fun i=>(s.ent i).deps:=by
   funext i
   by_cases e:i=f.id.toNat
   ·rw[e,jG,hz];rfl
   ·rw[fC s sh f e]
  unfold aB.graph
  rw[e1,e2]
 ·rfl
theorem xD (s:aB) (sh:Int) (f:aD):(s.asked sh f).did=s.did:=by
 unfold aB.asked
 split<;>rfl
theorem EY {s:aB} (h:bT s) (S:gT s) (sh:Int) {f:aD} (hf:aN f=0):gT (s.asked sh f):=by
 refine⟨?_,?_⟩
 ·rw[pC h sh hf,xD];exact S.sorted
 ·rw[pC h sh hf,xD];exact S.ready
theorem rJ (s:aB) (sh:Int) (f:aD):(s.placed sh f).graph=s.graph.learn f.id.toNat f.deps:=by
 have other:∀m,m≠f.id.toNat→(s.placed sh f).ent m=s.ent m:=fun m hm=>aQ _ _ hm
 have e1:(fun i=>decide (2≤((s.placed sh f).ent i).state))=upd (fun i=>decide (2≤(s.ent i).state)) f.id.toNat true:=by
  funext i
  by_cases e:i=f.id.toNat
  ·rw[e,kQ,aT];rfl
  ·rw[other i e,aQ _ _ e]
 have e2:(fun i=>((s.placed sh f).ent i).deps)=upd (fun i=>(s.ent i).deps) f.id.toNat f.deps:=by
  funext i
  by_cases e:i=f.id.toNat
  ·rw[e,kQ,aT]
  ·rw[other i e,aQ _ _ e]
 unfold aB.graph bG.learn
 rw[e1,e2]
theorem CJ {s:aB} (S:gT s) (sh:Int) {f:aD} (hf:aN f=0) (hs:(s.ent f.id.toNat).state<2):gT (s.placed sh f):=by
 obtain⟨i1,i2,_,_⟩:=kA hf
 have hid:f.id.toNat<32:=by omega
 have hunk:s.graph.known f.id.toNat=false:=by
  show decide (2≤(s.ent f.id.toNat).state)=false
  exact decide_eq_false (by omega)
 have hno:∀x∈s.did,cE s.graph x f.id.toNat=false:=by
  intro x hx
  cases hh:cE s.graph x f.id.toNat
  ·rfl
  ·rw[S.ready x hx _ hid hh] at hunk;cases hunk
 have hrow:∀x∈s.did,∀y,y<32→cE s.graph x y=cE (s.graph.learn f.id.toNat f.deps) x y:=fun x hx y _=>GO (S.sorted.lt x hx) (hno x hx) y
 have ed:(s.placed sh f).did=s.did:=rfl
 refine⟨by rw[rJ,ed];exact S.sorted.later hrow,fun x hx d hd hxd=>?_⟩
 rw[rJ] at hxd ⊢
 rw[ed] at hx
 rw[←hrow x hx d hd] at hxd
 have:=S.ready x hx d hd hxd
 show upd s.graph.known f.id.toNat true d=true
 unfold upd
 split
 ·rfl
 ·exact this
theorem CI {s:aB} (h:bT s) (S:gT s) (sh:Int) {f:aD} (hf:aN f=0) (hk:f.kind=3):gT (s.commit sh f):=by
 unfold aB.commit
 split
 ·rename_i e;exact CK (lO h sh hf hk e) (CJ S sh hf e) sh
 ·exact S
theorem II:gT dO:=⟨E7 _,by simp[dO,aB.did]⟩
def gB (e:c9) (n:Nat):Bool:=
 if e.state=0 then e.ops.isEmpty && e.first.isEmpty && e.deps.isEmpty && e.ats.isEmpty && e.vals.isEmpty
 else decide (1≤e.state∧e.state≤3) && bR e.ops && (bF (-1) e.first && !eI e.first n) && (bF (-1) e.deps && !eI e.deps n) && (decide (e.state≠1) || e.deps.isEmpty) &&
  (decide (e.state=3) || e.ats.isEmpty) && dQ (-1) e.ops.length e.ats && decide (e.vals.length=e.ats.length)
def gY (s:aB):Bool:=((List.range 32).all fun n=>gB (s.ent n) n && decide (s.order.count (n:Int)=if (s.ent n).state=3 then 1 else 0)) && s.order.all fun x=>decide (0≤x∧x<32)
theorem JE {e:c9} {n:Nat}:gB e n=true↔e=kE∨C5 e n:=by
 obtain⟨st,ops,fi,de,ats,vals⟩:=e
 unfold gB
 by_cases h:st=0
 ·subst h
  rw[if_pos rfl]
  constructor
  ·intro h
   simp at h
   obtain⟨⟨⟨⟨rfl,rfl⟩,rfl⟩,rfl⟩,rfl⟩:=h
   exact Or.inl rfl
  ·rintro (h | h)
   ·cases h;rfl
   ·have h1:(1:Int)≤0:=h.st.1
    omega
 ·rw[if_neg h]
  simp only[Bool.and_eq_true,Bool.or_eq_true,decide_eq_true_iff,Bool.not_eq_true',List.isEmpty_iff]
  constructor
  ·rintro⟨⟨⟨⟨⟨⟨⟨h1,h2⟩,h3⟩,h4⟩,h5⟩,h6⟩,h7⟩,h8⟩
   exact Or.inr ⟨h1,h2,h3,h4,fun e=>h5.resolve_left (fun h=>h e),fun e=>h6.resolve_left e,h7,h8⟩
  ·rintro (e | F)
   ·cases e;exact absurd rfl h
   ·refine⟨⟨⟨⟨⟨⟨⟨F.st,F.ops⟩,F.first⟩,F.deps⟩,?_⟩,?_⟩,F.ats⟩,F.vals⟩
    ·by_cases e:st=1
     ·exact Or.inr (F.asked e)
     ·exact Or.inl e
    ·by_cases e:st=3
     ·exact Or.inl e
     ·exact Or.inr (F.told e)
theorem DO {s:aB}:gY s=true↔bT s:=by
 unfold gY
 simp only[Bool.and_eq_true,List.all_eq_true,List.mem_range,decide_eq_true_iff,JE]
 exact⟨fun h=>⟨fun n hn=>(h.1 n hn).1,fun n hn=>(h.1 n hn).2,h.2⟩,fun h=>⟨fun n hn=>⟨h.ent n hn,h.cnt n hn⟩,h.lt⟩⟩
def aO (s:aB) (who:Int) (f:aD):aB × List aD × Int:=
 if gY s=false∨who<0∨5<who∨f.node≠who then (s,[],2)
 else if aN f≠0 then (s,[],aN f)
 else if f.kind=1 then
  if bJ f.ops (ofL who)=false then (s,[],4)
  else (s.asked (ofL who) f,[⟨2,who,f.id,[],((s.asked (ofL who) f).ent f.id.toNat).first,[],[]⟩],0)
 else if f.kind=3 then (s.commit (ofL who) f,(s.commit (ofL who) f).answers (ofL who) who f.id,0)
 else (s,[],3)
theorem dN (s:aB) (who:Int) (f:aD):
    ((aO s who f).2.2≠0∧(aO s who f).1=s∧(aO s who f).2.1=[])∨
    (bT s∧aN f=0∧(aO s who f).2.2=0∧f.node=who∧0≤who∧who≤5∧
      ((f.kind=1∧bJ f.ops (ofL who)=true∧aO s who f=(s.asked (ofL who) f,[⟨2,who,f.id,[],((s.asked (ofL who) f).ent f.id.toNat).first,[],[]⟩],0))∨
       (f.kind=3∧aO s who f=(s.commit (ofL who) f,(s.commit (ofL who) f).answers (ofL who) who f.id,0)))):=by
  by_cases h1:gY s=false∨who<0∨5<who∨f.node≠who
  ·left
   have e:aO s who f=(s,[],2):=by unfold aO;rw[if_pos h1]
   rw[e]
   exact⟨(show (2:Int)≠0 by decide),rfl,rfl⟩
  ·by_cases h2:aN f≠0
   ·left
    have e:aO s who f=(s,[],aN f):=by unfold aO;rw[if_neg h1,if_pos h2]
    rw[e]
    exact⟨h2,rfl,rfl⟩
   ·have hg:bT s:=DO.1 (by
       cases h:gY s
       ·exact absurd (Or.inl h) h1
       ·rfl)
    have hn:f.node=who∧0≤who∧who≤5:=by
      refine⟨?_,?_,?_⟩
      ·by_cases e:f.node=who
       ·exact e
       ·exact absurd (Or.inr (Or.inr (Or.inr e))) h1
      ·by_cases e:who<0
       ·exact absurd (Or.inr (Or.inl e)) h1
       ·omega
      ·by_cases e:5<who
       ·exact absurd (Or.inr (Or.inr (Or.inl e))) h1
       ·omega
    have h2':aN f=0:=by omega
    by_cases h3:f.kind=1
    ·by_cases h4:bJ f.ops (ofL who)=false
     ·left
      have e:aO s who f=(s,[],4):=by unfold aO;rw[if_neg h1,if_neg h2,if_pos h3,if_pos h4]
      rw[e]
      exact⟨(show (4:Int)≠0 by decide),rfl,rfl⟩
     ·right
      have e:aO s who f=(s.asked (ofL who) f,[⟨2,who,f.id,[],((s.asked (ofL who) f).ent f.id.toNat).first,[],[]⟩],0):=by unfold aO;rw[if_neg h1,if_neg h2,if_pos h3,if_neg h4]
      exact⟨hg,h2',by rw[e],hn.1,hn.2.1,hn.2.2,Or.inl ⟨h3,by simpa using h4,e⟩⟩
    ·by_cases h5:f.kind=3
     ·right
      have e:aO s who f=(s.commit (ofL who) f,(s.commit (ofL who) f).answers (ofL who) who f.id,0):=by unfold aO;rw[if_neg h1,if_neg h2,if_neg h3,if_pos h5]
      exact⟨hg,h2',by rw[e],hn.1,hn.2.1,hn.2.2,Or.inr ⟨h5,e⟩⟩
     ·left
      have e:aO s who f=(s,[],3):=by unfold aO;rw[if_neg h1,if_neg h2,if_neg h3,if_neg h5]
      rw[e]
      exact⟨(show (3:Int)≠0 by decide),rfl,rfl⟩
theorem yC {s:aB} {who:Int} {f:aD} (h:(aO s who f).2.2=0):bT (aO s who f).1:=by
 rcases dN s who f with ⟨h1,_⟩ | ⟨hg,hf,_,_,_,_,⟨hk,_,e⟩ | ⟨hk,e⟩⟩
 ·exact absurd h h1
 ·rw[e];exact DQ hg _ hf hk
 ·rw[e];exact tC hg _ hf hk
theorem IP {s:aB} {who:Int} {f:aD} (S:gT s):gT (aO s who f).1:=by
 rcases dN s who f with ⟨_,h1,_⟩ | ⟨hg,hf,_,_,_,_,⟨hk,_,e⟩ | ⟨hk,e⟩⟩
 ·rw[h1];exact S
 ·rw[e];exact EY hg S _ hf
 ·rw[e];exact CI hg S _ hf hk
theorem mR (s:aB) (who:Int) (f:aD) (h0:∀n,0≤(s.ent n).state):fZ s (aO s who f).1:=by
 rcases dN s who f with ⟨_,h1,_⟩ | ⟨_,_,_,_,_,_,⟨_,_,e⟩ | ⟨_,e⟩⟩
 ·rw[h1];exact fZ.refl s
 ·rw[e];exact tI s _ f
 ·rw[e];exact z9 s _ f h0
structure iP (ok:Nat→Prop) (w:World) (nv:Nat→Value) (o:Nat) (e:c9):Prop where
 state:nv o= .int .i64 e.state
 ops:IsO ok w (nv (o+1)) e.ops
 first:IsI ok w (nv (o+2)) e.first
 deps:IsI ok w (nv (o+3)) e.deps
 ats:IsI ok w (nv (o+4)) e.ats
 vals:IsI ok w (nv (o+5)) e.vals
theorem iP.later {ok:Nat→Prop} {w w':World} {nv:Nat→Value} {o:Nat} {e:c9} (h:iP ok w nv o e) (hB:bQ ok w w'):iP ok w' nv o e:=
 ⟨h.state,h.ops.later hB,h.first.later hB,h.deps.later hB,h.ats.later hB,h.vals.later hB⟩
theorem iP.mono {ok ok':Nat→Prop} {w:World} {nv:Nat→Value} {o:Nat} {e:c9} (h:iP ok w nv o e) (hk:∀k,k<w.heap.size→ok k→ok' k):iP ok' w nv o e:=
 ⟨h.state,h.ops.mono hk,h.first.mono hk,h.deps.mono hk,h.ats.mono hk,h.vals.mono hk⟩
theorem iP.same {ok:Nat→Prop} {w:World} {nv nv':Nat→Value} {o o':Nat} {e:c9} (h:iP ok w nv o e) (hn:∀j,j<6→nv' (o'+j)=nv (o+j)):iP ok w nv' o' e:=
 ⟨by have:=hn 0 (by omega);simp only[Nat.add_zero] at this;rw[this];exact h.state,by rw[hn 1 (by omega)];exact h.ops,by rw[hn 2 (by omega)];exact h.first,by rw[hn 3 (by omega)];exact h.deps,by rw[hn 4 (by omega)];exact h.ats,by rw[hn 5 (by omega)];exact h.vals⟩
theorem iP.one {ok:Nat→Prop} {w:World} {nv:Nat→Value} {o:Nat} {e:c9} (h:iP ok w nv o e):∀j,j<6→(nv (o+j)).oneCell'=true:=by
 intro j hj
 match j,hj with
 | 0,_=>rw[Nat.add_zero,h.state];rfl
 | 1,_=>exact h.ops.one
 | 2,_=>exact h.first.one
 | 3,_=>exact h.deps.one
 | 4,_=>exact h.ats.one
 | 5,_=>exact h.vals.one
structure i6 (ok:Nat→Prop) (w:World) (nv:Nat→Value) (s:aB):Prop where
 ent:∀i,i<32→iP ok w nv (i*6) (s.ent i)
 vals:∀k,k<8→nv (193+k)= .int .i64 (s.vals k)
structure bP (ok:Nat→Prop) (w:World) (nv:Nat→Value) (s:aB):Prop where
 es:i6 ok w nv s
 order:IsI ok w (nv 192) s.order
theorem i6.later {ok:Nat→Prop} {w w':World} {nv:Nat→Value} {s:aB} (h:i6 ok w nv s) (hB:bQ ok w w'):i6 ok w' nv s:=⟨fun i hi=>(h.ent i hi).later hB,h.vals⟩
theorem i6.mono {ok ok':Nat→Prop} {w:World} {nv:Nat→Value} {s:aB} (h:i6 ok w nv s) (hk:∀k,k<w.heap.size→ok k→ok' k):i6 ok' w nv s:=⟨fun i hi=>(h.ent i hi).mono hk,h.vals⟩
theorem bP.later {ok:Nat→Prop} {w w':World} {nv:Nat→Value} {s:aB} (h:bP ok w nv s) (hB:bQ ok w w'):bP ok w' nv s:=⟨h.es.later hB,h.order.later hB⟩
theorem bP.mono {ok ok':Nat→Prop} {w:World} {nv:Nat→Value} {s:aB} (h:bP ok w nv s) (hk:∀k,k<w.heap.size→ok k→ok' k):bP ok' w nv s:=⟨h.es.mono hk,h.order.mono hk⟩
theorem bP.below {w w':World} {nv:Nat→Value} {s:aB} (h:bP (· <w.heap.size) w nv s) (hb:Below w.heap.size w w'):bP (· <w'.heap.size) w' nv s:=
 (h.later (bQ.of_size hb)).mono (fun k _ (h:k<w.heap.size)=>by have:=hb.size;show k<_;omega)
theorem bP.any {ok:Nat→Prop} {w:World} {nv:Nat→Value} {s:aB} (h:bP ok w nv s):bP (· <w.heap.size) w nv s:=h.mono (fun _ h _=>h)
theorem bP.one {ok:Nat→Prop} {w:World} {nv:Nat→Value} {s:aB} (h:bP ok w nv s):∀i,i<201→(nv i).oneCell'=true:=by
 intro i hi
 by_cases h1:i<192
 ·have:=(h.es.ent (i / 6) (by omega)).one (i % 6) (by omega)
  rw[show i / 6*6+i % 6=i by omega] at this
  exact this
 ·by_cases h2:i=192
  ·subst h2;exact h.order.one
  ·have:=h.es.vals (i-193) (by omega)
   rw[show 193+(i-193)=i by omega] at this
   rw[this];rfl
def c9.nums (e:c9) (f:Nat):List Int:=if f=2 then e.first else if f=3 then e.deps else if f=4 then e.ats else e.vals
def dC (ok:Nat→Prop) (w:World) (e:c9) (f:Nat) (v:Value):Prop:=if f=0 then v= .int .i64 e.state else if f=1 then IsO ok w v e.ops else IsI ok w v (e.nums f)
theorem iP.get {ok:Nat→Prop} {w:World} {nv:Nat→Value} {o:Nat} {e:c9} (h:iP ok w nv o e):∀f,f<6→dC ok w e f (nv (o+f)):=by
 intro f hf
 match f,hf with
 | 0,_=>exact h.state
 | 1,_=>exact h.ops
 | 2,_=>exact h.first
 | 3,_=>exact h.deps
 | 4,_=>exact h.ats
 | 5,_=>exact h.vals
theorem iP.of {ok:Nat→Prop} {w:World} {nv:Nat→Value} {o:Nat} {e:c9} (h:∀f,f<6→dC ok w e f (nv (o+f))):iP ok w nv o e:=
 ⟨h 0 (by omega),h 1 (by omega),h 2 (by omega),h 3 (by omega),h 4 (by omega),h 5 (by omega)⟩
theorem i6.change {ok:Nat→Prop} {w:World} {nv nv':Nat→Value} {s:aB} (h:i6 ok w nv s) {k:Nat} {e':c9} (he:∀f,f<6→dC ok w e' f (nv' (k*6+f)))
  (ho:∀i,i<201→(i<k*6∨k*6+6≤i)→i≠192→nv' i=nv i) (hk:k<32) (o:List Int):i6 ok w nv' ⟨upd s.ent k e',o,s.vals⟩:=by
 refine⟨fun i hi=>?_,fun j hj=>?_⟩
 ·by_cases e:i=k
  ·subst e
   show iP ok w nv' (i*6) (upd s.ent i e' i)
   rw[aT]
   exact iP.of he
  ·show iP ok w nv' (i*6) (upd s.ent k e' i)
   rw[aQ _ _ e]
   exact (h.ent i hi).same (fun j hj=>ho _ (by omega) (by omega) (by omega))
 ·rw[ho _ (by omega) (by omega) (by omega)]
  exact h.vals j hj
theorem bP.put {ok:Nat→Prop} {w:World} {nv:Nat→Value} {s:aB} (h:bP ok w nv s) {k f:Nat} (hk:k<32) (hf:f<6) {v:Value} (hv:dC ok w (s.ent k) f v):bP ok w (fun i=>if i=k*6+f then v else nv i) s:=by
 refine⟨⟨fun i hi=>iP.of fun g hg=>?_,fun j hj=>?_⟩,?_⟩
 ·show dC ok w (s.ent i) g (if i*6+g=k*6+f then v else nv (i*6+g))
  by_cases e:i*6+g=k*6+f
  ·obtain rfl:i=k:=by omega
   obtain rfl:g=f:=by omega
   rw[if_pos rfl]
   exact hv
  ·rw[if_neg e]
   exact (h.es.ent i hi).get g hg
 ·show (if 193+j=k*6+f then v else nv (193+j))=_
  rw[if_neg (by omega)]
  exact h.es.vals j hj
 ·show IsI ok w (if 192=k*6+f then v else nv 192) _
  rw[if_neg (by omega)]
  exact h.order
theorem Tryz.infoNode:(Tryz.prog.info? 32).map (·.size)=some 201:=by kernel_rfl
theorem Tryz.infoEnts:(Tryz.prog.info? 29).map (·.size)=some 192:=by kernel_rfl
theorem Tryz.infoEntry:(Tryz.prog.info? 28).map (·.size)=some 6:=by kernel_rfl
structure aG where
 begun:Bool
 fixed:Bool
 ops:List OpL
 told:Nat→Bool
 known:Nat→Bool
 deps:List Int
 has:Nat→Bool
 vals:Nat→Int
def cA:aG:=⟨false,false,[],fun _=>false,fun _=>false,[],fun _=>false,fun _=>0⟩
def y8 (n:Nat) (p:Nat→Bool):Bool:=(List.range n).all fun i=>!p i
def eE (c:aG):Bool:=
 if c.begun then bR c.ops && bF (-1) c.deps
 else !c.fixed && c.ops.isEmpty && y8 6 c.told && y8 6 c.known && c.deps.isEmpty && y8 4 c.has && (List.range 4).all fun i=>c.vals i == 0
def gX (a b:List Int):List Int:=cN (fun i=>a.contains (i:Int) || b.contains (i:Int)) 32
def aG.lacks (c:aG) (sh:Int):Bool:=(List.range c.ops.length).any fun i=>jZ sh (c.ops.getD i (0,0,0)) && !c.has i
def aG.send (c:aG) (id:Int) (n:Nat):List aD:=
 if c.fixed then (if !c.known n || c.lacks (ofL n) then [⟨3,n,id,c.ops,c.deps,[],[]⟩] else [])
 else if bJ c.ops (ofL n) && !c.told n then [⟨1,n,id,c.ops,[],[],[]⟩] else []
def cV (c:aG) (id:Int):List aD:=
 if eE c=false∨c.begun=false∨id<0∨32≤id∨eI c.deps id=true then [] else (List.range 6).flatMap (c.send id)
def bL (id:Int) (ops:List OpL):aG × List aD × Int:=
 if id<0∨32≤id then (cA,[],2) else if bR ops=false then (cA,[],1)
 else ({ cA with begun:=true,ops:=ops },cV { cA with begun:=true,ops:=ops } id,0)
def jY (t:Nat→Bool) (sh:Nat):Nat:=((List.range 3).filter fun k=>t (sh*3+k)).length
def eA (ops:List OpL) (t:Nat→Bool):Bool:=(!bJ ops 0 || decide (2≤jY t 0)) && (!bJ ops 1 || decide (2≤jY t 1))
def aG.hear (c:aG) (f:aD):aG:=
 { c with told:=upd c.told f.node.toNat true,deps:=gX c.deps f.deps,fixed:=eA c.ops (upd c.told f.node.toNat true) }
def aG.done1 (sh:Int) (c:aG) (p:Int × Int):aG:=
 if p.1<c.ops.length∧jZ sh (c.ops.getD p.1.toNat (0,0,0))=true∧c.has p.1.toNat=false then { c with has:=upd c.has p.1.toNat true,vals:=upd c.vals p.1.toNat p.2 } else c
def aG.dones (c:aG) (sh:Int) (l:List (Int × Int)):aG:=l.foldl (aG.done1 sh) c
def aR (c:aG) (id:Int) (f:aD):aG × List aD × Int:=
 if eE c=false∨c.begun=false∨f.id≠id∨eI c.deps id=true then (c,[],2)
 else if aN f≠0 then (c,[],aN f)
 else if f.kind=1∨f.kind=3 then (c,[],3)
 else if f.kind=2 then
  if c.fixed=true∨c.told f.node.toNat=true∨bJ c.ops (ofL f.node)=false then (c,[],0)
  else (c.hear f,if (c.hear f).fixed then cV (c.hear f) id else [],0)
 else if c.fixed=false then (c,[],0)
 else if f.kind=4 then ({ c with known:=upd c.known f.node.toNat true },[],0)
 else (c.dones (ofL f.node) (f.ats.zip f.vals),[],0)
def cT (c:aG):List Int × Bool:=
 if c.begun=false∨eE c=false∨c.lacks 0=true∨c.lacks 1=true then ([],false) else ((List.range c.ops.length).map c.vals,true)
structure lE (c d:aG):Prop where
 begun:d.begun=c.begun
 fixed:d.fixed=c.fixed
 ops:d.ops=c.ops
 told:d.told=c.told
 deps:d.deps=c.deps
theorem lE.refl (c:aG):lE c c:=⟨rfl,rfl,rfl,rfl,rfl⟩
theorem lE.trans {a b c:aG} (h:lE a b) (k:lE b c):lE a c:=⟨k.begun.trans h.begun,k.fixed.trans h.fixed,k.ops.trans h.ops,k.told.trans h.told,k.deps.trans h.deps⟩
def jN (c d:aG):Prop:=∀i,c.has i=true→d.has i=true∧d.vals i=c.vals i
theorem jN.refl (c:aG):jN c c:=fun _ h=>⟨h,rfl⟩
theorem jN.trans {a b c:aG} (h:jN a b) (k:jN b c):jN a c:=fun i hi=>⟨(k i (h i hi).1).1,((k i (h i hi).1).2).trans (h i hi).2⟩
theorem BD (sh:Int) (c:aG) (p:Int × Int):lE c (aG.done1 sh c p)∧jN c (aG.done1 sh c p):=by
 unfold aG.done1
 split
 ·rename_i h
  refine⟨⟨rfl,rfl,rfl,rfl,rfl⟩,fun i hi=>?_⟩
  have hne:i≠p.1.toNat:=fun e=>by rw[e,h.2.2] at hi;cases hi
  exact⟨by show upd _ _ _ i=true;rw[aQ _ _ hne];exact hi,aQ _ _ hne⟩
 ·exact⟨lE.refl c,jN.refl c⟩
theorem pB (sh:Int):∀(l:List (Int × Int)) (c:aG),lE c (c.dones sh l)∧jN c (c.dones sh l)
 | [],c=>⟨lE.refl c,jN.refl c⟩
 | p::l,c=>by
  have h1:=BD sh c p
  have h2:=pB sh l (aG.done1 sh c p)
  exact⟨h1.1.trans h2.1,h1.2.trans h2.2⟩
theorem gE (c:aG) (id:Int) (f:aD):
  ((aR c id f).2.2≠0∧(aR c id f).1=c∧(aR c id f).2.1=[])∨
  ((aR c id f).2.2=0∧aN f=0∧f.kind=2∧c.fixed=false∧c.told f.node.toNat=false∧bJ c.ops (ofL f.node)=true∧(aR c id f).1=c.hear f∧((aR c id f).2.1≠[]→(c.hear f).fixed=true))∨
  ((aR c id f).2.2=0∧(aR c id f).2.1=[]∧(f.kind=2→c.fixed=true∨c.told f.node.toNat=true∨bJ c.ops (ofL f.node)=false)∧lE c (aR c id f).1∧jN c (aR c id f).1∧(c.fixed=false→(aR c id f).1=c)):=by
 unfold aR
 split
 ·left;exact⟨(show (2:Int)≠0 by decide),rfl,rfl⟩
 ·split
  ·rename_i h;left;exact⟨h,rfl,rfl⟩
  ·rename_i hg
   have hg:aN f=0:=by
    by_cases e:aN f=0
    ·exact e
    ·exact absurd e hg
   split
   ·left;exact⟨(show (3:Int)≠0 by decide),rfl,rfl⟩
   ·split
    ·rename_i hk
     split
     ·rename_i h
      right;right
      exact⟨rfl,rfl,fun _=>h,lE.refl c,jN.refl c,fun _=>rfl⟩
     ·rename_i h
      right;left
      have h1:c.fixed=false:=by cases e:c.fixed;rfl;exact absurd (Or.inl e) h
      have h2:c.told f.node.toNat=false:=by cases e:c.told f.node.toNat;rfl;exact absurd (Or.inr (Or.inl e)) h
      have h3:bJ c.ops (ofL f.node)=true:=by cases e:bJ c.ops (ofL f.node);exact absurd (Or.inr (Or.inr e)) h;rfl
      refine⟨rfl,hg,hk,h1,h2,h3,rfl,fun hn=>?_⟩
      cases e:(c.hear f).fixed
      ·exact absurd (by show (if (c.hear f).fixed=true then _ else _)=_;rw[e];rfl) hn
      ·rfl
    ·rename_i hk
     split
     ·right;right
      exact⟨rfl,rfl,fun e=>absurd e hk,lE.refl c,jN.refl c,fun _=>rfl⟩
     ·rename_i hf
      split
      ·right;right
       exact⟨rfl,rfl,fun e=>absurd e hk,⟨rfl,rfl,rfl,rfl,rfl⟩,jN.refl c,fun e=>absurd e hf⟩
      ·right;right
       have h1:=pB (ofL f.node) (f.ats.zip f.vals) c
       exact⟨rfl,rfl,fun e=>absurd e hk,h1.1,h1.2,fun e=>absurd e hf⟩
structure MH (ops:List OpL) (c:aG) (t:Nat→Bool) (d:List Int):Prop where
 begun:c.begun=true
 eops:c.ops=ops
 told:c.told=t
 deps:c.deps=d
 most:c.fixed=true→eA ops t=true
theorem xH {id:Int} {ops:List OpL} (h:(bL id ops).2.2=0):MH ops (bL id ops).1 (fun _=>false) []∧bR ops=true∧0≤id∧id<32:=by
 unfold bL at *
 split at h
 ·exact absurd h (show (2:Int)≠0 by decide)
 ·rename_i h1
  split at h
  ·exact absurd h (show (1:Int)≠0 by decide)
  ·rename_i h2
   rw[if_neg h1,if_neg h2]
   refine⟨⟨rfl,rfl,rfl,rfl,fun e=>(by cases e)⟩,?_,?_,?_⟩
   ·cases e:bR ops
    ·exact absurd e h2
    ·rfl
   ·by_cases e:id<0
    ·exact absurd (Or.inl e) h1
    ·omega
   ·by_cases e:32≤id
    ·exact absurd (Or.inr e) h1
    ·omega
structure nX (ops:List OpL) (c:aG):Prop where
 begun:c.begun=true
 eops:c.ops=ops
 good:eE c=true
 none:c.fixed=false→∀i,c.has i=false
theorem xN {c:aG} (h0:c.lacks 0=false) (h1:c.lacks 1=false) {i:Nat} (hi:i<c.ops.length):c.has i=true:=by
 unfold aG.lacks at h0 h1
 rw[List.any_eq_false] at h0 h1
 have g0:=h0 i (List.mem_range.2 hi)
 have g1:=h1 i (List.mem_range.2 hi)
 cases e:c.has i
 ·rw[e] at g0 g1
  simp[jZ] at g0 g1
  omega
 ·rfl
theorem xL {c:aG} (h:∀i,i<c.ops.length→c.has i=true) (sh:Int):c.lacks sh=false:=by
 unfold aG.lacks
 rw[List.any_eq_false]
 intro i hi
 rw[h i (List.mem_range.1 hi)]
 simp
theorem MY {ops:List OpL} {c:aG} (h:nX ops c) (hr:(cT c).2=true):(∀i,i<ops.length→c.has i=true)∧(cT c).1=(List.range ops.length).map c.vals:=by
 unfold cT at *
 split at hr
 ·cases hr
 ·rename_i hn
  rw[if_neg hn,h.eops]
  refine⟨fun i hi=>xN ?_ ?_ (by rw[h.eops];exact hi),rfl⟩
  ·cases e:c.lacks 0
   ·rfl
   ·exact absurd (Or.inr (Or.inr (Or.inl e))) hn
  ·cases e:c.lacks 1
   ·rfl
   ·exact absurd (Or.inr (Or.inr (Or.inr e))) hn
theorem KG (xs:List Nat):∀(l:Int),(∀x∈xs,l<(x:Int)∧x<32)→xs.Pairwise (· < ·)→bF l (xs.map Int.ofNat)=true:=by
 induction xs with
 | nil=>intros;rfl
 | cons x r ih=>
  intro l h hp
  have hx:=h x (by simp)
  obtain⟨h1,h2⟩:=List.pairwise_cons.1 hp
  rw[List.map_cons,bF,ih (Int.ofNat x) (fun y hy=>⟨by have:=h1 y hy;simp;omega,(h y (by simp[hy])).2⟩) h2]
  have e1:decide (Int.ofNat x≤l)=false:=by simp;omega
  have e2:decide (32≤Int.ofNat x)=false:=by simp;omega
  rw[e1,e2]
  rfl
theorem DW (a b:List Int):bF (-1) (gX a b)=true:=by
 refine KG _ _ (fun x hx=>?_) (List.Pairwise.filter _ List.pairwise_lt_range)
 have:=List.mem_range.1 (List.mem_filter.1 hx).1
 omega
theorem xY {id:Int} {ops:List OpL} (h:(bL id ops).2.2=0):nX ops (bL id ops).1:=by
 obtain⟨hf,hg,_⟩:=xH h
 have e:(bL id ops).1={ cA with begun:=true,ops:=ops }:=by
  unfold bL at *
  split at h
  ·exact absurd h (show (2:Int)≠0 by decide)
  ·rename_i h1
   split at h
   ·exact absurd h (show (1:Int)≠0 by decide)
   ·rename_i h2
    rw[if_neg h1,if_neg h2]
 rw[e]
 refine⟨rfl,rfl,?_,fun _ _=>rfl⟩
 unfold eE
 rw[if_pos rfl]
 show (bR ops && bF (-1) [])=true
 rw[hg]
 rfl
theorem kD {c:aG} (hb:c.begun=true):eE c=(bR c.ops && bF (-1) c.deps):=by unfold eE;rw[if_pos hb]
theorem AO {ops:List OpL} {c:aG} {id:Int} {f:aD} (h:nX ops c):nX ops (aR c id f).1∧jN c (aR c id f).1:=by
 have hg:=h.good
 rw[kD h.begun,Bool.and_eq_true] at hg
 rcases gE c id f with ⟨_,h1,_⟩ | ⟨_,_,_,hf,_,_,he,_⟩ | ⟨_,_,_,hs,hk,hc⟩
 ·rw[h1];exact⟨h,jN.refl c⟩
 ·rw[he]
  refine⟨⟨h.begun,h.eops,?_,fun _ i=>h.none hf i⟩,fun i hi=>⟨hi,rfl⟩⟩
  rw[kD (c:=c.hear f) h.begun,Bool.and_eq_true]
  exact⟨hg.1,DW _ _⟩
 ·refine⟨⟨hs.begun.trans h.begun,hs.ops.trans h.eops,?_,fun e i=>?_⟩,hk⟩
  ·rw[kD (hs.begun.trans h.begun),hs.ops,hs.deps,Bool.and_eq_true];exact hg
  ·have e1:c.fixed=false:=by rw[←hs.fixed];exact e
   rw[hc e1];exact h.none e1 i
structure b7 (ok:Nat→Prop) (w:World) (nv:Nat→Value) (c:aG):Prop where
 begun:nv 0= .bool c.begun
 fixed:nv 1= .bool c.fixed
 ops:IsO ok w (nv 2) c.ops
 told:∀i,i<6→nv (3+i)= .bool (c.told i)
 known:∀i,i<6→nv (9+i)= .bool (c.known i)
 deps:IsI ok w (nv 15) c.deps
 has:∀i,i<4→nv (16+i)= .bool (c.has i)
 vals:∀i,i<4→nv (20+i)= .int .i64 (c.vals i)
theorem b7.later {ok:Nat→Prop} {w w':World} {nv:Nat→Value} {c:aG} (h:b7 ok w nv c) (hB:bQ ok w w'):b7 ok w' nv c:=
 ⟨h.begun,h.fixed,h.ops.later hB,h.told,h.known,h.deps.later hB,h.has,h.vals⟩
theorem b7.mono {ok ok':Nat→Prop} {w:World} {nv:Nat→Value} {c:aG} (h:b7 ok w nv c) (hk:∀k,k<w.heap.size→ok k→ok' k):b7 ok' w nv c:=
 ⟨h.begun,h.fixed,h.ops.mono hk,h.told,h.known,h.deps.mono hk,h.has,h.vals⟩
theorem b7.below {w w':World} {nv:Nat→Value} {c:aG} (h:b7 (· <w.heap.size) w nv c) (hb:Below w.heap.size w w'):b7 (· <w'.heap.size) w' nv c:=
 (h.later (bQ.of_size hb)).mono (fun k _ (h:k<w.heap.size)=>by have:=hb.size;show k<_;omega)
theorem b7.any {ok:Nat→Prop} {w:World} {nv:Nat→Value} {c:aG} (h:b7 ok w nv c):b7 (· <w.heap.size) w nv c:=h.mono (fun _ h _=>h)
theorem b7.one {ok:Nat→Prop} {w:World} {nv:Nat→Value} {c:aG} (h:b7 ok w nv c):∀i,i<24→(nv i).oneCell'=true:=by
 intro i hi
 by_cases h0:i=0
 ·subst h0;rw[h.begun];rfl
 by_cases h1:i=1
 ·subst h1;rw[h.fixed];rfl
 by_cases h2:i=2
 ·subst h2;exact h.ops.one
 by_cases h3:i<9
 ·have:=h.told (i-3) (by omega)
  rw[show 3+(i-3)=i by omega] at this
  rw[this];rfl
 by_cases h4:i<15
 ·have:=h.known (i-9) (by omega)
  rw[show 9+(i-9)=i by omega] at this
  rw[this];rfl
 by_cases h5:i=15
 ·subst h5;exact h.deps.one
 by_cases h6:i<20
 ·have:=h.has (i-16) (by omega)
  rw[show 16+(i-16)=i by omega] at this
  rw[this];rfl
 ·have:=h.vals (i-20) (by omega)
  rw[show 20+(i-20)=i by omega] at this
  rw[this];rfl
def zcv (i:Nat):Value:=if i=2∨i=15 then .slice none 0 0 else if 20≤i then .int .i64 0 else .bool false
theorem oG (ok:Nat→Prop) (w:World):b7 ok w zcv cA:=
 ⟨rfl,rfl,IsO.nil ok w,fun i hi=>by
   unfold zcv;rw[if_neg (by omega),if_neg (by omega)];rfl,fun i hi=>by
   unfold zcv;rw[if_neg (by omega),if_neg (by omega)];rfl,IsI.nil ok w,fun i hi=>by
   unfold zcv;rw[if_neg (by omega),if_neg (by omega)];rfl,fun i hi=>by
   unfold zcv;rw[if_neg (by omega),if_pos (by omega)];rfl⟩
theorem Tryz.infoCase:(Tryz.prog.info? 47).map (·.size)=some 24:=by kernel_rfl
theorem Tryz.zeroCase:(Tryz.prog.info? 47).map (·.zero)=some (some (.agg (aC 24 zcv))):=by kernel_rfl
def fQ (e:c9):List OpL × List Int × List Int × Bool × Bool:=(e.ops,e.first,e.deps,decide (1≤e.state),decide (2≤e.state))
theorem xG (s:aB) (sh:Int) {n:Nat} (h:(s.ent n).state=2) (i:Nat):fQ ((s.exec sh n).ent i)=fQ (s.ent i):=by
 by_cases e:i=n
 ·subst e
  have:(s.exec sh i).ent i=⟨3,(s.ent i).ops,(s.ent i).first,(s.ent i).deps,_,_⟩:=aT _ _ _
  rw[this]
  unfold fQ
  rw[h]
  rfl
 ·have:(s.exec sh n).ent i=s.ent i:=aQ _ _ e
  rw[this]
theorem BF (s:aB) (sh:Int) (n i:Nat):fQ ((aB.execIf sh s n).ent i)=fQ (s.ent i):=by
 unfold aB.execIf
 split
 ·rename_i h;exact xG s sh h i
 ·rfl
theorem uT (sh:Int) (i:Nat):∀(l:List Nat) (s:aB),fQ ((s.execs sh l).ent i)=fQ (s.ent i)
 | [],_=>rfl
 | n::l,s=>(uT sh i l (aB.execIf sh s n)).trans (BF s sh n i)
theorem vP (g:bG) (sh:Int) (i:Nat):∀(l:List Nat) (s:aB),fQ ((l.foldl (aB.round g sh) s).ent i)=fQ (s.ent i)
 | [],_=>rfl
 | n::l,s=>by
  refine (vP g sh i l (aB.round g sh s n)).trans ?_
  unfold aB.round
  split
  ·exact uT sh i _ s
  ·rfl
theorem tN (s:aB) (sh:Int) (i:Nat):fQ ((s.settle sh).ent i)=fQ (s.ent i):=vP _ sh i _ s
theorem mQ {s:aB} {who:Int} {f:aD} {i:Nat} (hi:i≠f.id.toNat):fQ ((aO s who f).1.ent i)=fQ (s.ent i):=by
 rcases dN s who f with ⟨_,h1,_⟩ | ⟨_,_,_,_,_,_,⟨_,_,e⟩ | ⟨_,e⟩⟩
 ·rw[h1]
 ·rw[e]
  show fQ ((s.asked _ f).ent i)=_
  unfold aB.asked
  split
  ·rw[fC s _ f hi]
  ·rfl
 ·rw[e]
  show fQ ((s.commit _ f).ent i)=_
  unfold aB.commit
  split
  ·rw[tN]
   have:(s.placed (ofL who) f).ent i=s.ent i:=aQ _ _ hi
   rw[this]
  ·rfl
theorem nN {s:aB} {who:Int} {f:aD} (h0:(aO s who f).2.2=0) (hk:f.kind=1):
  (aO s who f).1.ent f.id.toNat=if (s.ent f.id.toNat).state=0 then ⟨1,f.ops,s.ahead f.id.toNat f.ops (ofL who),[],[],[]⟩ else s.ent f.id.toNat:=by
 rcases dN s who f with ⟨h1,_⟩ | ⟨_,_,_,_,_,_,⟨_,_,e⟩ | ⟨hk3,_⟩⟩
 ·exact absurd h0 h1
 ·rw[e]
  show (s.asked _ f).ent _=_
  unfold aB.asked
  split
  ·exact jG s _ f
  ·rfl
 ·omega
theorem lY {s:aB} {who:Int} {f:aD} (h0:(aO s who f).2.2=0) (hk:f.kind=3):
  fQ ((aO s who f).1.ent f.id.toNat)=if (s.ent f.id.toNat).state<2 then (f.ops,(if (s.ent f.id.toNat).state=0 then s.ahead f.id.toNat f.ops (ofL who) else (s.ent f.id.toNat).first),f.deps,true,true) else fQ (s.ent f.id.toNat):=by
 rcases dN s who f with ⟨h1,_⟩ | ⟨_,_,_,_,_,_,⟨hk1,_,_⟩ | ⟨_,e⟩⟩
 ·exact absurd h0 h1
 ·omega
 ·rw[e]
  show fQ ((s.commit _ f).ent _)=_
  unfold aB.commit
  split
  ·rw[tN,kQ]
   rfl
  ·rfl
theorem DD {e:c9} {a:List OpL} {b c:List Int} {d g:Bool} (h:fQ e=(a,b,c,d,g)):e.ops=a∧e.first=b∧e.deps=c∧decide (1≤e.state)=d∧decide (2≤e.state)=g:=by
 unfold fQ at h
 simp only[Prod.mk.injEq] at h
 exact h
theorem l8 {e e':c9} (h:fQ e=fQ e'):e.ops=e'.ops∧e.first=e'.first∧e.deps=e'.deps∧((1≤e.state)↔(1≤e'.state))∧((2≤e.state)↔(2≤e'.state)):=by
 unfold fQ at h
 simp only[Prod.mk.injEq,decide_eq_decide] at h
 exact h
theorem oN {s:aB} {id:Nat} {ops:List OpL} {sh:Int} {x:Nat}:(x:Int)∈s.ahead id ops sh↔x<32∧x≠id∧0<(s.ent x).state∧cZ (s.ent x).ops ops sh=true:=by
 unfold aB.ahead cN
 simp[and_assoc]
 constructor
 ·rintro⟨a,h1,h2,h3,h4,e⟩
  obtain rfl:a=x:=by omega
  exact⟨h1,h2,h3,h4⟩
 ·rintro⟨h1,h2,h3,h4⟩
  exact⟨x,h1,h2,h3,h4,rfl⟩
theorem vH (o p:OpL):nQ o p=nQ p o:=by
 unfold nQ
 rw[Bool.or_comm (o.1 !=1)]
 have:(o.2.1 == p.2.1)=(p.2.1 == o.2.1):=by
  rw[Bool.eq_iff_iff,beq_iff_eq,beq_iff_eq]
  exact eq_comm
 rw[this]
theorem n7 (a b:List OpL) (s:Int):cZ a b s=true↔∃o∈a,∃p∈b,o.2.1 % 2=s∧nQ o p=true:=by
 simp only[cZ,oL,rM,List.any_eq_true,Bool.and_eq_true,beq_iff_eq]
 constructor
 ·rintro⟨o,ho,hs,p,hp,hm⟩
  exact⟨o,ho,p,hp,hs,hm⟩
 ·rintro⟨o,ho,p,hp,hs,hm⟩
  exact⟨o,ho,hs,p,hp,hm⟩
theorem uB {o p:OpL} (h:nQ o p=true):o.2.1=p.2.1:=by
 unfold nQ at h
 simp at h
 exact h.1
theorem nK (a b:List OpL) (s:Int):cZ a b s=cZ b a s:=by
 rw[Bool.eq_iff_iff,n7,n7]
 constructor
 ·rintro⟨o,ho,p,hp,hs,hm⟩
  exact⟨p,hp,o,ho,by rw[←uB hm];exact hs,by rw[vH];exact hm⟩
 ·rintro⟨o,ho,p,hp,hs,hm⟩
  exact⟨p,hp,o,ho,by rw[←uB hm];exact hs,by rw[vH];exact hm⟩
theorem tS {a b:List OpL} {s:Int} (h:cZ a b s=true):bJ a s=true∧bJ b s=true:=by
 obtain⟨o,ho,p,hp,hs,hm⟩:=(n7 a b s).1 h
 constructor
 ·exact List.any_eq_true.2 ⟨o,ho,by simp[jZ,hs]⟩
 ·exact List.any_eq_true.2 ⟨p,hp,by simp[jZ,←uB hm,hs]⟩
end Go.Proofs.YtkoefoccbjhoiacGreat
