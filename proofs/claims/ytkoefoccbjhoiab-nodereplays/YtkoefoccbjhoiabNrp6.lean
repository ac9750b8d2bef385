/-
squeezed by tools/squeeze.py from: NodeL NodeG GLearn NodeS NodeT NMem NSep
-/
import Derived.Test.YtkoefoccbjhoiabNrp5
import Derived.Test.YtkoefoccbjhoiabNrp2
import Derived.Test.YtkoefoccbjhoiabNrp3
import Derived.Test.YtkoefoccbjhoiabNrp4
set_option linter.unusedVariables false
set_option linter.unusedSimpArgs false
set_option maxRecDepth 100000
set_option maxHeartbeats 4000000
namespace Go.Proofs.Ytkoefoccbjhoiab
open Go.RowKit
structure cD where
 state:Int
 ops:List OpL
 first:List Int
 deps:List Int
 ats:List Int
 vals:List Int
def fT:cD:=⟨0,[],[],[],[],[]⟩
structure aC where
 ent:Nat→cD
 order:List Int
 vals:Nat→Int
def eS:aC:=⟨fun _=>fT,[],fun _=>0⟩
def cC:Int→Nat→List Int→Bool
 | _,_,[]=>true
 | l,n,k::r=>decide (l<k) && decide (k<(n:Int)) && cC k n r
structure mW (e:cD) (n:Nat):Prop where
 st:1≤e.state∧e.state≤3
 ops:bK e.ops=true
 first:aX (-1) e.first=true∧d9 e.first n=false
 deps:aX (-1) e.deps=true∧d9 e.deps n=false
 asked:e.state=1→e.deps=[]
 told:e.state≠3→e.ats=[]
 ats:cC (-1) e.ops.length e.ats=true
 vals:e.vals.length=e.ats.length
structure bQ (s:aC):Prop where
 ent:∀n:Nat,n<32→s.ent n=fT∨mW (s.ent n) n
 cnt:∀n:Nat,n<32→s.order.count (n:Int)=if (s.ent n).state=3 then 1 else 0
 lt:∀x∈s.order,0≤x∧x<32
def aC.ahead (s:aC) (id:Nat) (ops:List OpL) (sh:Int):List Int:=cE (fun n=>n !=id && decide (0<(s.ent n).state) && eT (s.ent n).ops ops sh) 32
def cS (sh:Int):Nat→List OpL→(Nat→Int)→(Nat→Int) × List Int × List Int
  | _,[],v=>(v,[],[])
  | i,o::r,v=>
    if o.2.1 % 2 == sh then ((cS sh (i+1) r (upd v o.2.1.toNat (doL (v o.2.1.toNat) o.1 o.2.2))).1,(i:Int)::(cS sh (i+1) r (upd v o.2.1.toNat (doL (v o.2.1.toNat) o.1 o.2.2))).2.1,
      doL (v o.2.1.toNat) o.1 o.2.2::(cS sh (i+1) r (upd v o.2.1.toNat (doL (v o.2.1.toNat) o.1 o.2.2))).2.2)
    else cS sh (i+1) r v
def aC.exec (s:aC) (sh:Int) (n:Nat):aC:=
 ⟨upd s.ent n ⟨3,(s.ent n).ops,(s.ent n).first,(s.ent n).deps,(cS sh 0 (s.ent n).ops s.vals).2.1,(cS sh 0 (s.ent n).ops s.vals).2.2⟩,s.order++[(n:Int)],(cS sh 0 (s.ent n).ops s.vals).1⟩
def aC.execIf (sh:Int) (s:aC) (m:Nat):aC:=if (s.ent m).state=2 then s.exec sh m else s
def aC.execs (s:aC) (sh:Int) (l:List Nat):aC:=l.foldl (aC.execIf sh) s
def aC.graph (s:aC):bI:=⟨fun i=>decide (2≤(s.ent i).state),fun i=>(s.ent i).deps⟩
def aC.round (g:bI) (sh:Int) (t:aC) (n:Nat):aC:=if (t.ent n).state=2 then t.execs sh (cY g n) else t
def aC.settle (s:aC) (sh:Int):aC:=(List.range 32).foldl (aC.round s.graph sh) s
def aC.heard (s:aC) (sh:Int) (f:bC):aC:={ s with ent:=upd s.ent f.id.toNat ⟨1,f.ops,s.ahead f.id.toNat f.ops sh,[],[],[]⟩ }
def aC.asked (s:aC) (sh:Int) (f:bC):aC:=if (s.ent f.id.toNat).state=0 then s.heard sh f else s
def aC.placed (s:aC) (sh:Int) (f:bC):aC:=
 { s with ent:=upd s.ent f.id.toNat ⟨2,f.ops,if (s.ent f.id.toNat).state=0 then s.ahead f.id.toNat f.ops sh else (s.ent f.id.toNat).first,f.deps,(s.ent f.id.toNat).ats,(s.ent f.id.toNat).vals⟩ }
def aC.commit (s:aC) (sh:Int) (f:bC):aC:=if (s.ent f.id.toNat).state<2 then (s.placed sh f).settle sh else s
def aC.answers (s:aC) (sh who id:Int):List bC:=
 ⟨4,who,id,[],[],[],[]⟩::(if (s.ent id.toNat).state=3∧c9 (s.ent id.toNat).ops sh=true then [⟨5,who,id,[],[],(s.ent id.toNat).ats,(s.ent id.toNat).vals⟩] else [])
theorem nY (s:aC) (sh:Int) (f:bC):(s.placed sh f).ent f.id.toNat=⟨2,f.ops,if (s.ent f.id.toNat).state=0 then s.ahead f.id.toNat f.ops sh else (s.ent f.id.toNat).first,f.deps,(s.ent f.id.toNat).ats,(s.ent f.id.toNat).vals⟩:=cV _ _ _
theorem wN (xs:List Nat):∀(l:Int),(∀x∈xs,l<(x:Int)∧x<32)→xs.Pairwise (· < ·)→aX l (xs.map Int.ofNat)=true:=by
 induction xs with
 | nil=>intros;rfl
 | cons x r ih=>
  intro l h hp
  have hx:=h x (by simp)
  obtain⟨h1,h2⟩:=List.pairwise_cons.1 hp
  rw[List.map_cons,aX,ih (Int.ofNat x) (fun y hy=>⟨by have:=h1 y hy;simp;omega,(h y (by simp[hy])).2⟩) h2]
  have e1:decide (Int.ofNat x≤l)=false:=by simp;omega
  have e2:decide (32≤Int.ofNat x)=false:=by simp;omega
  rw[e1,e2]
  rfl
theorem sL (s:aC) (id:Nat) (ops:List OpL) (sh:Int):aX (-1) (s.ahead id ops sh)=true:=by
 unfold aC.ahead cE
 refine wN _ _ (fun x hx=>?_) (List.Pairwise.filter _ List.pairwise_lt_range)
 have:=List.mem_range.1 (List.mem_filter.1 hx).1
 omega
theorem vF (s:aC) (id:Nat) (ops:List OpL) (sh:Int):d9 (s.ahead id ops sh) id=false:=by
 unfold d9
 rw[List.any_eq_false]
 intro x hx he
 unfold aC.ahead cE at hx
 rw[List.mem_map] at hx
 obtain⟨y,hy,rfl⟩:=hx
 have h1:=(List.mem_filter.1 hy).2
 unfold eqB at he
 have:y=id:=by
  have h2:((y:Nat):Int)=(id:Int):=by simpa using he
  omega
 subst this
 simp at h1
theorem pH (sh:Int):∀(ops:List OpL) (i:Nat) (v:Nat→Int) (l:Int) (N:Nat),l<(i:Int)→i+ops.length≤N→cC l N (cS sh i ops v).2.1=true
 | [],_,_,_,_,_,_=>rfl
 | o::r,i,v,l,N,h1,h2=>by
  simp only[List.length_cons] at h2
  unfold cS
  split
  ·show (decide (l<(i:Int)) && decide ((i:Int)<(N:Int)) && cC (i:Int) N _)=true
   rw[decide_eq_true h1,decide_eq_true (show (i:Int)<(N:Int) by omega),pH sh r (i+1) _ (i:Int) N (by omega) (by omega)]
   rfl
  ·exact pH sh r (i+1) v l N (by omega) (by omega)
theorem pJ (sh:Int):∀(ops:List OpL) (i:Nat) (v:Nat→Int),(cS sh i ops v).2.2.length=(cS sh i ops v).2.1.length
 | [],_,_=>rfl
 | o::r,i,v=>by
  unfold cS
  split
  ·simp only[List.length_cons,pJ sh r (i+1)]
  ·exact pJ sh r (i+1) v
theorem yM:(1:Int)≤3∧(3:Int)≤3:=by decide
theorem zH:(1:Int)≤2∧(2:Int)≤3:=by decide
theorem bQ.fine {s:aC} (h:bQ s) {n:Nat} (hn:n<32) (hs:(s.ent n).state≠0):mW (s.ent n) n:=by
 rcases h.ent n hn with e | e
 ·rw[e] at hs;exact absurd rfl hs
 ·exact e
theorem bQ.state {s:aC} (h:bQ s) {n:Nat} (hn:n<32):0≤(s.ent n).state∧(s.ent n).state≤3:=by
 rcases h.ent n hn with e | e
 ·rw[e];decide
 ·have:=e.st;omega
theorem vQ {s:aC} (h:bQ s) (sh:Int) {n:Nat} (hn:n<32) (hs:(s.ent n).state=2):bQ (s.exec sh n):=by
 have F:=h.fine hn (by rw[hs];decide)
 have same:(s.exec sh n).ent n=⟨3,(s.ent n).ops,(s.ent n).first,(s.ent n).deps,(cS sh 0 (s.ent n).ops s.vals).2.1,(cS sh 0 (s.ent n).ops s.vals).2.2⟩:=cV _ _ _
 have other:∀m,m≠n→(s.exec sh n).ent m=s.ent m:=fun m hm=>dM _ _ hm
 refine⟨fun m hm=>?_,fun m hm=>?_,fun x hx=>?_⟩
 ·by_cases e:m=n
  ·subst e
   right
   rw[same]
   exact⟨yM,F.ops,F.first,F.deps,fun h=>absurd (show (3:Int)=1 from h) (by decide),fun h=>absurd rfl h,pH sh (s.ent m).ops 0 s.vals (-1) (s.ent m).ops.length (by omega) (by omega),pJ sh _ _ _⟩
  ·rw[other m e];exact h.ent m hm
 ·have h1:=h.cnt m hm
  show (s.order++[(n:Int)]).count (m:Int)=_
  rw[List.count_append,h1]
  by_cases e:m=n
  ·subst e
   rw[same,hs]
   simp
  ·rw[other m e]
   have:List.count (m:Int) [(n:Int)]=0:=by
    rw[List.count_eq_zero]
    simp
    omega
   rw[this]
   rfl
 ·rcases List.mem_append.1 hx with hx | hx
  ·exact h.lt x hx
  ·simp at hx
   omega
theorem kC (sh:Int):∀(l:List Nat) {s:aC},(∀x∈l,x<32)→bQ s→bQ (s.execs sh l)
 | [],_,_,h=>h
 | a::l,s,hl,h=>by
  have h1:bQ (aC.execIf sh s a):=by
   unfold aC.execIf
   split
   ·rename_i e;exact vQ h sh (hl a (by simp)) e
   ·exact h
  exact kC (s:=aC.execIf sh s a) sh l (fun x hx=>hl x (by simp[hx])) h1
theorem iP (g:bI) (n:Int):∀x∈cY g n,x<32:=by
 intro x hx
 unfold cY at hx
 split at hx
 ·exact (gJ _ _ 32).lt x hx
 ·simp at hx
theorem sQ {s:aC} (h:bQ s) (sh:Int):bQ (s.settle sh):=by
 have:∀(l:List Nat) (t:aC),bQ t→bQ (l.foldl (aC.round s.graph sh) t):=by
  intro l
  induction l with
  | nil=>exact fun t ht=>ht
  | cons a l ih=>
   intro t ht
   refine ih _ ?_
   unfold aC.round
   split
   ·exact kC (s:=t) sh _ (iP _ _) ht
   ·exact ht
 exact this _ s h
theorem vN {f:bC} (h:aT f=0):0≤f.id∧f.id<32∧((f.kind=1∨f.kind=3)→bK f.ops=true)∧(f.kind=3→aX (-1) f.deps=true∧d9 f.deps f.id=false):=by
 unfold aT at h
 split at h
 ·cases h
 ·split at h
  ·cases h
  ·rename_i h2
   split at h
   ·rename_i h3
    rw[Bool.and_eq_true,Bool.and_eq_true] at h3
    refine⟨by omega,by omega,fun hk=>?_,fun hk=>?_⟩
    ·have:=h3.1
     unfold dI at this
     rw[if_pos hk] at this
     exact this
    ·have:=h3.2.1
     unfold cR at this
     rw[if_pos (Or.inr hk),Bool.and_eq_true] at this
     exact⟨this.1,by simpa using this.2⟩
   ·cases h
theorem iN {s:aC} (h:bQ s) (sh:Int) {f:bC} (hf:aT f=0) (hk:f.kind=3) (hs:(s.ent f.id.toNat).state<2):bQ (s.placed sh f):=by
 obtain⟨i1,i2,i3,i4⟩:=vN hf
 have hid:((f.id.toNat:Nat):Int)=f.id:=by omega
 have hlt:f.id.toNat<32:=by omega
 have other:∀m,m≠f.id.toNat→(s.placed sh f).ent m=s.ent m:=fun m hm=>dM _ _ hm
 have hats:(s.ent f.id.toNat).ats=[]∧(s.ent f.id.toNat).vals=[]:=by
  rcases h.ent _ hlt with e | e
  ·rw[e];exact⟨rfl,rfl⟩
  ·have h1:=e.told (by omega)
   exact⟨h1,List.eq_nil_of_length_eq_zero (by rw[e.vals,h1];rfl)⟩
 refine⟨fun m hm=>?_,fun m hm=>?_,h.lt⟩
 ·by_cases e:m=f.id.toNat
  ·subst e
   right
   rw[nY,hats.1,hats.2]
   have hfi:aX (-1) (if (s.ent f.id.toNat).state=0 then s.ahead f.id.toNat f.ops sh else (s.ent f.id.toNat).first)=true∧d9 (if (s.ent f.id.toNat).state=0 then s.ahead f.id.toNat f.ops sh else (s.ent f.id.toNat).first) ((f.id.toNat:Nat):Int)=false:=by
    split
    ·exact⟨sL _ _ _ _,vF _ _ _ _⟩
    ·rename_i e0
     exact (h.fine hlt e0).first
   have hdp:aX (-1) f.deps=true∧d9 f.deps ((f.id.toNat:Nat):Int)=false:=by rw[hid];exact i4 hk
   exact⟨zH,i3 (Or.inr hk),hfi,hdp,fun h=>absurd (show (2:Int)=1 from h) (by decide),fun _=>rfl,rfl,rfl⟩
  ·rw[other m e];exact h.ent m hm
 ·have h1:=h.cnt m hm
  show s.order.count (m:Int)=_
  rw[h1]
  by_cases e:m=f.id.toNat
  ·subst e
   rw[nY,if_neg (by omega)]
   rfl
  ·rw[other m e]
theorem lM {s:aC} (h:bQ s) (sh:Int) {f:bC} (hf:aT f=0) (hk:f.kind=3):bQ (s.commit sh f):=by
 unfold aC.commit
 split
 ·rename_i e;exact sQ (iN h sh hf hk e) sh
 ·exact h
def cU (e:cD) (n:Nat):Bool:=
 if e.state=0 then e.ops.isEmpty && e.first.isEmpty && e.deps.isEmpty && e.ats.isEmpty && e.vals.isEmpty
 else decide (1≤e.state∧e.state≤3) && bK e.ops && (aX (-1) e.first && !d9 e.first n) && (aX (-1) e.deps && !d9 e.deps n) && (decide (e.state≠1) || e.deps.isEmpty) &&
  (decide (e.state=3) || e.ats.isEmpty) && cC (-1) e.ops.length e.ats && decide (e.vals.length=e.ats.length)
def aY (s:aC):Bool:=((List.range 32).all fun n=>cU (s.ent n) n && decide (s.order.count (n:Int)=if (s.ent n).state=3 then 1 else 0)) && s.order.all fun x=>decide (0≤x∧x<32)
theorem kU {e:cD} {n:Nat}:cU e n=true↔e=fT∨mW e n:=by
 obtain⟨st,ops,fi,de,ats,vals⟩:=e
 unfold cU
 by_cases h:st=0
 ·subst h
  rw[if_pos rfl]
  constructor
  ·intro h
   simp at h
   obtain⟨⟨⟨⟨rfl,rfl⟩,rfl⟩,rfl⟩,rfl⟩:=h
   exact Or.inl rfl
  ·rintro (h | h)
   ·cases h;rfl
   ·have h1:(1:Int)≤0:=h.st.1
    omega
 ·rw[if_neg h]
  simp only[Bool.and_eq_true,Bool.or_eq_true,decide_eq_true_iff,Bool.not_eq_true',List.isEmpty_iff]
  constructor
  ·rintro⟨⟨⟨⟨⟨⟨⟨h1,h2⟩,h3⟩,h4⟩,h5⟩,h6⟩,h7⟩,h8⟩
   exact Or.inr ⟨h1,h2,h3,h4,fun e=>h5.resolve_left (fun h=>h e),fun e=>h6.resolve_left e,h7,h8⟩
  ·rintro (e | F)
   ·cases e;exact absurd rfl h
   ·refine⟨⟨⟨⟨⟨⟨⟨F.st,F.ops⟩,F.first⟩,F.deps⟩,?_⟩,?_⟩,F.ats⟩,F.vals⟩
    ·by_cases e:st=1
     ·exact Or.inr (F.asked e)
     ·exact Or.inl e
    ·by_cases e:st=3
     ·exact Or.inl e
     ·exact Or.inr (F.told e)
theorem gM {s:aC}:aY s=true↔bQ s:=by
 unfold aY
 simp only[Bool.and_eq_true,List.all_eq_true,List.mem_range,decide_eq_true_iff,kU]
 exact⟨fun h=>⟨fun n hn=>(h.1 n hn).1,fun n hn=>(h.1 n hn).2,h.2⟩,fun h=>⟨fun n hn=>⟨h.ent n hn,h.cnt n hn⟩,h.lt⟩⟩
def aV (s:aC) (who:Int) (f:bC):aC × List bC × Int:=
 if aY s=false∨who<0∨5<who∨f.node≠who then (s,[],2)
 else if aT f≠0 then (s,[],aT f)
 else if f.kind=1 then
  if c9 f.ops (ofL who)=false then (s,[],4)
  else (s.asked (ofL who) f,[⟨2,who,f.id,[],((s.asked (ofL who) f).ent f.id.toNat).first,[],[]⟩],0)
 else if f.kind=3 then (s.commit (ofL who) f,(s.commit (ofL who) f).answers (ofL who) who f.id,0)
 else (s,[],3)
theorem mM (s:aC) (who:Int) (f:bC):
    ((aV s who f).2.2≠0∧(aV s who f).1=s∧(aV s who f).2.1=[])∨
    (bQ s∧aT f=0∧(aV s who f).2.2=0∧f.node=who∧0≤who∧who≤5∧
      ((f.kind=1∧c9 f.ops (ofL who)=true∧aV s who f=(s.asked (ofL who) f,[⟨2,who,f.id,[],((s.asked (ofL who) f).ent f.id.toNat).first,[],[]⟩],0))∨
       (f.kind=3∧aV s who f=(s.commit (ofL who) f,(s.commit (ofL who) f).answers (ofL who) who f.id,0)))):=by
  by_cases h1:aY s=false∨who<0∨5<who∨f.node≠who
  ·left
   have e:aV s who f=(s,[],2):=by unfold aV;rw[if_pos h1]
   rw[e]
   exact⟨(show (2:Int)≠0 by decide),rfl,rfl⟩
  ·by_cases h2:aT f≠0
   ·left
    have e:aV s who f=(s,[],aT f):=by unfold aV;rw[if_neg h1,if_pos h2]
    rw[e]
    exact⟨h2,rfl,rfl⟩
   ·have hg:bQ s:=gM.1 (by
       cases h:aY s
       ·exact absurd (Or.inl h) h1
       ·rfl)
    have hn:f.node=who∧0≤who∧who≤5:=by
      refine⟨?_,?_,?_⟩
      ·by_cases e:f.node=who
       ·exact e
       ·exact absurd (Or.inr (Or.inr (Or.inr e))) h1
      ·by_cases e:who<0
       ·exact absurd (Or.inr (Or.inl e)) h1
       ·omega
      ·by_cases e:5<who
       ·exact absurd (Or.inr (Or.inr (Or.inl e))) h1
       ·omega
    have h2':aT f=0:=by omega
    by_cases h3:f.kind=1
    ·by_cases h4:c9 f.ops (ofL who)=false
     ·left
      have e:aV s who f=(s,[],4):=by unfold aV;rw[if_neg h1,if_neg h2,if_pos h3,if_pos h4]
      rw[e]
      exact⟨(show (4:Int)≠0 by decide),rfl,rfl⟩
     ·right
      have e:aV s who f=(s.asked (ofL who) f,[⟨2,who,f.id,[],((s.asked (ofL who) f).ent f.id.toNat).first,[],[]⟩],0):=by unfold aV;rw[if_neg h1,if_neg h2,if_pos h3,if_neg h4]
      exact⟨hg,h2',by rw[e],hn.1,hn.2.1,hn.2.2,Or.inl ⟨h3,by simpa using h4,e⟩⟩
    ·by_cases h5:f.kind=3
     ·right
      have e:aV s who f=(s.commit (ofL who) f,(s.commit (ofL who) f).answers (ofL who) who f.id,0):=by unfold aV;rw[if_neg h1,if_neg h2,if_neg h3,if_pos h5]
      exact⟨hg,h2',by rw[e],hn.1,hn.2.1,hn.2.2,Or.inr ⟨h5,e⟩⟩
     ·left
      have e:aV s who f=(s,[],3):=by unfold aV;rw[if_neg h1,if_neg h2,if_neg h3,if_neg h5]
      rw[e]
      exact⟨(show (3:Int)≠0 by decide),rfl,rfl⟩
structure dW (ok:Nat→Prop) (w:World) (nv:Nat→Value) (o:Nat) (e:cD):Prop where
 state:nv o= .int .i64 e.state
 ops:IsO ok w (nv (o+1)) e.ops
 first:IsI ok w (nv (o+2)) e.first
 deps:IsI ok w (nv (o+3)) e.deps
 ats:IsI ok w (nv (o+4)) e.ats
 vals:IsI ok w (nv (o+5)) e.vals
theorem dW.later {ok:Nat→Prop} {w w':World} {nv:Nat→Value} {o:Nat} {e:cD} (h:dW ok w nv o e) (hB:aQ ok w w'):dW ok w' nv o e:=
 ⟨h.state,h.ops.later hB,h.first.later hB,h.deps.later hB,h.ats.later hB,h.vals.later hB⟩
theorem dW.mono {ok ok':Nat→Prop} {w:World} {nv:Nat→Value} {o:Nat} {e:cD} (h:dW ok w nv o e) (hk:∀k,k<w.heap.size→ok k→ok' k):dW ok' w nv o e:=
 ⟨h.state,h.ops.mono hk,h.first.mono hk,h.deps.mono hk,h.ats.mono hk,h.vals.mono hk⟩
theorem dW.same {ok:Nat→Prop} {w:World} {nv nv':Nat→Value} {o o':Nat} {e:cD} (h:dW ok w nv o e) (hn:∀j,j<6→nv' (o'+j)=nv (o+j)):dW ok w nv' o' e:=
 ⟨by have:=hn 0 (by omega);simp only[Nat.add_zero] at this;rw[this];exact h.state,by rw[hn 1 (by omega)];exact h.ops,by rw[hn 2 (by omega)];exact h.first,by rw[hn 3 (by omega)];exact h.deps,by rw[hn 4 (by omega)];exact h.ats,by rw[hn 5 (by omega)];exact h.vals⟩
theorem dW.one {ok:Nat→Prop} {w:World} {nv:Nat→Value} {o:Nat} {e:cD} (h:dW ok w nv o e):∀j,j<6→(nv (o+j)).oneCell'=true:=by
 intro j hj
 match j,hj with
 | 0,_=>rw[Nat.add_zero,h.state];rfl
 | 1,_=>exact h.ops.one
 | 2,_=>exact h.first.one
 | 3,_=>exact h.deps.one
 | 4,_=>exact h.ats.one
 | 5,_=>exact h.vals.one
structure dR (ok:Nat→Prop) (w:World) (nv:Nat→Value) (s:aC):Prop where
 ent:∀i,i<32→dW ok w nv (i*6) (s.ent i)
 vals:∀k,k<8→nv (193+k)= .int .i64 (s.vals k)
structure aJ (ok:Nat→Prop) (w:World) (nv:Nat→Value) (s:aC):Prop where
 es:dR ok w nv s
 order:IsI ok w (nv 192) s.order
theorem dR.later {ok:Nat→Prop} {w w':World} {nv:Nat→Value} {s:aC} (h:dR ok w nv s) (hB:aQ ok w w'):dR ok w' nv s:=⟨fun i hi=>(h.ent i hi).later hB,h.vals⟩
theorem dR.mono {ok ok':Nat→Prop} {w:World} {nv:Nat→Value} {s:aC} (h:dR ok w nv s) (hk:∀k,k<w.heap.size→ok k→ok' k):dR ok' w nv s:=⟨fun i hi=>(h.ent i hi).mono hk,h.vals⟩
theorem aJ.later {ok:Nat→Prop} {w w':World} {nv:Nat→Value} {s:aC} (h:aJ ok w nv s) (hB:aQ ok w w'):aJ ok w' nv s:=⟨h.es.later hB,h.order.later hB⟩
theorem aJ.mono {ok ok':Nat→Prop} {w:World} {nv:Nat→Value} {s:aC} (h:aJ ok w nv s) (hk:∀k,k<w.heap.size→ok k→ok' k):aJ ok' w nv s:=⟨h.es.mono hk,h.order.mono hk⟩
theorem aJ.below {w w':World} {nv:Nat→Value} {s:aC} (h:aJ (· <w.heap.size) w nv s) (hb:Below w.heap.size w w'):aJ (· <w'.heap.size) w' nv s:=
 (h.later (aQ.of_size hb)).mono (fun k _ (h:k<w.heap.size)=>by have:=hb.size;show k<_;omega)
theorem aJ.any {ok:Nat→Prop} {w:World} {nv:Nat→Value} {s:aC} (h:aJ ok w nv s):aJ (· <w.heap.size) w nv s:=h.mono (fun _ h _=>h)
theorem aJ.one {ok:Nat→Prop} {w:World} {nv:Nat→Value} {s:aC} (h:aJ ok w nv s):∀i,i<201→(nv i).oneCell'=true:=by
 intro i hi
 by_cases h1:i<192
 ·have:=(h.es.ent (i / 6) (by omega)).one (i % 6) (by omega)
  rw[show i / 6*6+i % 6=i by omega] at this
  exact this
 ·by_cases h2:i=192
  ·subst h2;exact h.order.one
  ·have:=h.es.vals (i-193) (by omega)
   rw[show 193+(i-193)=i by omega] at this
   rw[this];rfl
def cD.nums (e:cD) (f:Nat):List Int:=if f=2 then e.first else if f=3 then e.deps else if f=4 then e.ats else e.vals
def bP (ok:Nat→Prop) (w:World) (e:cD) (f:Nat) (v:Value):Prop:=if f=0 then v= .int .i64 e.state else if f=1 then IsO ok w v e.ops else IsI ok w v (e.nums f)
theorem dW.get {ok:Nat→Prop} {w:World} {nv:Nat→Value} {o:Nat} {e:cD} (h:dW ok w nv o e):∀f,f<6→bP ok w e f (nv (o+f)):=by
 intro f hf
 match f,hf with
 | 0,_=>exact h.state
 | 1,_=>exact h.ops
 | 2,_=>exact h.first
 | 3,_=>exact h.deps
 | 4,_=>exact h.ats
 | 5,_=>exact h.vals
theorem dW.of {ok:Nat→Prop} {w:World} {nv:Nat→Value} {o:Nat} {e:cD} (h:∀f,f<6→bP ok w e f (nv (o+f))):dW ok w nv o e:=
 ⟨h 0 (by omega),h 1 (by omega),h 2 (by omega),h 3 (by omega),h 4 (by omega),h 5 (by omega)⟩
theorem dR.change {ok:Nat→Prop} {w:World} {nv nv':Nat→Value} {s:aC} (h:dR ok w nv s) {k:Nat} {e':cD} (he:∀f,f<6→bP ok w e' f (nv' (k*6+f)))
  (ho:∀i,i<201→(i<k*6∨k*6+6≤i)→i≠192→nv' i=nv i) (hk:k<32) (o:List Int):dR ok w nv' ⟨upd s.ent k e',o,s.vals⟩:=by
 refine⟨fun i hi=>?_,fun j hj=>?_⟩
 ·by_cases e:i=k
  ·subst e
   show dW ok w nv' (i*6) (upd s.ent i e' i)
   rw[cV]
   exact dW.of he
  ·show dW ok w nv' (i*6) (upd s.ent k e' i)
   rw[dM _ _ e]
   exact (h.ent i hi).same (fun j hj=>ho _ (by omega) (by omega) (by omega))
 ·rw[ho _ (by omega) (by omega) (by omega)]
  exact h.vals j hj
theorem aJ.put {ok:Nat→Prop} {w:World} {nv:Nat→Value} {s:aC} (h:aJ ok w nv s) {k f:Nat} (hk:k<32) (hf:f<6) {v:Value} (hv:bP ok w (s.ent k) f v):aJ ok w (fun i=>if i=k*6+f then v else nv i) s:=by
 refine⟨⟨fun i hi=>dW.of fun g hg=>?_,fun j hj=>?_⟩,?_⟩
 ·show bP ok w (s.ent i) g (if i*6+g=k*6+f then v else nv (i*6+g))
  by_cases e:i*6+g=k*6+f
  ·obtain rfl:i=k:=by omega
   obtain rfl:g=f:=by omega
   rw[if_pos rfl]
   exact hv
  ·rw[if_neg e]
   exact (h.es.ent i hi).get g hg
 ·show (if 193+j=k*6+f then v else nv (193+j))=_
  rw[if_neg (by omega)]
  exact h.es.vals j hj
 ·show IsI ok w (if 192=k*6+f then v else nv 192) _
  rw[if_neg (by omega)]
  exact h.order
theorem Try.infoNode:(Try.prog.info? 41).map (·.size)=some 201:=by kernel_rfl
theorem Try.infoEnts:(Try.prog.info? 38).map (·.size)=some 192:=by kernel_rfl
theorem Try.infoEntry:(Try.prog.info? 37).map (·.size)=some 6:=by kernel_rfl
def zv (i:Nat):Value:=if i<192 then (if i % 6=0 then .int .i64 0 else .slice none 0 0) else if i=192 then .slice none 0 0 else .int .i64 0
theorem Try.zeroNode:(Try.prog.info? 41).map (·.zero)=some (some (.agg (aD 201 zv))):=by kernel_rfl
theorem eU (ok:Nat→Prop) (w:World):aJ ok w zv eS:=by
 refine⟨⟨fun i hi=>?_,fun k hk=>?_⟩,?_⟩
 ·have h1:∀j,0<j→j<6→zv (i*6+j)= .slice none 0 0:=by
   intro j h0 hj
   unfold zv
   rw[if_pos (by omega),if_neg (by omega)]
  refine⟨?_,?_,?_,?_,?_,?_⟩
  ·unfold zv
   rw[if_pos (by omega),if_pos (by omega)]
   rfl
  ·rw[h1 1 (by omega) (by omega)];exact IsO.nil _ _
  ·rw[h1 2 (by omega) (by omega)];exact IsI.nil _ _
  ·rw[h1 3 (by omega) (by omega)];exact IsI.nil _ _
  ·rw[h1 4 (by omega) (by omega)];exact IsI.nil _ _
  ·rw[h1 5 (by omega) (by omega)];exact IsI.nil _ _
 ·unfold zv
  rw[if_neg (by omega),if_neg (by omega)]
  rfl
 ·exact IsI.nil _ _
def l8 (r:Nat) (v:Value):Prop:=(∀b,v.ownBlock=some b→r<b)∧∀a cap,v= .slice a 0 cap→cap=0
theorem kP.fresh {r:Nat} {w w':World} {v:Value} {zs:List Int} (h:kP w w' v zs) (hr:r<w.heap.size):l8 r v:=by
 refine⟨fun b hb=>?_,fun a cap e=>?_⟩
 ·have:=(World.ownsRow.lt h.1 b hb).1;omega
 ·obtain⟨a',cap',e',_⟩:=bF h.1
  rw[e] at e'
  simp at e'
  obtain⟨a2,e2⟩:=h.2.1 e'.2.1.symm
  rw[e] at e2
  simp at e2
  exact e2.2
theorem lR.fresh {r:Nat} {w w':World} {v:Value} {zs:List OpL} (h:lR w w' v zs) (hr:r<w.heap.size):l8 r v:=by
 refine⟨fun b hb=>?_,fun a cap e=>?_⟩
 ·have:=(World.ownsRow.lt h.1 b hb).1;omega
 ·obtain⟨a',cap',e',_⟩:=bF h.1
  rw[e] at e'
  simp at e'
  obtain⟨a2,e2⟩:=h.2.1 e'.2.1.symm
  rw[e] at e2
  simp at e2
  exact e2.2
theorem kP.is {w w':World} {v:Value} {zs:List Int} (h:kP w w' v zs) (hl:zs.length*8≤140737488355328) (ok:Nat→Prop) (hk:∀b,w.heap.size≤b→ok b):IsI ok w' v zs:=
 (IsI.of_owns h.1 hl).mono (fun b _ hb=>hk b hb.1)
theorem lR.is {w w':World} {v:Value} {zs:List OpL} (h:lR w w' v zs) (hl:zs.length*24≤140737488355328) (ok:Nat→Prop) (hk:∀b,w.heap.size≤b→ok b):IsO ok w' v zs:=
 (IsO.of_owns h.1 hl).mono (fun b _ hb=>hk b hb.1)
structure dG (w0:World) (s:aC) (zr:Array Value) (nv:Nat→Value) (m:Nat) (w:World):Prop where
 blk:aO 201 w w0.heap.size nv
 node:aJ (fun b=>b≠w0.heap.size∧b≠w0.heap.size+1) w nv s
 fresh:∀i,i<m→i<192→i % 6≠0→l8 (w0.heap.size+1) (nv i)
 below:Below w0.heap.size w0 w
 res:w.heap[w0.heap.size+1]? =some (.cells zr 41 (0,0))
theorem dG.lt {w0:World} {s:aC} {zr:Array Value} {nv:Nat→Value} {m:Nat} {w:World} (h:dG w0 s zr nv m w):w0.heap.size+1<w.heap.size:=(Array.getElem?_eq_some_iff.1 h.res).1
theorem dG.step {w0:World} {s:aC} {zr:Array Value} {nv:Nat→Value} {k f:Nat} {w w1:World} {v:Value} (h:dG w0 s zr nv (k*6+f) w) (hk:k<32) (hf:f<6) (hb:Below w.heap.size w w1)
  (hv:bP (fun b=>b≠w0.heap.size∧b≠w0.heap.size+1) w1 (s.ent k) f v) (hn:l8 (w0.heap.size+1) v):
  dG w0 s zr (fun i=>if i=k*6+f then v else nv i) (k*6+(f+1)) (w1.setCell ⟨w0.heap.size,k*6+f,none⟩ v):=by
 have hl:=h.lt
 have hsame:aQ (fun b=>b≠w0.heap.size∧b≠w0.heap.size+1) w1 (w1.setCell ⟨w0.heap.size,k*6+f,none⟩ v):=fun b _ hb=>Below.heap_setCell _ _ _ _ hb.1
 refine⟨(h.blk.later hb (by omega)).put _ _,?_,fun i hi hi2 h6=>?_,?_,?_⟩
 ·exact ((h.node.later (aQ.of_size hb)).put hk hf hv).later hsame
 ·show l8 _ (if i=k*6+f then v else nv i)
  by_cases e:i=k*6+f
  ·rw[if_pos e];exact hn
  ·rw[if_neg e];exact h.fresh i (by omega) hi2 h6
 ·exact (h.below.trans (hb.mono (by omega))).setCell (Nat.le_refl _) _
 ·rw[Below.heap_setCell _ _ _ _ (by simp),hb.block _ hl]
  exact h.res
theorem dG.stepI {w0:World} {s:aC} {zr:Array Value} {nv:Nat→Value} {k f:Nat} {w w1:World} {v:Value} (h:dG w0 s zr nv (k*6+f) w) (hk:k<32) (h2:2≤f) (hf:f<6) (hc:kP w w1 v ((s.ent k).nums f)) (hl:((s.ent k).nums f).length*8≤140737488355328):
  dG w0 s zr (fun i=>if i=k*6+f then v else nv i) (k*6+(f+1)) (w1.setCell ⟨w0.heap.size,k*6+f,none⟩ v):=by
 have:=h.lt
 refine h.step hk hf hc.2.2 ?_ (hc.fresh this)
 unfold bP
 rw[if_neg (by omega),if_neg (by omega)]
 exact hc.is hl _ (fun b hb=>by constructor<;>omega)
theorem dG.stepO {w0:World} {s:aC} {zr:Array Value} {nv:Nat→Value} {k:Nat} {w w1:World} {v:Value} (h:dG w0 s zr nv (k*6+1) w) (hk:k<32) (hc:lR w w1 v (s.ent k).ops) (hl:(s.ent k).ops.length*24≤140737488355328):
  dG w0 s zr (fun i=>if i=k*6+1 then v else nv i) (k*6+2) (w1.setCell ⟨w0.heap.size,k*6+1,none⟩ v):=by
 have:=h.lt
 refine h.step hk (by omega) hc.2.2 ?_ (hc.fresh this)
 exact hc.is hl _ (fun b hb=>by constructor<;>omega)
theorem dG.getI {w0:World} {s:aC} {zr:Array Value} {nv:Nat→Value} {m:Nat} {w:World} (h:dG w0 s zr nv m w) {k:Nat} (hk:k<32) (f:Nat) (h2:2≤f) (hf:f<6):
  ∃a cap,w.cell? ⟨w0.heap.size,k*6+f,none⟩=some (.slice a ((s.ent k).nums f).length cap)∧aN w a cap ((s.ent k).nums f)∧((s.ent k).nums f).length*8≤140737488355328:=by
 have hv:=(h.node.es.ent k hk).get f hf
 unfold bP at hv
 rw[if_neg (by omega),if_neg (by omega)] at hv
 obtain⟨a,cap,e,hs⟩:=hv.sl
 refine⟨a,cap,by rw[h.blk.cell (by omega),e],hs,?_⟩
 obtain⟨_,_,_,_,hl,_⟩:=hv
 exact hl
theorem dG.getO {w0:World} {s:aC} {zr:Array Value} {nv:Nat→Value} {m:Nat} {w:World} (h:dG w0 s zr nv m w) {k:Nat} (hk:k<32):
  ∃a cap,w.cell? ⟨w0.heap.size,k*6+1,none⟩=some (.slice a (s.ent k).ops.length cap)∧bR w a cap (s.ent k).ops∧(s.ent k).ops.length*24≤140737488355328:=by
 have hv:=(h.node.es.ent k hk).ops
 obtain⟨a,cap,e,hs⟩:=hv.sl
 refine⟨a,cap,by rw[h.blk.cell (by omega),e],hs,?_⟩
 obtain⟨_,_,_,_,hl,_⟩:=hv
 exact hl
theorem dG.next {w0:World} {s:aC} {zr:Array Value} {nv:Nat→Value} {k:Nat} {w:World} (h:dG w0 s zr nv (k*6+6) w):dG w0 s zr nv ((k+1)*6+1) w:=
 ⟨h.blk,h.node,fun i hi hi2 h6=>h.fresh i (by omega) hi2 h6,h.below,h.res⟩
structure lS (w0:World) (s:aC) (zr:Array Value) (nv:Nat→Value) (w:World):Prop where
 blk:aO 201 w w0.heap.size nv
 node:dR (fun b=>w0.heap.size+1<b∧(nv 192).ownBlock≠some b) w nv s
 order:w.ownsRow (w0.heap.size+2) 3 1 (nv 192) s.order.length (aI s.order)
 hot:∀i,i<192→i % 6≠0→∀a cap,nv i= .slice a 0 cap→cap=0
 len:s.order.length*8≤140737488355328
 below:Below w0.heap.size w0 w
 res:w.heap[w0.heap.size+1]? =some (.cells zr 41 (0,0))
theorem IsI.fresh {ok:Nat→Prop} {r B:Nat} {w:World} {v:Value} {zs:List Int} (h:IsI ok w v zs) (hv:l8 r v) (hB:w.heap.size≤B):IsI (fun b=>r<b∧b<B) w v zs:=by
 obtain⟨a,cap,rfl,h2,h3⟩:=h
 refine⟨a,cap,rfl,?_,h3⟩
 rcases h2 with h2 | ⟨b,off,rfl,hb,hc⟩
 ·exact Or.inl h2
 ·cases zs with
  | nil=>exact Or.inl rfl
  | cons z l=>exact Or.inr ⟨b,off,rfl,⟨hv.1 b rfl,Nat.lt_of_lt_of_le (World.block_lt_of_cell? w _ (hc 0 (by simp))) hB⟩,hc⟩
theorem IsO.fresh {ok:Nat→Prop} {r B:Nat} {w:World} {v:Value} {zs:List OpL} (h:IsO ok w v zs) (hv:l8 r v) (hB:w.heap.size≤B):IsO (fun b=>r<b∧b<B) w v zs:=by
 obtain⟨a,cap,rfl,h2,h3⟩:=h
 refine⟨a,cap,rfl,?_,h3⟩
 rcases h2 with h2 | ⟨b,off,rfl,hb,hc⟩
 ·exact Or.inl h2
 ·cases zs with
  | nil=>exact Or.inl rfl
  | cons z l=>exact Or.inr ⟨b,off,rfl,⟨hv.1 b rfl,Nat.lt_of_lt_of_le (World.block_lt_of_cell? w _ (hc 0 (by simp)).1) hB⟩,hc⟩
theorem dG.fin {w0:World} {s:aC} {zr:Array Value} {nv:Nat→Value} {w w1:World} {v:Value} (h:dG w0 s zr nv (32*6+1) w) (hc:kP w w1 v s.order) (hl:s.order.length*8≤140737488355328):
  lS w0 s zr (fun i=>if i=192 then v else nv i) (w1.setCell ⟨w0.heap.size,192,none⟩ v):=by
 have hlt:=h.lt
 have hb:=hc.2.2
 have hnew:∀b,v.ownBlock=some b→w.heap.size≤b:=fun b e=>(World.ownsRow.lt hc.1 b e).1
 have hE:dR (fun b=>w0.heap.size+1<b∧b<w.heap.size) w nv s:=by
  refine⟨fun i hi=>dW.of fun f hf=>?_,h.node.es.vals⟩
  have h1:=(h.node.es.ent i hi).get f hf
  by_cases f0:f=0
  ·subst f0;exact h1
  ·have h2:=h.fresh (i*6+f) (by omega) (by omega) (by omega)
   unfold bP at h1 ⊢
   rw[if_neg f0] at h1 ⊢
   by_cases f1:f=1
   ·rw[if_pos f1] at h1 ⊢;exact h1.fresh h2 (Nat.le_refl _)
   ·rw[if_neg f1] at h1 ⊢;exact h1.fresh h2 (Nat.le_refl _)
 have hE1:=hE.later (aQ.of_size hb)
 have hE2:dR (fun b=>w0.heap.size+1<b∧b<w.heap.size) (w1.setCell ⟨w0.heap.size,192,none⟩ v) nv s:=hE1.later (fun b _ hb=>Below.heap_setCell _ _ _ _ (by show b≠w0.heap.size;omega))
 refine⟨(h.blk.later hb (by omega)).put _ _,⟨fun i hi=>?_,fun k hk=>?_⟩,?_,?_,hl,?_,?_⟩
 ·refine ((hE2.ent i hi).mono fun b _ hb=>⟨hb.1,fun e=>by have:=hnew b e;omega⟩).same fun j hj=>?_
  ·show (if i*6+j=192 then v else nv (i*6+j))=_
   rw[if_neg (by omega)]
 ·show (if 193+k=192 then v else nv (193+k))=_
  rw[if_neg (by omega)]
  exact hE2.vals k hk
 ·show World.ownsRow _ _ _ _ v _ _
  have:=cA hc.1 (show w0.heap.size+2≤w.heap.size by omega)
  exact bJ this (by omega)
 ·intro i hi h6 a cap e
  have e':nv i= .slice a 0 cap:=by
   have:(if i=192 then v else nv i)=nv i:=if_neg (by omega)
   rw[←this];exact e
  exact (h.fresh i (by omega) hi h6).2 a cap e'
 ·exact (h.below.trans (hb.mono (by omega))).setCell (Nat.le_refl _) _
 ·rw[Below.heap_setCell _ _ _ _ (by simp),hb.block _ hlt]
  exact h.res
theorem lS.one {w0:World} {s:aC} {zr:Array Value} {nv:Nat→Value} {w:World} (h:lS w0 s zr nv w):∀i,i<201→(nv i).oneCell'=true:=
 (show aJ _ w nv s from ⟨h.node.mono (ok':=fun _=>True) (fun _ _ _=>trivial),(IsI.of_owns h.order h.len).mono (fun _ _ _=>trivial)⟩).one
structure j9 (B:Nat) (w:World) (nv:Nat→Value) (s:aC):Prop where
 node:dR (fun b=>B≤b∧(nv 192).ownBlock≠some b) w nv s
 order:w.ownsRow B 3 1 (nv 192) s.order.length (aI s.order)
 hot:∀i,i<192→i % 6≠0→∀a cap,nv i= .slice a 0 cap→cap=0
 len:s.order.length*8≤140737488355328
theorem lS.done {w0:World} {s:aC} {zr:Array Value} {nv:Nat→Value} {w:World} (h:lS w0 s zr nv w) (fr:Array Value):j9 w0.heap.size (w.setRow (w0.heap.size+1) fr) nv s∧Below w0.heap.size w0 (w.setRow (w0.heap.size+1) fr):=by
 refine⟨⟨?_,?_,h.hot,h.len⟩,aG h.below (by omega) _⟩
 ·exact (h.node.later (fun b _ hb=>aF _ _ (by omega))).mono (fun b _ hb=>⟨by omega,hb.2⟩)
 ·exact cA (cG h.order (fun k hk=>aF _ _ (by have:=(World.ownsRow.lt h.order k hk).1;omega))) (by omega)
theorem r8 (nv:Nat→Value) (s:aC) (w:World) (h:aJ (· <w.heap.size) w nv s):
  Calls Try.prog 64 #[.agg (aD 201 nv)] w fun e w'=>∃nv',e= .returned (.agg (aD 201 nv'))∧j9 w.heap.size w' nv' s∧Below w.heap.size w w':=by
 obtain⟨gr,hgr⟩:∃gr,gr=aD 201 nv:=⟨_,rfl⟩
 obtain⟨zr,hzr⟩:∃zr,zr=aD 201 zv:=⟨_,rfl⟩
 have hz0:=Try.zeroNode
 rw[←hgr]
 rw[←hzr] at hz0
 have H0:Hid (dG w s zr nv 1 ((w.alloc (.cells gr 41)).alloc (.cells zr 41))):=by
  have hb:Below w.heap.size w ((w.alloc (.cells gr 41)).alloc (.cells zr 41)):=((Below.refl _ _).alloc (Nat.le_refl _) _).alloc (by rw[aB];omega) _
  obtain⟨r1,r2⟩:=eY w (.cells gr 41) (.cells zr 41)
  refine⟨⟨41,by rw[←hgr];exact r1⟩,(h.later (aQ.of_size hb)).mono (fun b _ (hb:b<w.heap.size)=>by constructor<;>omega),fun i hi _ h6=>?_,hb,r2⟩
  obtain rfl:i=0:=by omega
  exact absurd rfl h6
 have HG:=hI9 hgr
 have HZ:=hI9 hzr
 clear hgr hzr h
 go_enter Try.func64,Try.ntmps64
 go_wp2_with (first
  | (refine bE rfl 41 rfl zr hz0 ?_)
  | fail)
 go_loopw [5] (fun i wr=>∃(k:Nat) (mv:Nat→Value),k≤32∧i= .int .i64 k∧Hid (dG w s zr mv (k*6+1) wr)) (fun i _=>32-(intOf i).toNat)
 case atStart=>exact⟨0,nv,Nat.zero_le _,rfl,H0⟩
 case round=>
  obtain⟨k,mv,hk,rfl,H⟩:=hrel
  clear H0 hz0
  by_cases hlt:k<32
  ·have n1:(0:Int)≤(k:Int)∧(k:Int)<32:=by omega
   obtain⟨a1,c1,q1,hs1,hl1⟩:=(H.out).getO hlt
   have z1:=H.out.blk.frozen (k*6+1)
   go_wp2_with fail
   refine (kB a1 c1 (s.ent k).ops _ hs1 hl1).mono ?_
   rintro e w1 ⟨v1,rfl,hc1⟩
   obtain⟨b1,d1,rfl,_⟩:=bF hc1.1
   have H1:Hid (dG w s zr _ (k*6+2) (w1.setCell ⟨w.heap.size,k*6+1,none⟩ (.slice b1 (s.ent k).ops.length d1))):=H.out.stepO hlt hc1 hl1
   have y1:w1.cell? ⟨w.heap.size,k*6+1,none⟩=some (.slice a1 (s.ent k).ops.length c1):=by rw[hc1.2.2.cell (p:=⟨w.heap.size,k*6+1,none⟩) (by have:=H.out.lt;show w.heap.size<_;omega)];exact q1
   have x1:w1.frozen? ⟨w.heap.size,k*6+1,none⟩=false:=by rw[hc1.2.2.frozen (p:=⟨w.heap.size,k*6+1,none⟩) (by have:=H.out.lt;show w.heap.size<_;omega)];exact z1
   clear H q1 z1 hc1 hs1 hl1
   go_upto_region 6 with fail
   generalize w1.setCell ⟨w.heap.size,k*6+1,none⟩ (.slice b1 (s.ent k).ops.length d1)=W1 at *
   have H:=H1
   clear H1 y1 x1
   obtain⟨a2,c2,q2,hs2,hl2⟩:=(H.out).getI hlt 2 (by omega) (by omega)
   have z2:=H.out.blk.frozen (k*6+2)
   go_wp2_with fail
   refine (dF a2 c2 ((s.ent k).nums 2) _ hs2 hl2).mono ?_
   rintro e w2 ⟨v2,rfl,hc2⟩
   obtain⟨b2,d2,rfl,_⟩:=bF hc2.1
   have H2:Hid (dG w s zr _ (k*6+(2+1)) (w2.setCell ⟨w.heap.size,k*6+2,none⟩ (.slice b2 ((s.ent k).nums 2).length d2))):=H.out.stepI hlt (by omega) (by omega) hc2 hl2
   have y2:w2.cell? ⟨w.heap.size,k*6+2,none⟩=some (.slice a2 ((s.ent k).nums 2).length c2):=by rw[hc2.2.2.cell (p:=⟨w.heap.size,k*6+2,none⟩) (by have:=H.out.lt;show w.heap.size<_;omega)];exact q2
   have x2:w2.frozen? ⟨w.heap.size,k*6+2,none⟩=false:=by rw[hc2.2.2.frozen (p:=⟨w.heap.size,k*6+2,none⟩) (by have:=H.out.lt;show w.heap.size<_;omega)];exact z2
   clear H q2 z2 hc2 hs2 hl2
   go_upto_region 7 with fail
   generalize w2.setCell ⟨w.heap.size,k*6+2,none⟩ (.slice b2 ((s.ent k).nums 2).length d2)=W2 at *
   have H:=H2
   clear H2 y2 x2
   obtain⟨a3,c3,q3,hs3,hl3⟩:=(H.out).getI hlt 3 (by omega) (by omega)
   have z3:=H.out.blk.frozen (k*6+3)
   go_wp2_with fail
   refine (dF a3 c3 ((s.ent k).nums 3) _ hs3 hl3).mono ?_
   rintro e w3 ⟨v3,rfl,hc3⟩
   obtain⟨b3,d3,rfl,_⟩:=bF hc3.1
   have H3:Hid (dG w s zr _ (k*6+(3+1)) (w3.setCell ⟨w.heap.size,k*6+3,none⟩ (.slice b3 ((s.ent k).nums 3).length d3))):=H.out.stepI hlt (by omega) (by omega) hc3 hl3
   have y3:w3.cell? ⟨w.heap.size,k*6+3,none⟩=some (.slice a3 ((s.ent k).nums 3).length c3):=by rw[hc3.2.2.cell (p:=⟨w.heap.size,k*6+3,none⟩) (by have:=H.out.lt;show w.heap.size<_;omega)];exact q3
   have x3:w3.frozen? ⟨w.heap.size,k*6+3,none⟩=false:=by rw[hc3.2.2.frozen (p:=⟨w.heap.size,k*6+3,none⟩) (by have:=H.out.lt;show w.heap.size<_;omega)];exact z3
   clear H q3 z3 hc3 hs3 hl3
   go_upto_region 8 with fail
   generalize w3.setCell ⟨w.heap.size,k*6+3,none⟩ (.slice b3 ((s.ent k).nums 3).length d3)=W3 at *
   have H:=H3
   clear H3 y3 x3
   obtain⟨a4,c4,q4,hs4,hl4⟩:=(H.out).getI hlt 4 (by omega) (by omega)
   have z4:=H.out.blk.frozen (k*6+4)
   go_wp2_with fail
   refine (dF a4 c4 ((s.ent k).nums 4) _ hs4 hl4).mono ?_
   rintro e w4 ⟨v4,rfl,hc4⟩
   obtain⟨b4,d4,rfl,_⟩:=bF hc4.1
   have H4:Hid (dG w s zr _ (k*6+(4+1)) (w4.setCell ⟨w.heap.size,k*6+4,none⟩ (.slice b4 ((s.ent k).nums 4).length d4))):=H.out.stepI hlt (by omega) (by omega) hc4 hl4
   have y4:w4.cell? ⟨w.heap.size,k*6+4,none⟩=some (.slice a4 ((s.ent k).nums 4).length c4):=by rw[hc4.2.2.cell (p:=⟨w.heap.size,k*6+4,none⟩) (by have:=H.out.lt;show w.heap.size<_;omega)];exact q4
   have x4:w4.frozen? ⟨w.heap.size,k*6+4,none⟩=false:=by rw[hc4.2.2.frozen (p:=⟨w.heap.size,k*6+4,none⟩) (by have:=H.out.lt;show w.heap.size<_;omega)];exact z4
   clear H q4 z4 hc4 hs4 hl4
   go_upto_region 9 with fail
   generalize w4.setCell ⟨w.heap.size,k*6+4,none⟩ (.slice b4 ((s.ent k).nums 4).length d4)=W4 at *
   have H:=H4
   clear H4 y4 x4
   obtain⟨a5,c5,q5,hs5,hl5⟩:=(H.out).getI hlt 5 (by omega) (by omega)
   have z5:=H.out.blk.frozen (k*6+5)
   go_wp2_with fail
   refine (dF a5 c5 ((s.ent k).nums 5) _ hs5 hl5).mono ?_
   rintro e w5 ⟨v5,rfl,hc5⟩
   obtain⟨b5,d5,rfl,_⟩:=bF hc5.1
   have H5:Hid (dG w s zr _ (k*6+(5+1)) (w5.setCell ⟨w.heap.size,k*6+5,none⟩ (.slice b5 ((s.ent k).nums 5).length d5))):=H.out.stepI hlt (by omega) (by omega) hc5 hl5
   have y5:w5.cell? ⟨w.heap.size,k*6+5,none⟩=some (.slice a5 ((s.ent k).nums 5).length c5):=by rw[hc5.2.2.cell (p:=⟨w.heap.size,k*6+5,none⟩) (by have:=H.out.lt;show w.heap.size<_;omega)];exact q5
   have x5:w5.frozen? ⟨w.heap.size,k*6+5,none⟩=false:=by rw[hc5.2.2.frozen (p:=⟨w.heap.size,k*6+5,none⟩) (by have:=H.out.lt;show w.heap.size<_;omega)];exact z5
   clear H q5 z5 hc5 hs5 hl5
   go_wp2
   go_roundw
   case rel=>exact⟨k+1,_,by omega,by go_num,H5.out.next⟩
   case measure=>simp[intOf];omega
  ·obtain rfl:k=32:=by omega
   obtain⟨ao,co,eo,hso⟩:=H.out.node.order.sl
   have hlo:s.order.length*8≤140737488355328:=by
    obtain⟨_,_,_,_,hl,_⟩:=H.out.node.order
    exact hl
   have qo:wr.cell? ⟨w.heap.size,192,none⟩=some (.slice ao s.order.length co):=by rw[H.out.blk.cell (by omega),eo]
   have zo:=H.out.blk.frozen 192
   clear eo
   go_wp2_with fail
   refine (dF ao co s.order _ hso hlo).mono ?_
   rintro e w1 ⟨v1,rfl,hc1⟩
   obtain⟨b1,d1,rfl,_⟩:=bF hc1.1
   have y1:w1.cell? ⟨w.heap.size,192,none⟩=some (.slice ao s.order.length co):=by rw[hc1.2.2.cell (p:=⟨w.heap.size,192,none⟩) (by have:=H.out.lt;show w.heap.size<_;omega)];exact qo
   have x1:w1.frozen? ⟨w.heap.size,192,none⟩=false:=by rw[hc1.2.2.frozen (p:=⟨w.heap.size,192,none⟩) (by have:=H.out.lt;show w.heap.size<_;omega)];exact zo
   obtain⟨fv,hfv⟩:∃fv,fv=fun i=>if i=192 then Value.slice b1 s.order.length d1 else mv i:=⟨_,rfl⟩
   have HF:Hid (lS w s zr fv (w1.setCell ⟨w.heap.size,192,none⟩ (.slice b1 s.order.length d1))):=by rw[hfv];exact H.out.fin hc1 hlo
   clear H qo zo hso hfv hc1
   go_upto_region 12 with fail
   generalize w1.setCell ⟨w.heap.size,192,none⟩ (.slice b1 s.order.length d1)=W1 at *
   obtain⟨t,hblk⟩:=HF.out.blk
   have hres:=HF.out.res
   obtain⟨fr,hfr⟩:∃fr,fr=aD 201 fv:=⟨_,rfl⟩
   have hsize:(Try.prog.info? 41).map (·.size)=some fr.size:=by rw[hfr,aA];exact Try.infoNode
   have hzs:zr.size=fr.size:=by rw[hfr,HZ.out,aA,aA]
   have hone:fr.all (·.oneCell')=true:=by rw[hfr];exact aS HF.out.one
   rw[←hfr] at hblk
   have HFR:Hid (fr=aD 201 fv):=hfr
   have HW:Hid (j9 w.heap.size (W1.setRow (w.heap.size+1) fr) fv s∧Below w.heap.size w (W1.setRow (w.heap.size+1) fr)):=HF.out.done fr
   clear hfr HF y1 x1
   go_wp2_with (first
    | (refine wpList_load_row rfl 41 _ rfl w.heap.size rfl t fr (0,0) _ hblk Try.underlying41 rfl hsize ?_)
    | (refine wpList_store_row rfl 41 _ _ rfl (w.heap.size+1) fr rfl rfl 41 _ hres hsize hzs hone ?_))
   refine bodyPost_ret (v:= .agg fr) (results_cell_row Try.results64 _ _ (w.heap.size+1) 41 _ (0,0) _ rfl (aM hres) Try.underlying41 rfl hsize) rfl ⟨fv,by rw[HFR.out],HW.out⟩
end Go.Proofs.Ytkoefoccbjhoiab
