/-
squeezed by tools/squeeze.py from: CluG CluE CluH CluI NClone FrV Wpl Wpl2
-/
import Derived.Test.YtkoefoccbjhoiadGreatTope7
import Derived.Test.YtkoefoccbjhoiadGreatTope3
import Derived.OwnWalk
import Derived.ArgAppend
import Derived.Lib.SliceRun
import Derived.Test.YtkoefoccbjhoiadGreatTope2
set_option linter.unusedVariables false
set_option linter.unusedSimpArgs false
set_option maxRecDepth 100000
set_option maxHeartbeats 4000000
namespace Go.Proofs.YtkoefoccbjhoiadGreat
open Go.RowKit
def iJ (s:aB):Prop:=∀i,∀v∈(s.ent i).vals,tO v
theorem pU (sh:Int):∀(ops:List OpL) (i:Nat) (v:Nat→Int),∀w∈(cM sh i ops v).2.2,tO w
 | [],_,_,w,h=>by simp[cM] at h
 | o::r,i,v,w,h=>by
  unfold cM at h
  split at h
  ·rcases List.mem_cons.1 h with e | e
   ·rw[e];exact ES _ _ _
   ·exact pU sh r (i+1) _ w e
  ·exact pU sh r (i+1) _ w h
theorem G3:iJ dN:=by intro i v h;simp[dN,j0] at h
theorem G2 {s:aB} (h:iJ s) (sh:Int) (n:Nat):iJ (s.exec sh n):=by
 intro i v hv
 by_cases e:i=n
 ·subst e
  have:((s.exec sh i).ent i).vals=(cM sh 0 (s.ent i).ops s.vals).2.2:=congrArg cV.vals (aU _ _ _)
  rw[this] at hv
  exact pU _ _ _ _ v hv
 ·have:(s.exec sh n).ent i=s.ent i:=aQ _ _ e
  rw[this] at hv
  exact h i v hv
theorem uZ (sh:Int):∀(l:List Nat) {s:aB},iJ s→iJ (s.execs sh l)
 | [],_,h=>h
 | a::l,s,h=>by
  have h1:iJ (aB.execIf sh s a):=by
   unfold aB.execIf
   split
   ·exact G2 h sh a
   ·exact h
  exact uZ (s:=aB.execIf sh s a) sh l h1
theorem BV {s:aB} (h:iJ s) (sh:Int):iJ (s.settle sh):=by
 have:∀(l:List Nat) (t:aB),iJ t→iJ (l.foldl (aB.round s.graph sh) t):=by
  intro l
  induction l with
  | nil=>exact fun t ht=>ht
  | cons a l ih=>
   intro t ht
   refine ih _ ?_
   unfold aB.round
   split
   ·exact uZ (s:=t) sh _ ht
   ·exact ht
 exact this _ s h
theorem xI {s:aB} {who:Int} {f:aD} (h:iJ s):iJ (aN s who f).1:=by
 rcases dI s who f with ⟨_,h1,_⟩ | ⟨_,_,_,_,_,_,⟨_,_,e⟩ | ⟨_,e⟩⟩
 ·rw[h1];exact h
 ·rw[e]
  show iJ (s.asked (ofL who) f)
  unfold aB.asked
  split
  ·intro i v hv
   by_cases ei:i=f.id.toNat
   ·rw[ei,i7] at hv
    simp at hv
   ·rw[eY s _ f ei] at hv
    exact h i v hv
  ·exact h
 ·rw[e]
  show iJ (s.commit (ofL who) f)
  unfold aB.commit
  split
  ·refine BV (fun i v hv=>?_) _
   by_cases ei:i=f.id.toNat
   ·rw[ei,kC] at hv
    exact h _ v hv
   ·have:(s.placed (ofL who) f).ent i=s.ent i:=aQ _ _ ei
    rw[this] at hv
    exact h i v hv
  ·exact h
theorem xF:∀(xs vs:List Int) (l:Int) (n:Nat),n≤4→dK l n xs=true→(∀v∈vs,tO v)→cA l xs vs=true
 | [],_,_,_,_,_,_=>by unfold cA;rfl
 | _::_,[],_,_,_,_,_=>by unfold cA;rfl
 | a::xs,v::vs,l,n,hn,ha,hv=>by
  unfold dK at ha
  simp only[Bool.and_eq_true,decide_eq_true_iff] at ha
  unfold cA
  have hw:=hv v (by simp)
  rw[xF xs vs a n hn ha.2 (fun w h=>hv w (by simp[h])),show decide (-1099511627776≤v∧v≤1099511627776)=true from decide_eq_true hw]
  have:(decide (a≤l) || decide (4≤a))=false:=by
   rw[Bool.or_eq_false_iff]
   exact⟨decide_eq_false (by omega),decide_eq_false (by omega)⟩
  rw[this]
  rfl
theorem FB {zs:List OpL} (h:bO zs=true):zs.length≤4:=(FT h).1
theorem oF {s:aB} {who:Int} {f:aD} (hw:iJ s):∀g∈(aN s who f).2.1,aM g=0∧g.kind≠1∧g.kind≠3:=by
 intro g hg
 have hw':=xI (who:=who) (f:=f) hw
 have hgood:(aN s who f).2.2=0→bR (aN s who f).1:=xD
 rcases dI s who f with ⟨_,_,h1⟩ | ⟨_,hf,h0,hn,w0,w5,⟨_,_,e⟩ | ⟨_,e⟩⟩
 ·rw[h1] at hg;simp at hg
 ·have G:=hgood h0
  obtain⟨i1,i2,_⟩:=jW hf
  rw[e] at hg G
  have hg:g∈[(⟨2,who,f.id,[],((s.asked (ofL who) f).ent f.id.toNat).first,[],[]⟩:aD)]:=hg
  rw[List.mem_singleton] at hg
  subst hg
  have G:bR (s.asked (ofL who) f):=G
  have hfi:bD (-1) ((s.asked (ofL who) f).ent f.id.toNat).first=true∧dY ((s.asked (ofL who) f).ent f.id.toNat).first f.id=false:=by
   rcases G.ent f.id.toNat (by omega) with e | F
   ·rw[e];exact⟨rfl,rfl⟩
   ·have:=F.first
    rw[show ((f.id.toNat:Nat):Int)=f.id by omega] at this
    exact this
  refine⟨?_,(show (2:Int)≠1 by decide),(show (2:Int)≠3 by decide)⟩
  unfold aM eB dM dR
  simp only[hfi.1,hfi.2]
  rw[if_neg (by decide),if_neg (by omega)]
  rfl
 ·have G:=hgood h0
  obtain⟨i1,i2,_⟩:=jW hf
  rw[e] at hg G hw'
  have hg:g∈(s.commit (ofL who) f).answers (ofL who) who f.id:=hg
  have G:bR (s.commit (ofL who) f):=G
  have hw':iJ (s.commit (ofL who) f):=hw'
  unfold aB.answers at hg
  rcases List.mem_cons.1 hg with hg | hg
  ·subst hg
   refine⟨?_,(show (4:Int)≠1 by decide),(show (4:Int)≠3 by decide)⟩
   unfold aM eB dM dR
   simp only
   rw[if_neg (by decide),if_neg (by omega)]
   rfl
  ·split at hg
   ·rename_i h3
    rw[List.mem_singleton] at hg
    subst hg
    refine⟨?_,(show (5:Int)≠1 by decide),(show (5:Int)≠3 by decide)⟩
    have F:=G.fine (n:=f.id.toNat) (by omega) (by rw[h3.1];decide)
    have t:=xF _ ((s.commit (ofL who) f).ent f.id.toNat).vals (-1) _ (FB F.ops) F.ats (hw' _)
    unfold aM eB dM dR
    simp only[t,F.vals]
    rw[if_neg (by decide),if_neg (by omega)]
    simp
   ·simp at hg
theorem kW {c:aG} {id:Int} {g:aD} (h:g∈cQ c id):aM g=0:=by
 obtain⟨hb,hid,hn,eid,eops,_⟩:=nZ h
 unfold cQ at h
 split at h
 ·simp at h
 ·rename_i hno
  have hg:dU c=true:=by
   cases e:dU c
   ·exact absurd (Or.inl e) hno
   ·rfl
  have hd:dY c.deps id=false:=by
   cases e:dY c.deps id
   ·rfl
   ·exact absurd (Or.inr (Or.inr (Or.inr (Or.inr e)))) hno
  rw[jZ hb,Bool.and_eq_true] at hg
  obtain⟨n,hn6,hg1⟩:=List.mem_flatMap.1 h
  have hn6:=List.mem_range.1 hn6
  unfold aG.send at hg1
  split at hg1
  ·split at hg1
   ·rw[List.mem_singleton] at hg1
    subst hg1
    unfold aM eB dM dR
    simp only[hg.1,hg.2,hd]
    rw[if_neg (by decide),if_neg (by omega)]
    rfl
   ·simp at hg1
  ·split at hg1
   ·rw[List.mem_singleton] at hg1
    subst hg1
    unfold aM eB dM dR
    simp only[hg.1]
    rw[if_neg (by decide),if_neg (by omega)]
    rfl
   ·simp at hg1
def kK (s:aB):Prop:=∀i,i<32→(s.ent i).state=2→jQ s.graph (i:Int)=false
theorem zW:kK dN:=fun i _ h=>absurd h (show (0:Int)≠2 by decide)
theorem yS (s:aB) (sh:Int) (n:Nat):(aB.execIf sh s n).graph=s.graph:=by
 unfold aB.execIf
 split
 ·rename_i h;exact uD s sh n h
 ·rfl
theorem sJ (sh:Int):∀(l:List Nat) (s:aB),(s.execs sh l).graph=s.graph
 | [],_=>rfl
 | a::l,s=>(sJ sh l (aB.execIf sh s a)).trans (yS s sh a)
theorem CS {s:aB} {sh:Int} {n i:Nat} (h:((aB.execIf sh s n).ent i).state=2):(s.ent i).state=2∧i≠n:=by
 unfold aB.execIf at h
 split at h
 ·rename_i e
  by_cases ei:i=n
  ·subst ei
   have:((s.exec sh i).ent i).state=3:=congrArg cV.state (aU _ _ _)
   rw[this] at h
   exact absurd h (by decide)
  ·have:(s.exec sh n).ent i=s.ent i:=aQ _ _ ei
   rw[this] at h
   exact⟨h,ei⟩
 ·rename_i e
  exact⟨h,fun k=>e (k ▸ h)⟩
theorem qN (sh:Int):∀(l:List Nat) {s:aB} {i:Nat},((s.execs sh l).ent i).state=2→(s.ent i).state=2∧i ∉ l
 | [],_,_,h=>⟨h,by simp⟩
 | a::l,s,i,h=>by
  obtain⟨h1,h2⟩:=qN sh l (s:=aB.execIf sh s a) h
  obtain⟨h3,h4⟩:=CS h1
  exact⟨h3,by simp[h2,h4]⟩
theorem BI (g:bG) (sh:Int) (t:aB) (n:Nat):(aB.round g sh t n).graph=t.graph:=by
 unfold aB.round
 split
 ·exact sJ sh _ t
 ·rfl
theorem xA {g:bG} {sh:Int} {t:aB} {n i:Nat} (h:((aB.round g sh t n).ent i).state=2):(t.ent i).state=2:=by
 unfold aB.round at h
 split at h
 ·exact (qN sh _ h).1
 ·exact h
theorem DF {g:bG} {n:Nat} (hn:n<32) (hr:jQ g (n:Int)=true):n∈dV g (n:Int):=by
 rw[A0 hn,if_pos hr]
 exact (zM (yK g hn) n).2 ((cH g hn n).2 (.refl n))
theorem DZ {g:bG} {sh:Int} {t:aB} {n:Nat} (hn:n<32) (hr:jQ g (n:Int)=true):((aB.round g sh t n).ent n).state≠2:=by
 intro h
 have h2:=xA h
 unfold aB.round at h
 rw[if_pos h2] at h
 exact (qN sh _ h).2 (DF hn hr)
theorem zU (s:aB) (sh:Int):kK (s.settle sh)∧(s.settle sh).graph=s.graph:=by
 have:∀k,k≤32→(∀i,i<k→(((List.range k).foldl (aB.round s.graph sh) s).ent i).state=2→jQ s.graph (i:Int)=false)∧((List.range k).foldl (aB.round s.graph sh) s).graph=s.graph:=by
  intro k
  induction k with
  | zero=>exact fun _=>⟨fun i hi=>absurd hi (Nat.not_lt_zero i),rfl⟩
  | succ k ih=>
   intro hk
   obtain⟨i1,i2⟩:=ih (by omega)
   rw[List.range_succ,List.foldl_append]
   refine⟨fun i hi h=>?_,?_⟩
   ·have h:((aB.round s.graph sh ((List.range k).foldl (aB.round s.graph sh) s) k).ent i).state=2:=h
    by_cases e:i<k
    ·exact i1 i e (xA h)
    ·obtain rfl:i=k:=by omega
     cases hr:jQ s.graph (i:Int)
     ·rfl
     ·exact absurd h (DZ (by omega) hr)
   ·exact (BI s.graph sh _ k).trans i2
 obtain⟨h1,h2⟩:=this 32 (Nat.le_refl _)
 refine⟨fun i hi h=>?_,h2⟩
 have e:(s.settle sh).graph=s.graph:=h2
 rw[e]
 exact h1 i hi h
theorem zV {s:aB} {who:Int} {f:aD} (h:kK s):kK (aN s who f).1:=by
 rcases dI s who f with ⟨_,h1,_⟩ | ⟨hg,hf,_,_,_,_,⟨hk,_,e⟩ | ⟨hk,e⟩⟩
 ·rw[h1];exact h
 ·rw[e]
  show kK (s.asked (ofL who) f)
  intro i hi h2
  rw[oM hg (ofL who) hf]
  refine h i hi ?_
  unfold aB.asked at h2
  split at h2
  ·by_cases ei:i=f.id.toNat
   ·rw[ei,i7] at h2
    exact absurd h2 (show (1:Int)≠2 by decide)
   ·rw[eY s _ f ei] at h2
    exact h2
  ·exact h2
 ·rw[e]
  show kK (s.commit (ofL who) f)
  unfold aB.commit
  split
  ·exact (zU _ _).1
  ·exact h
def Sys.took (S:Sys) (f:aD):Sys:=⟨upd S.B f.node.toNat (aN (S.B f.node.toNat) f.node f).1,S.C,fun g=>S.M g∨g∈(aN (S.B f.node.toNat) f.node f).2.1⟩
structure jL (S:Sys):Prop where
 own:∀i:Nat,i<32→dY (S.C i).deps (i:Int)=false
 most:∀i,i<32→(S.C i).begun=true→(S.C i).fixed=false→eC (S.C i).ops (S.C i).told=false
 kn:∀f,S.M f→f.kind=4→2≤((S.B f.node.toNat).ent f.id.toNat).state
 known:∀i,i<32→∀k,k<6→(S.C i).known k=true→2≤((S.B k).ent i).state
 settled:∀n,n<6→kK (S.B n)
 ask:∀f,S.M f→f.kind=1→bP f.ops (ofL f.node)=true
 first:∀n,n<6→∀i,i<32→∀d:Nat,(d:Int)∈((S.B n).ent i).first→(S.C d).begun=true
 deps:∀i,i<32→∀d:Nat,(d:Int)∈(S.C i).deps→(S.C d).begun=true
theorem jL.start:jL ⟨fun _=>dN,fun _=>b9,fun _=>False⟩:=by
 refine⟨fun _ _=>rfl,fun i _ h=>?_,fun _ h=>h.elim,fun i _ k _ h=>?_,fun _ _=>zW,fun _ h=>h.elim,fun n _ i _ d h=>?_,fun i _ d h=>?_⟩
 ·cases h
 ·cases h
 ·have h:(d:Int)∈([]:List Int):=h
  simp at h
 ·have h:(d:Int)∈([]:List Int):=h
  simp at h
theorem D7 {s:aB} {who:Int} {f:aD} (h0:∀n,0≤(s.ent n).state) (i:Nat):(s.ent i).state≤((aN s who f).1.ent i).state:=(mD s who f h0).state i
theorem jL.node {S:Sys} (h:fW S) (u:jL S) {f:aD} (hM:S.M f) (hk:f.kind=1∨f.kind=3) (h0:(aN (S.B f.node.toNat) f.node f).2.2=0):jL (S.took f):=by
 obtain⟨hr1,hr2⟩:=h.s.rng f hM
 have hn6:f.node.toNat<6:=by omega
 have hnat:(f.node.toNat:Int)=f.node:=by omega
 have st:∀n,n<6→∀i,((S.B n).ent i).state≤(((S.took f).B n).ent i).state:=fun n hn i=>by
  show _≤((upd S.B f.node.toNat (aN (S.B f.node.toNat) f.node f).1 n).ent i).state
  by_cases e:n=f.node.toNat
  ·subst e
   rw[aU];exact D7 (h.state _ hn6) i
  ·rw[aQ _ _ e];exact Int.le_refl _
 have K:=mD (S.B f.node.toNat) f.node f (h.state _ hn6)
 refine⟨u.own,u.most,fun g hg hg4=>?_,fun i hi k hk6 hkn=>Int.le_trans (u.known i hi k hk6 hkn) (st k hk6 i),fun n hn=>?_,fun g hg hg1=>?_,fun n hn i hi d hd=>?_,u.deps⟩
 ·rcases hg with hg | hg
  ·obtain⟨q1,q2⟩:=h.s.rng g hg
   exact Int.le_trans (u.kn g hg hg4) (st _ (by omega) _)
  ·rcases dI (S.B f.node.toNat) f.node f with ⟨hh,_⟩ | ⟨_,hf,_,_,_,_,⟨_,_,e⟩ | ⟨hk3,e⟩⟩
   ·exact absurd h0 hh
   ·rw[e] at hg
    have hg:g∈[(⟨2,f.node,f.id,[],_,[],[]⟩:aD)]:=hg
    rw[List.mem_singleton] at hg
    rw[hg] at hg4
    exact absurd hg4 (show (2:Int)≠4 by decide)
   ·have hgg:g.node=f.node∧g.id=f.id:=by
     rw[e] at hg
     have hg:g∈((S.B f.node.toNat).commit (ofL f.node) f).answers (ofL f.node) f.node f.id:=hg
     unfold aB.answers at hg
     rcases List.mem_cons.1 hg with hg | hg
     ·rw[hg];exact⟨rfl,rfl⟩
     ·split at hg
      ·rw[List.mem_singleton] at hg
       rw[hg];exact⟨rfl,rfl⟩
      ·simp at hg
    rw[hgg.1,hgg.2]
    show 2≤((upd S.B f.node.toNat (aN (S.B f.node.toNat) f.node f).1 f.node.toNat).ent f.id.toNat).state
    rw[aU]
    have:=congrArg (fun c=>c.2.2.2.2) (lK h0 hk3)
    have this:decide (2≤((aN (S.B f.node.toNat) f.node f).1.ent f.id.toNat).state)=_:=this
    by_cases hlt:((S.B f.node.toNat).ent f.id.toNat).state<2
    ·rw[if_pos hlt] at this
     exact of_decide_eq_true this
    ·exact Int.le_trans (by omega) (K.state f.id.toNat)
 ·show kK (upd S.B f.node.toNat _ n)
  by_cases e:n=f.node.toNat
  ·rw[e,aU];exact zV (u.settled _ hn6)
  ·rw[aQ _ _ e];exact u.settled n hn
 ·rcases hg with hg | hg
  ·exact u.ask g hg hg1
  ·rcases dI (S.B f.node.toNat) f.node f with ⟨hh,_⟩ | ⟨_,hf,_,_,_,_,⟨_,_,e⟩ | ⟨hk3,e⟩⟩
   ·exact absurd h0 hh
   ·rw[e] at hg
    have hg:g∈[(⟨2,f.node,f.id,[],_,[],[]⟩:aD)]:=hg
    rw[List.mem_singleton] at hg
    rw[hg] at hg1
    exact absurd hg1 (show (2:Int)≠1 by decide)
   ·rw[e] at hg
    have hg:g∈((S.B f.node.toNat).commit (ofL f.node) f).answers (ofL f.node) f.node f.id:=hg
    unfold aB.answers at hg
    rcases List.mem_cons.1 hg with hg | hg
    ·rw[hg] at hg1
     exact absurd hg1 (show (4:Int)≠1 by decide)
    ·split at hg
     ·rw[List.mem_singleton] at hg
      rw[hg] at hg1
      exact absurd hg1 (show (5:Int)≠1 by decide)
     ·simp at hg
 ·have hd:(d:Int)∈((upd S.B f.node.toNat (aN (S.B f.node.toNat) f.node f).1 n).ent i).first:=hd
  show (S.C d).begun=true
  by_cases e:n=f.node.toNat
  ·rw[e,aU] at hd
   have old:(d:Int)∈((S.B f.node.toNat).ent i).first→(S.C d).begun=true:=fun h1=>u.first _ hn6 i hi d h1
   have new:∀ops sh,(d:Int)∈(S.B f.node.toNat).ahead i ops sh→(S.C d).begun=true:=fun ops sh h1=>by
    obtain⟨d32,_,ds,_⟩:=n7.1 h1
    exact (h.s.ent1 _ hn6 d d32 (by omega)).1
   by_cases ei:i=f.id.toNat
   ·subst ei
    rcases hk with hk | hk
    ·rw[nA h0 hk] at hd
     split at hd
     ·exact new _ _ hd
     ·exact old hd
    ·have:=congrArg (fun c=>c.2.1) (lK h0 hk)
     have this:((aN (S.B f.node.toNat) f.node f).1.ent f.id.toNat).first=_:=this
     rw[this] at hd
     split at hd
     ·have hd:(d:Int)∈(if ((S.B f.node.toNat).ent f.id.toNat).state=0 then (S.B f.node.toNat).ahead f.id.toNat f.ops (ofL f.node) else ((S.B f.node.toNat).ent f.id.toNat).first):=hd
      split at hd
      ·exact new _ _ hd
      ·exact old hd
     ·exact old hd
   ·have:=congrArg (fun c=>c.2.1) (mC (s:=S.B f.node.toNat) (who:=f.node) (f:=f) ei)
    have this:((aN (S.B f.node.toNat) f.node f).1.ent i).first=((S.B f.node.toNat).ent i).first:=this
    rw[this] at hd
    exact old hd
  ·rw[aQ _ _ e] at hd
   exact u.first n hn i hi d hd
theorem sF (sh:Int):∀(l:List (Int × Int)) (c:aG),(c.dones sh l).known=c.known
 | [],_=>rfl
 | p::l,c=>by
  show ((aG.done1 sh c p).dones sh l).known=c.known
  rw[sF sh l]
  unfold aG.done1
  split<;>rfl
theorem BS {c:aG} {id:Int} {f:aD} {k:Nat} (h:(aR c id f).1.known k=true):c.known k=true∨(f.kind=4∧k=f.node.toNat):=by
 unfold aR at h
 split at h
 ·exact Or.inl h
 ·split at h
  ·exact Or.inl h
  ·split at h
   ·exact Or.inl h
   ·split at h
    ·split at h<;>exact Or.inl h
    ·split at h
     ·exact Or.inl h
     ·split at h
      ·rename_i h4
       have h:upd c.known f.node.toNat true k=true:=h
       by_cases e:k=f.node.toNat
       ·exact Or.inr ⟨h4,e⟩
       ·rw[aQ _ _ e] at h;exact Or.inl h
      ·have h:(c.dones (ofL f.node) (f.ats.zip f.vals)).known k=true:=h
       rw[sF] at h
       exact Or.inl h
theorem iV {c:aG} {id:Int} {g:aD} (h:g∈cQ c id):(g.kind=1→bP g.ops (ofL g.node)=true)∧g.kind≠4:=by
 unfold cQ at h
 split at h
 ·simp at h
 ·obtain⟨n,_,hg⟩:=List.mem_flatMap.1 h
  unfold aG.send at hg
  split at hg
  ·split at hg
   ·rw[List.mem_singleton] at hg
    rw[hg]
    exact⟨fun e=>absurd e (show (3:Int)≠1 by decide),(show (3:Int)≠4 by decide)⟩
   ·simp at hg
  ·split at hg
   ·rename_i ht
    rw[List.mem_singleton] at hg
    rw[hg]
    rw[Bool.and_eq_true] at ht
    exact⟨fun _=>ht.1,(show (1:Int)≠4 by decide)⟩
   ·simp at hg
theorem tL (c:aG) (id:Int) (f:aD):(aR c id f).1.begun=c.begun:=by
 rcases f8 c id f with ⟨_,h1,_⟩ | ⟨_,_,_,_,_,_,he,_⟩ | ⟨_,_,_,hs,_⟩
 ·rw[h1]
 ·rw[he];rfl
 ·exact hs.begun
theorem s4 {zs:List Int} {n:Int}:dY zs n=true↔n∈zs:=by
 unfold dY eqB
 simp
theorem jL.answer {S:Sys} (h:fW S) (u:jL S) {f:aD} (hM:S.M f) (h0:(aR (S.C f.id.toNat) f.id f).2.2=0):
  jL ⟨S.B,upd S.C f.id.toNat (aR (S.C f.id.toNat) f.id f).1,fun g=>S.M g∨g∈(aR (S.C f.id.toNat) f.id f).2.1⟩:=by
 obtain⟨hr1,hr2⟩:=h.s.rng f hM
 have hi32:f.id.toNat<32:=by omega
 have hn6:f.node.toNat<6:=by omega
 have hnat:(f.id.toNat:Int)=f.id:=by omega
 have beg:∀d,(upd S.C f.id.toNat (aR (S.C f.id.toNat) f.id f).1 d).begun=(S.C d).begun:=fun d=>by
  rcases eW S.C f.id.toNat (aR (S.C f.id.toNat) f.id f).1 d with ⟨e1,e2⟩ | ⟨_,e2⟩
  ·rw[e2,tL,e1]
  ·rw[e2]
 have D:∀d:Nat,(d:Int)∈(aR (S.C f.id.toNat) f.id f).1.deps→(S.C d).begun=true:=by
  intro d hd
  rcases f8 (S.C f.id.toNat) f.id f with ⟨h1,_⟩ | ⟨_,_,hk,_,_,_,he,_⟩ | ⟨_,_,_,hs,_⟩
  ·exact absurd h0 h1
  ·rw[he] at hd
   have hd:(d:Int)∈gQ (S.C f.id.toNat).deps f.deps:=hd
   rcases (pL.1 hd).2 with e | e
   ·exact u.deps _ hi32 d e
   ·rw[(h.s.tel f hM hk).2] at e
    exact u.first _ hn6 _ hi32 d e
  ·rw[hs.deps] at hd
   exact u.deps _ hi32 d hd
 have O:dY (aR (S.C f.id.toNat) f.id f).1.deps (f.id.toNat:Int)=false:=by
  have old:=u.own _ hi32
  rcases f8 (S.C f.id.toNat) f.id f with ⟨h1,_⟩ | ⟨_,hg,hk,_,_,_,he,_⟩ | ⟨_,_,_,hs,_⟩
  ·exact absurd h0 h1
  ·rw[he]
   show dY (gQ (S.C f.id.toNat).deps f.deps) (f.id.toNat:Int)=false
   cases e:dY (gQ (S.C f.id.toNat).deps f.deps) (f.id.toNat:Int)
   ·rfl
   ·rcases (pL.1 (s4.1 e)).2 with e | e
    ·rw[s4.2 e] at old;cases old
    ·have F:=h.s.tel f hM hk
     rw[F.2] at e
     have:=((h.s.good _ hn6).fine hi32 (by have:=F.1;omega)).first.2
     rw[s4.2 e] at this;cases this
  ·rw[hs.deps];exact old
 refine⟨fun i hi=>?_,fun i hi hb hf=>?_,fun g hg hg4=>?_,fun i hi k hk hkn=>?_,u.settled,fun g hg hg1=>?_,fun n hn i hi d hd=>?_,fun i hi d hd=>?_⟩
 ·show dY (upd S.C f.id.toNat (aR (S.C f.id.toNat) f.id f).1 i).deps (i:Int)=false
  rcases eW S.C f.id.toNat (aR (S.C f.id.toNat) f.id f).1 i with ⟨e1,e2⟩ | ⟨_,e2⟩
  ·rw[e2,e1];exact O
  ·rw[e2];exact u.own i hi
 ·have hb:(upd S.C f.id.toNat (aR (S.C f.id.toNat) f.id f).1 i).begun=true:=hb
  have hf:(upd S.C f.id.toNat (aR (S.C f.id.toNat) f.id f).1 i).fixed=false:=hf
  show eC (upd S.C f.id.toNat (aR (S.C f.id.toNat) f.id f).1 i).ops (upd S.C f.id.toNat (aR (S.C f.id.toNat) f.id f).1 i).told=false
  rw[beg] at hb
  rcases eW S.C f.id.toNat (aR (S.C f.id.toNat) f.id f).1 i with ⟨e1,e2⟩ | ⟨_,e2⟩
  ·rw[e2] at hf ⊢
   rcases f8 (S.C f.id.toNat) f.id f with ⟨h1,_⟩ | ⟨_,_,_,_,_,_,he,_⟩ | ⟨_,_,_,hs,_⟩
   ·exact absurd h0 h1
   ·rw[he] at hf ⊢
    exact hf
   ·rw[hs.ops,hs.told]
    rw[hs.fixed] at hf
    rw[e1] at hb
    exact u.most _ hi32 hb hf
  ·rw[e2] at hf ⊢
   exact u.most i hi hb hf
 ·rcases hg with hg | hg
  ·exact u.kn g hg hg4
  ·exact absurd hg4 (iV (lG hg).1).2
 ·have hkn:(upd S.C f.id.toNat (aR (S.C f.id.toNat) f.id f).1 i).known k=true:=hkn
  show 2≤((S.B k).ent i).state
  rcases eW S.C f.id.toNat (aR (S.C f.id.toNat) f.id f).1 i with ⟨e1,e2⟩ | ⟨_,e2⟩
  ·rw[e2] at hkn
   rw[e1]
   rcases BS hkn with e | ⟨e,ek⟩
   ·exact u.known _ hi32 k hk e
   ·rw[ek]
    exact u.kn f hM e
  ·rw[e2] at hkn
   exact u.known i hi k hk hkn
 ·rcases hg with hg | hg
  ·exact u.ask g hg hg1
  ·exact (iV (lG hg).1).1 hg1
 ·exact (beg d).trans (u.first n hn i hi d hd)
 ·have hd:(d:Int)∈(upd S.C f.id.toNat (aR (S.C f.id.toNat) f.id f).1 i).deps:=hd
  refine (beg d).trans ?_
  rcases eW S.C f.id.toNat (aR (S.C f.id.toNat) f.id f).1 i with ⟨e1,e2⟩ | ⟨_,e2⟩
  ·rw[e2] at hd;exact D d hd
  ·rw[e2] at hd;exact u.deps i hi d hd
theorem jL.again {S:Sys} (u:jL S) (i:Nat):jL ⟨S.B,S.C,fun g=>S.M g∨g∈cQ (S.C i) (i:Int)⟩:=by
 refine⟨u.own,u.most,fun g hg hg4=>?_,u.known,u.settled,fun g hg hg1=>?_,u.first,u.deps⟩
 ·rcases hg with hg | hg
  ·exact u.kn g hg hg4
  ·exact absurd hg4 (iV hg).2
 ·rcases hg with hg | hg
  ·exact u.ask g hg hg1
  ·exact (iV hg).1 hg1
theorem FR {ops:List OpL} (h:bO ops=true):eC ops (fun _=>false)=false:=by
 have hk:=yV h
 have e0:m6 (fun _=>false) 0=0:=rfl
 have e1:m6 (fun _=>false) 1=0:=rfl
 unfold eC
 rw[e0,e1]
 cases ops with
 | nil=>unfold bO at h;simp at h
 | cons o r=>
  have:=hk o (by simp)
  by_cases ho:o.2.1 % 2=0
  ·have:bP (o::r) 0=true:=List.any_eq_true.2 ⟨o,by simp,by simp[kR,ho]⟩
   rw[this]
   rfl
  ·have:bP (o::r) 1=true:=List.any_eq_true.2 ⟨o,by simp,by simp[kR];omega⟩
   rw[this]
   simp
theorem jL.begin {S:Sys} (u:jL S) {i:Nat} {ops:List OpL} (h0:(bI (i:Int) ops).2.2=0):
  jL ⟨S.B,upd S.C i (bI (i:Int) ops).1,fun g=>S.M g∨g∈(bI (i:Int) ops).2.1⟩:=by
 have hgo:=(wL h0).2.1
 have e:bI (i:Int) ops=({ b9 with begun:=true,ops:=ops },cQ { b9 with begun:=true,ops:=ops } (i:Int),0):=by
  unfold bI at *
  split at h0
  ·exact absurd h0 (show (2:Int)≠0 by decide)
  ·rename_i h1
   rw[if_neg h1]
   split at h0
   ·exact absurd h0 (show (1:Int)≠0 by decide)
   ·rename_i h2
    rw[if_neg h2]
 rw[e]
 obtain⟨c,hc⟩:∃c:aG,c={ b9 with begun:=true,ops:=ops }:=⟨_,rfl⟩
 show jL ⟨S.B,upd S.C i { b9 with begun:=true,ops:=ops },fun g=>S.M g∨g∈cQ { b9 with begun:=true,ops:=ops } (i:Int)⟩
 rw[←hc]
 have beg:∀d,(S.C d).begun=true→(upd S.C i c d).begun=true:=fun d hd=>by
  rcases eW S.C i c d with ⟨_,e2⟩ | ⟨_,e2⟩
  ·rw[e2,hc]
  ·rw[e2];exact hd
 refine⟨fun j hj=>?_,fun j hj hbj hf=>?_,fun g hg hg4=>?_,fun j hj k hk hkn=>?_,u.settled,fun g hg hg1=>?_,fun n hn j hj d hd=>beg d (u.first n hn j hj d hd),fun j hj d hd=>?_⟩
 ·show dY (upd S.C i c j).deps (j:Int)=false
  rcases eW S.C i c j with ⟨_,e2⟩ | ⟨_,e2⟩
  ·rw[e2,hc];rfl
  ·rw[e2];exact u.own j hj
 ·have hbj:(upd S.C i c j).begun=true:=hbj
  have hf:(upd S.C i c j).fixed=false:=hf
  show eC (upd S.C i c j).ops (upd S.C i c j).told=false
  rcases eW S.C i c j with ⟨_,e2⟩ | ⟨_,e2⟩
  ·rw[e2,hc];exact FR hgo
  ·rw[e2] at hbj hf ⊢;exact u.most j hj hbj hf
 ·rcases hg with hg | hg
  ·exact u.kn g hg hg4
  ·exact absurd hg4 (iV hg).2
 ·have hkn:(upd S.C i c j).known k=true:=hkn
  show 2≤((S.B k).ent j).state
  rcases eW S.C i c j with ⟨_,e2⟩ | ⟨_,e2⟩
  ·rw[e2,hc] at hkn;cases hkn
  ·rw[e2] at hkn;exact u.known j hj k hk hkn
 ·rcases hg with hg | hg
  ·exact u.ask g hg hg1
  ·exact (iV hg).1 hg1
 ·have hd:(d:Int)∈(upd S.C i c j).deps:=hd
  refine beg d ?_
  rcases eW S.C i c j with ⟨_,e2⟩ | ⟨_,e2⟩
  ·rw[e2,hc] at hd
   have hd:(d:Int)∈([]:List Int):=hd
   simp at hd
  ·rw[e2] at hd;exact u.deps j hj d hd
def mW (w w':World) (v:Value) (zs:List Int):Prop:=w'.ownsRow w.heap.size 3 1 v zs.length (aT zs)∧(zs.length=0→∃a,v= .slice a 0 0)∧Below w.heap.size w w'
def oS (w w':World) (v:Value) (zs:List OpL):Prop:=w'.ownsRow w.heap.size 46 3 v zs.length (cB zs)∧(zs.length=0→∃a,v= .slice a 0 0)∧Below w.heap.size w w'
theorem y7 (zs:List Int):∀u∈aT zs,u.oneCell'=true:=by
 intro u hu
 obtain⟨n,_,rfl⟩:=List.mem_map.1 hu
 rfl
theorem zJ (zs:List OpL):∀u∈cB zs,u.oneCell'=true:=by
 intro u hu
 obtain⟨o,_,h⟩:=List.mem_flatMap.1 hu
 simp[k9] at h
 rcases h with rfl | rfl | rfl<;>rfl
theorem cJ.news {w w1:World} {ad:Addr} {zs:List Int} (h:cJ w.heap.size w (some ad) zs) (hb:Below w.heap.size w w1):∀j u,(aT zs)[j]? =some u→w1.cell? (ad.add j)=some u:=by
 intro j u hu
 rcases h with rfl | ⟨b,off,hb',hlt,hc⟩
 ·simp[aT] at hu
 ·obtain rfl:ad=⟨b,off,none⟩:=by simpa using hb'
  have hj:j<zs.length:=by
   obtain⟨hj,_⟩:=List.getElem?_eq_some_iff.1 hu
   simpa [aT] using hj
  rw[iP,hb.cell (p:=⟨b,off+j,none⟩) hlt,hc j hj]
  simp[aT,hj] at hu
  simp[List.getD,hj,hu]
theorem eI.news {w w1:World} {ad:Addr} {zs:List OpL} (h:eI w (some ad) zs) (hb:Below w.heap.size w w1):∀j u,(cB zs)[j]? =some u→w1.cell? (ad.add j)=some u:=by
 intro j u hu
 rcases h with rfl | ⟨b,off,hb',hlt,hc⟩
 ·simp[cB] at hu
 ·obtain rfl:ad=⟨b,off,none⟩:=by simpa using hb'
  have hj:j<zs.length*3:=by
   obtain⟨hj,_⟩:=List.getElem?_eq_some_iff.1 hu
   rw[qU] at hj
   exact hj
  obtain⟨g0,g1,g2⟩:=nP zs (j / 3) (by omega)
  obtain⟨c0,c1,c2⟩:=hc (j / 3) (by omega)
  rw[iP,hb.cell (p:=⟨b,off+j,none⟩) hlt]
  have h3:j=j / 3*3∨j=j / 3*3+1∨j=j / 3*3+2:=by omega
  rcases h3 with e | e | e
  ·rw[e] at hu ⊢;rw[c0];rw[g0] at hu;exact hu
  ·rw[e] at hu ⊢;rw[←Nat.add_assoc,c1];rw[g1] at hu;exact hu
  ·rw[e] at hu ⊢;rw[←Nat.add_assoc,c2];rw[g2] at hu;exact hu
theorem cW (a:Option Addr) (cap:Nat) (zs:List Int) (w:World) (h:bN w a cap zs) (hl:zs.length*8≤140737488355328):
  Calls Tryz.prog 36 #[.slice a zs.length cap] w fun e w'=>∃v,e= .returned v∧mW w w' v zs:=by
 obtain⟨i0,hi,hz0,hz1,hz2⟩:=info_parts Tryz.infoInt
 have he:=fun w=>Go.Lib.run_eql_slice_nil (P:=Tryz.prog) w 31 3 a zs.length cap 0 0 Tryz.underlying31
 cases a with
 | none=>
  obtain⟨h1,rfl⟩:=h.2.2.2 rfl
  obtain rfl:=List.eq_nil_of_length_eq_zero h1
  simp only[Option.isNone_none,List.length_nil] at he
  go_enter Tryz.func36,Tryz.ntmps36
  go_wp2
  go_ret
  exact⟨_,rfl,World.ownsRow_nil _ _ _ _,fun _=>⟨_,rfl⟩,Below.refl _ _⟩
 | some ad=>
  simp only[Option.isNone_some] at he
  obtain⟨hz,hm,hc,_⟩:=h
  have HB:Hid (Below w.heap.size w (w.alloc (.cells #[] 3))):=(Below.refl _ _).alloc (Nat.le_refl _) _
  have HZ:Hid (cJ w.heap.size w (some ad) zs):=hz
  clear hz
  by_cases h0:zs.length=0
  ·obtain rfl:=List.eq_nil_of_length_eq_zero h0
   simp only[List.length_nil] at he
   go_enter Tryz.func36,Tryz.ntmps36
   go_wp2_with (first
    | (at_builtin;refine wpList_append_fits_any _ rfl _ _ 31 rfl w.heap.size 3 i0 1 Tryz.underlying31 hi hz1 w.heap.size 0 0 [] rfl (World.ownsRow_made (e:=3) (size:=1) w #[] 0 (Nat.le_refl _) (by decide) rfl) (some ad) 0 cap [] rfl rfl (fun h=>by cases h) (fun _ _ j u hj=>by simp at hj) (by simp) (Nat.le_refl _) ?_;intro w2 hown hg)
    | go_in)
   go_wp2
   go_ret
   exact⟨_,rfl,hown,fun _=>⟨_,rfl⟩,HB.out.grown hg (by rw[aA];omega) (by intro k hk;cases hk;exact Nat.le_refl _)⟩
  ·go_enter Tryz.func36,Tryz.ntmps36
   go_wp2_with (first
    | (at_builtin;refine wpList_append_own _ rfl _ _ 31 rfl w.heap.size 3 i0 (.int .i64 0) 1 8 Tryz.underlying31 hi hz0 hz1 hz2 rfl (by decide) _ _ _ rfl (World.ownsRow_made (e:=3) (size:=1) w #[] 0 (Nat.le_refl _) (by decide) rfl) ad zs.length cap (aT zs) rfl ?c1 ?c2 ?c3 ?c4 ?c5 ?c6 ?_)
    | go_in)
   case c1=>simp[aT]
   case c2=>exact HZ.out.news HB.out
   case c3=>exact y7 zs
   case c4=>unfold maxLen;omega
   case c5=>omega
   case c6=>rw[aA];omega
   ·intro v' w2 hown hg _
    go_wp2
    go_ret
    refine⟨_,rfl,?_,fun h=>absurd h h0,HB.out.grown hg (by rw[aA];omega) (by intro k hk;cases hk;exact Nat.le_refl _)⟩
    simpa using hown
theorem gB (a:Option Addr) (cap:Nat) (zs:List OpL) (w:World) (h:bT w a cap zs) (hl:zs.length*24≤140737488355328):
  Calls Tryz.prog 35 #[.slice a zs.length cap] w fun e w'=>∃v,e= .returned v∧oS w w' v zs:=by
 obtain⟨i0,hi,hz0,hz1,hz2⟩:=info_parts Tryz.infoOp
 have he:=fun w=>Go.Lib.run_eql_slice_nil (P:=Tryz.prog) w 27 46 a zs.length cap 0 0 Tryz.underlying27
 cases a with
 | none=>
  obtain⟨h1,rfl⟩:=h.2.2.2 rfl
  obtain rfl:=List.eq_nil_of_length_eq_zero h1
  simp only[Option.isNone_none,List.length_nil] at he
  go_enter Tryz.func35,Tryz.ntmps35
  go_wp2
  go_ret
  exact⟨_,rfl,World.ownsRow_nil _ _ _ _,fun _=>⟨_,rfl⟩,Below.refl _ _⟩
 | some ad=>
  simp only[Option.isNone_some] at he
  obtain⟨hz,hm,hc,_⟩:=h
  have HB:Hid (Below w.heap.size w (w.alloc (.cells #[] 46))):=(Below.refl _ _).alloc (Nat.le_refl _) _
  have HZ:Hid (eI w (some ad) zs):=hz
  clear hz
  by_cases h0:zs.length=0
  ·obtain rfl:=List.eq_nil_of_length_eq_zero h0
   simp only[List.length_nil] at he
   go_enter Tryz.func35,Tryz.ntmps35
   go_wp2_with (first
    | (at_builtin;refine wpList_append_fits_any _ rfl _ _ 27 rfl w.heap.size 46 i0 3 Tryz.underlying27 hi hz1 w.heap.size 0 0 [] rfl (World.ownsRow_made (e:=46) (size:=3) w #[] 0 (Nat.le_refl _) (by decide) rfl) (some ad) 0 cap [] rfl rfl (fun h=>by cases h) (fun _ _ j u hj=>by simp at hj) (by simp) (Nat.le_refl _) ?_;intro w2 hown hg)
    | go_in)
   go_wp2
   go_ret
   exact⟨_,rfl,hown,fun _=>⟨_,rfl⟩,HB.out.grown hg (by rw[aA];omega) (by intro k hk;cases hk;exact Nat.le_refl _)⟩
  ·go_enter Tryz.func35,Tryz.ntmps35
   go_wp2_with (first
    | (at_builtin;refine wpList_append_own _ rfl _ _ 27 rfl w.heap.size 46 i0 (.agg #[.int .i64 0,.int .i64 0,.int .i64 0]) 3 24 Tryz.underlying27 hi hz0 hz1 hz2 rfl (by decide) _ _ _ rfl (World.ownsRow_made (e:=46) (size:=3) w #[] 0 (Nat.le_refl _) (by decide) rfl) ad zs.length cap (cB zs) rfl ?c1 ?c2 ?c3 ?c4 ?c5 ?c6 ?_)
    | go_in)
   case c1=>exact qU zs
   case c2=>exact HZ.out.news HB.out
   case c3=>exact zJ zs
   case c4=>unfold maxLen;omega
   case c5=>omega
   case c6=>rw[aA];omega
   ·intro v' w2 hown hg _
    go_wp2
    go_ret
    refine⟨_,rfl,?_,fun h=>absurd h h0,HB.out.grown hg (by rw[aA];omega) (by intro k hk;cases hk;exact Nat.le_refl _)⟩
    simpa using hown
theorem bB (w:World) {g k:Nat} (cs:Array Value) (h:k≠g):(w.setRow g cs).heap[k]? =w.heap[k]? :=by
 simp[World.setRow,Array.getElem?_modify]
 intro e;omega
theorem dJ {w w':World} {b:Nat} {e:TypeId} {size:Nat} {v:Value} {n:Nat} {xs:List Value} (h:w.ownsRow b e size v n xs) (hs:∀k,v.ownBlock=some k→w'.heap[k]? =w.heap[k]?):w'.ownsRow b e size v n xs:=
 ⟨h.1,h.2.imp id fun ⟨g,cap,cur,h1,h2,h3,h4⟩=>⟨g,cap,cur,h1,h2,by rw[hs g (by rw[h1];rfl)];exact h3,h4⟩⟩
theorem pT (w:World) (A B C:Obj):(((w.alloc A).alloc B).alloc C).heap[w.heap.size]? =some A∧(((w.alloc A).alloc B).alloc C).heap[w.heap.size+1]? =some B∧(((w.alloc A).alloc B).alloc C).heap[w.heap.size+2]? =some C:=by
 have h1:(w.alloc A).heap.size=w.heap.size+1:=aA _ _
 have h2:((w.alloc A).alloc B).heap.size=w.heap.size+2:=by rw[aA];omega
 obtain⟨r1,r2⟩:=bZ w A B
 refine⟨?_,?_,?_⟩
 ·rw[Below.heap_alloc _ _ _ (by omega)];exact r1
 ·rw[Below.heap_alloc _ _ _ (by omega)];exact r2
 ·rw[show w.heap.size+2=((w.alloc A).alloc B).heap.size by omega];exact aJ _ _
theorem Tryz.infoFrame7:(Tryz.prog.info? 104).map (·.size)=some 7:=by kernel_rfl
theorem Tryz.infoFrameZ:(Tryz.prog.info? 104).map (fun i=>(i.zero,i.size,i.bytes))=some (some (.agg #[.int .i64 0,.int .i64 0,.int .i64 0,.slice none 0 0,.slice none 0 0,.slice none 0 0,.slice none 0 0]),7,120):=by kernel_rfl
theorem fJ {P:Program} {fn:Func} {p q r:Tmp} {ty:TypeId} (h:fn.results=#[.cell p ty,.tmp q,.tmp r]) (tmps:Array Value) (w:World) (g:Nat) (t:TypeId) (cs:Array Value) (fr:Nat × Nat) (d:TypeDesc)
  (hp:tmps.getD p undef= .pointer (some ⟨g,0,none⟩)) (hg:w.heap[g]? =some (.cells cs t fr)) (hu:P.underlying ty=some d) (hd:(match d with | .struct _ | .array _ _=>true | _=>false)=true) (hi:(P.info? ty).map (·.size)=some cs.size)
  (x y:Value) (hx:tmps.getD q undef=x) (hy:tmps.getD r undef=y):(results fn tmps).run P w= .ok (.tuple #[.agg cs,x,y]) w:=by
 have hp':tmps[p]?.getD undef= .pointer (some ⟨g,0,none⟩):=by simpa using hp
 have hx':tmps[q]?.getD undef=x:=by simpa using hx
 have hy':tmps[r]?.getD undef=y:=by simpa using hy
 simp[results,h,hp',hx',hy',asAddr,run_loadVar_row w g t ty cs fr d hg hu hd hi]
def dL (B:Nat) (w:World) (v:Value) (f:aD):Prop:=∃a3 c3 a4 c4 a5 c5 a6 c6,
 v= .agg #[.int .i64 f.kind,.int .i64 f.node,.int .i64 f.id,.slice a3 f.ops.length c3,.slice a4 f.deps.length c4,.slice a5 f.ats.length c5,.slice a6 f.vals.length c6]∧
 (bT w a3 c3 f.ops∧eJ (· <B) w a3 f.ops)∧(bN w a4 c4 f.deps∧cS (· <B) w a4 f.deps)∧(bN w a5 c5 f.ats∧cS (· <B) w a5 f.ats)∧(bN w a6 c6 f.vals∧cS (· <B) w a6 f.vals)
theorem bQ.b {w:World} {v:Value} {f:aD} (h:bQ w v f):dL w.heap.size w v f:=by
 obtain⟨a3,c3,a4,c4,a5,c5,a6,c6,e,h3,h4,h5,h6⟩:=h
 exact⟨a3,c3,a4,c4,a5,c5,a6,c6,e,⟨h3,h3.1⟩,⟨h4,h4.1⟩,⟨h5,h5.1⟩,⟨h6,h6.1⟩⟩
theorem dL.v {B:Nat} {w:World} {v:Value} {f:aD} (h:dL B w v f):bQ w v f:=by
 obtain⟨a3,c3,a4,c4,a5,c5,a6,c6,e,h3,h4,h5,h6⟩:=h
 exact⟨a3,c3,a4,c4,a5,c5,a6,c6,e,h3.1,h4.1,h5.1,h6.1⟩
theorem m5 {B:Nat} {w w':World} {a:Option Addr} {cap:Nat} {zs:List Int} (h:bN w a cap zs∧cS (· <B) w a zs) (hb:Below B w w'):bN w' a cap zs∧cS (· <B) w' a zs:=by
 have h2:=h.2.later (w':=w') (fun k _ hk=>hb.block k hk)
 exact⟨⟨h2.at,h.1.2⟩,h2⟩
theorem oC {B:Nat} {w w':World} {a:Option Addr} {cap:Nat} {zs:List OpL} (h:bT w a cap zs∧eJ (· <B) w a zs) (hb:Below B w w'):bT w' a cap zs∧eJ (· <B) w' a zs:=by
 have h2:=h.2.later (w':=w') (fun k _ hk=>hb.block k hk)
 exact⟨⟨h2.at,h.1.2⟩,h2⟩
theorem dL.later {B:Nat} {w w':World} {v:Value} {f:aD} (h:dL B w v f) (hb:Below B w w'):dL B w' v f:=by
 obtain⟨a3,c3,a4,c4,a5,c5,a6,c6,e,h3,h4,h5,h6⟩:=h
 exact⟨a3,c3,a4,c4,a5,c5,a6,c6,e,oC h3 hb,m5 h4 hb,m5 h5 hb,m5 h6 hb⟩
def lA (B:Nat) (w:World) (v:Value) (f:aD):Prop:=∃a3 c3 a4 c4 a5 c5 a6 c6,
 v= .agg #[.int .i64 f.kind,.int .i64 f.node,.int .i64 f.id,.slice a3 f.ops.length c3,.slice a4 f.deps.length c4,.slice a5 f.ats.length c5,.slice a6 f.vals.length c6]∧
 (bT w a3 c3 f.ops∧eJ (B≤·) w a3 f.ops)∧(bN w a4 c4 f.deps∧cS (B≤·) w a4 f.deps)∧(bN w a5 c5 f.ats∧cS (B≤·) w a5 f.ats)∧(bN w a6 c6 f.vals∧cS (B≤·) w a6 f.vals)
theorem lA.v {B:Nat} {w:World} {v:Value} {f:aD} (h:lA B w v f):bQ w v f:=by
 obtain⟨a3,c3,a4,c4,a5,c5,a6,c6,e,h3,h4,h5,h6⟩:=h
 exact⟨a3,c3,a4,c4,a5,c5,a6,c6,e,h3.1,h4.1,h5.1,h6.1⟩
theorem mS {ok:Nat→Prop} {w w':World} {a:Option Addr} {cap:Nat} {zs:List Int} (h:bN w a cap zs∧cS ok w a zs) (hb:bL ok w w'):bN w' a cap zs∧cS ok w' a zs:=by
 have h2:=h.2.later hb
 exact⟨⟨h2.at,h.1.2⟩,h2⟩
theorem z7 {ok:Nat→Prop} {w w':World} {a:Option Addr} {cap:Nat} {zs:List OpL} (h:bT w a cap zs∧eJ ok w a zs) (hb:bL ok w w'):bT w' a cap zs∧eJ ok w' a zs:=by
 have h2:=h.2.later hb
 exact⟨⟨h2.at,h.1.2⟩,h2⟩
theorem lA.same {B:Nat} {w w':World} {v:Value} {f:aD} (h:lA B w v f) (hb:bL (B≤·) w w'):lA B w' v f:=by
 obtain⟨a3,c3,a4,c4,a5,c5,a6,c6,e,h3,h4,h5,h6⟩:=h
 exact⟨a3,c3,a4,c4,a5,c5,a6,c6,e,z7 h3 hb,mS h4 hb,mS h5 hb,mS h6 hb⟩
theorem lA.mono {B B':Nat} {w:World} {v:Value} {f:aD} (h:lA B w v f) (hB:B'≤B):lA B' w v f:=by
 obtain⟨a3,c3,a4,c4,a5,c5,a6,c6,e,h3,h4,h5,h6⟩:=h
 have m:∀k,k<w.heap.size→B≤k→B'≤k:=fun k _ (h:B≤k)=>by omega
 exact⟨a3,c3,a4,c4,a5,c5,a6,c6,e,⟨h3.1,h3.2.mono m⟩,⟨h4.1,h4.2.mono m⟩,⟨h5.1,h5.2.mono m⟩,⟨h6.1,h6.2.mono m⟩⟩
theorem iA (ok:Nat→Prop) (w:World):bN w none 0 []∧cS ok w none []:=⟨⟨Or.inl rfl,Nat.zero_le _,Nat.le_refl _,fun _=>⟨rfl,rfl⟩⟩,Or.inl rfl⟩
theorem pC (ok:Nat→Prop) (w:World):bT w none 0 []∧eJ ok w none []:=⟨⟨Or.inl rfl,Nat.zero_le _,Nat.le_refl _,fun _=>⟨rfl,rfl⟩⟩,Or.inl rfl⟩
theorem vW {B b0:Nat} {w:World} {a:Option Addr} {cap:Nat} {zs:List Int} (h:w.ownsRow b0 3 1 (.slice a zs.length cap) zs.length (aT zs)) (hB:B≤b0):bN w a cap zs∧cS (B≤·) w a zs:=by
 have h1:=bN.of_owns h
 refine⟨h1,?_⟩
 rcases h1.1 with e | ⟨b,off,rfl,_,hc⟩
 ·exact Or.inl e
 ·exact Or.inr ⟨b,off,rfl,Nat.le_trans hB (World.ownsRow.lt h b rfl).1,hc⟩
def aL (B:Nat) (w:World) (v:Value) (fs:List aD):Prop:=∃css:List (List Value),css.length=fs.length∧w.ownsRow B 104 7 v fs.length css.flatten∧
 (∀i (h:i<fs.length),(css.getD i []).length=7∧lA B w (.agg (css.getD i []).toArray) fs[i])
theorem aL.same {B:Nat} {w w':World} {v:Value} {fs:List aD} (h:aL B w v fs) (hb:bL (B≤·) w w'):aL B w' v fs:=by
 obtain⟨css,h1,h2,h3⟩:=h
 exact⟨css,h1,dJ h2 (fun k hk=>hb k (World.ownsRow.lt h2 k hk).2 (World.ownsRow.lt h2 k hk).1),fun i hi=>⟨(h3 i hi).1,(h3 i hi).2.same hb⟩⟩
theorem aL.later {B:Nat} {w w':World} {v:Value} {fs:List aD} (h:aL B w v fs) (hb:Below w.heap.size w w'):aL B w' v fs:=h.same (bL.of_size hb)
theorem aL.mono {B B':Nat} {w:World} {v:Value} {fs:List aD} (h:aL B w v fs) (hB:B'≤B):aL B' w v fs:=by
 obtain⟨css,h1,h2,h3⟩:=h
 exact⟨css,h1,dW h2 hB,fun i hi=>⟨(h3 i hi).1,(h3 i hi).2.mono hB⟩⟩
theorem aL.nil (B:Nat) (w:World):aL B w (.slice none 0 0) []:=⟨[],rfl,World.ownsRow_nil _ _ _ _,fun _ h=>by simp at h⟩
theorem fM {f:aD} (h:aM f=0):(0≤f.id∧f.id<32)∧(0≤f.node∧f.node<6):=by
 unfold aM at h
 split at h
 ·omega
 ·split at h
  ·omega
  ·omega
def iT (P:Program) (ty:TypeId) (n:Nat):Prop:=∃d,P.underlying ty=some d∧d.isRow=true∧(P.info? ty).map (·.size)=some n
theorem c8 {P:Program} {ops:Array Oper} {Q:Exit→Act→World→Prop} {rest:List Oper} {a:Act} {w:World} {dst:Option Tmp} {type:TypeId} {pos:String} {after:Array Edge} {guard:Option (Nat × Bool)} {x:Operand} {ty:TypeId} {b o:Nat} {cs:Array Value}
  (hc:w.rangeAt b o cs.toList) (hx:a.eval x= .pointer (some ⟨b,o,none⟩)) (hr:iT P ty cs.toList.length)
  (hw:Region.wanted ⟨dst,.load ty x,type,pos,after,guard⟩ (yielded ops a.tmps)=true) (h:wpList P ops Q rest (a.put dst (.agg cs)) w):wpList P ops Q (⟨dst,.load ty x,type,pos,after,guard⟩::rest) a w:=by
 obtain⟨d,hu,hd,hi⟩:=hr
 exact iX hw fun K hK=>wp_load_mid ty x rfl b o hx cs.toList d hc hu hd hi (hK _ _ (by simpa using h))
theorem b7 {P:Program} {ops:Array Oper} {Q:Exit→Act→World→Prop} {rest:List Oper} {a:Act} {w:World} {dst:Option Tmp} {type:TypeId} {pos:String} {after:Array Edge} {guard:Option (Nat × Bool)} {x:Operand} {ty t:TypeId} {g:Nat} {cs:Array Value} {fr:Nat × Nat}
  (hg:w.heap[g]? =some (.cells cs t fr)) (hx:a.eval x= .pointer (some ⟨g,0,none⟩)) (hr:iT P ty cs.size)
  (hw:Region.wanted ⟨dst,.load ty x,type,pos,after,guard⟩ (yielded ops a.tmps)=true) (h:wpList P ops Q rest (a.put dst (.agg cs)) w):wpList P ops Q (⟨dst,.load ty x,type,pos,after,guard⟩::rest) a w:=by
 obtain⟨d,hu,hd,hi⟩:=hr
 refine iX hw fun K hK=>wp_load_row ty x rfl g hx t cs fr d hg hu ?_ hi (hK _ _ h)
 cases d<;>first | rfl | cases hd
theorem cN {P:Program} {w:World} {ops:Array Oper} {rest:List Oper} {o:Oper} {a:Act} {Q:Exit→Act→World→Prop} (hg:o.guard=none) (ty:TypeId) (ho:o.op= .alloc ty) (cs:Array Value) (hz:(P.info? ty).map (·.zero)=some (some (.agg cs)))
  (h:wpList P ops Q rest (a.put o.dst (.pointer (some ⟨w.heap.size,0,none⟩))) (w.alloc (.cells cs ty))):wpList P ops Q (o::rest) a w:=by
 refine wpList_plain hg fun K hK=>?_
 cases hq:P.info? ty with
 | none=>simp[hq] at hz
 | some i=>
  have hzz:i.zero=some (.agg cs):=by simpa [hq] using hz
  unfold Oper.wp execOp
  simp[ho,Instr.alloc,zeroValue,typeInfo,hq,hzz,newVar,newRow,Value.cells,go_sem]
  exact hK _ _ h
end Go.Proofs.YtkoefoccbjhoiadGreat
