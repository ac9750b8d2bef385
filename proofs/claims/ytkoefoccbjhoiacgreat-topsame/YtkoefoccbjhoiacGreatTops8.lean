/-
squeezed by tools/squeeze.py from: CluZ CluG CluE CluH CluI NClone FrV Wpl Wpl2
-/
import Derived.Test.YtkoefoccbjhoiacGreatTops7
import Derived.Test.YtkoefoccbjhoiacGreatTops3
import Derived.OwnWalk
import Derived.ArgAppend
import Derived.Lib.SliceRun
import Derived.Test.YtkoefoccbjhoiacGreatTops2
set_option linter.unusedVariables false
set_option linter.unusedSimpArgs false
set_option maxRecDepth 100000
set_option maxHeartbeats 4000000
namespace Go.Proofs.YtkoefoccbjhoiacGreat
open Go.RowKit
theorem zS {zs:List OpL} (h:bR zs=true):∀o∈zs,0≤o.2.1∧o.2.1<8:=by
 intro o ho
 unfold bR at h
 rw[Bool.and_eq_true] at h
 obtain⟨i,hi,e⟩:=List.getElem_of_mem ho
 have:=List.all_eq_true.1 h.2 i (List.mem_range.2 hi)
 unfold jE at this
 rw[Bool.and_eq_true] at this
 have g:=this.1
 rw[List.getD_eq_getElem?_getD,List.getElem?_eq_getElem hi,Option.getD_some,e] at g
 unfold fK at g
 have:=of_decide_eq_true g
 exact⟨this.1,this.2.1⟩
theorem gA.ops {S:Sys} (h:gA S) {i:Nat} (hi:i<32) (hb:(S.C i).begun=true):bR (S.C i).ops=true:=by
 have g:=(h.case i hi hb).good
 rw[kD hb,Bool.and_eq_true] at g
 exact g.1
theorem gA.somewhere {S:Sys} (h:gA S) {x:Nat} (hx:x<32) (hb:(S.C x).begun=true) (hr:(cT (S.C x)).2=true):∃m,m<6∧x∈(S.B m).did:=by
 have hg:=h.ops hx hb
 have hp:0<(S.C x).ops.length:=by
  unfold bR at hg
  simp at hg
  omega
 obtain⟨m,hm,h3,_⟩:=h.has x hx 0 ((MY (h.case x hx hb) hr).1 0 hp)
 exact⟨m,hm,(mV (h.s.good m hm) hx).2 h3⟩
theorem fO.node {S:Sys} (h:gA S) {a b:Nat} (ha:a<32) (hb:b<32) (L:fO S a b) {f:aD} (hM:S.M f) (hk:f.kind=1∨f.kind=3) (h0:(aO (S.B f.node.toNat) f.node f).2.2=0) (N:aD→Prop):
  fO ⟨upd S.B f.node.toNat (aO (S.B f.node.toNat) f.node f).1,S.C,N⟩ a b:=by
 obtain⟨hr1,hr2⟩:=h.s.rng f hM
 have hn6:f.node.toNat<6:=by omega
 have hnat:(f.node.toNat:Int)=f.node:=by omega
 have K:=mR (S.B f.node.toNat) f.node f (h.state _ hn6)
 obtain⟨fb,hne⟩:=L.self hb
 refine L.later h.s ha hb (fun d _ hf=>⟨hf,rfl,rfl⟩) (fun d _ hf=>⟨hf,rfl⟩) (fun n hn h1=>?_) (fun n hn h1 h2 h3 hc=>?_)
 ·show ((upd S.B f.node.toNat _ n).ent a).first=_
  by_cases e:n=f.node.toNat
  ·rw[e] at h1 ⊢
   rw[aT]
   exact K.first a (by omega)
  ·rw[aQ _ _ e]
 ·have h2:1≤((upd S.B f.node.toNat (aO (S.B f.node.toNat) f.node f).1 n).ent a).state:=h2
  show (b:Int)∈((upd S.B f.node.toNat (aO (S.B f.node.toNat) f.node f).1 n).ent a).first
  by_cases e:n=f.node.toNat
  ·rw[e] at h1 h2 h3 hc ⊢
   rw[aT] at h2 ⊢
   rw[hnat] at hc
   have ea:a=f.id.toNat:=by
    by_cases ea:a=f.id.toNat
    ·exact ea
    ·have:=congrArg (fun c=>c.2.2.2.1) (mQ (s:=S.B f.node.toNat) (who:=f.node) (f:=f) ea)
     have this:decide (1≤((aO (S.B f.node.toNat) f.node f).1.ent a).state)=decide (1≤((S.B f.node.toNat).ent a).state):=this
     rw[decide_eq_true h2,decide_eq_false (by omega)] at this
     cases this
   have hs0:=h.state _ hn6 a
   have first:((aO (S.B f.node.toNat) f.node f).1.ent a).first=(S.B f.node.toNat).ahead a f.ops (ofL f.node)∧f.ops=(S.C a).ops:=by
    rw[ea] at h1 hs0 ⊢
    rcases hk with hk | hk
    ·refine⟨?_,(h.s.ask f hM hk).2⟩
     rw[nN h0 hk,if_pos (by omega)]
    ·refine⟨?_,(h.s.com f hM hk).2.1⟩
     have:=lY h0 hk
     rw[if_pos (by omega),if_pos (by omega)] at this
     exact congrArg (fun c=>c.2.1) this
   rw[first.1,first.2]
   exact oN.2 ⟨hb,hne,by omega,by rw[(h.s.ent1 _ hn6 b hb h3).2];exact hc⟩
  ·rw[aQ _ _ e] at h2
   omega
theorem fO.setC {S:Sys} (h:gA S) {a b:Nat} (ha:a<32) (hb:b<32) (L:fO S a b) {i:Nat} (c:aG) (hf:(S.C i).fixed=true→c.fixed=true∧c.deps=(S.C i).deps∧c.told=(S.C i).told) (hg:(S.C i).begun=true→c.begun=true∧c.ops=(S.C i).ops) (N:aD→Prop):
  fO ⟨S.B,upd S.C i c,N⟩ a b:=by
 refine L.later h.s ha hb (fun d _ e=>?_) (fun d _ e=>?_) (fun n hn h1=>rfl) (fun n hn h1 h2 h3 hc=>absurd h2 (by show ¬ 1≤((S.B n).ent a).state;omega))
 ·show (upd S.C i c d).fixed=true∧(upd S.C i c d).deps=_∧(upd S.C i c d).told=_
  rcases fA S.C i c d with ⟨e1,e2⟩ | ⟨_,e2⟩
  ·rw[e2]
   subst e1
   exact hf e
  ·rw[e2]
   exact⟨e,rfl,rfl⟩
 ·show (upd S.C i c d).begun=true∧(upd S.C i c d).ops=_
  rcases fA S.C i c d with ⟨e1,e2⟩ | ⟨_,e2⟩
  ·rw[e2]
   subst e1
   exact hg e
  ·rw[e2]
   exact⟨e,rfl⟩
theorem fO.answer {S:Sys} (h:gA S) {a b:Nat} (ha:a<32) (hb:b<32) (L:fO S a b) (f:aD) (N:aD→Prop):fO ⟨S.B,upd S.C f.id.toNat (aR (S.C f.id.toNat) f.id f).1,N⟩ a b:=by
 refine L.setC h ha hb _ (fun e=>?_) (fun e=>?_) N
 ·rcases gE (S.C f.id.toNat) f.id f with ⟨_,h1,_⟩ | ⟨_,_,_,hf,_⟩ | ⟨_,_,_,hs,_⟩
  ·rw[h1];exact⟨e,rfl,rfl⟩
  ·rw[hf] at e;cases e
  ·exact⟨by rw[hs.fixed];exact e,hs.deps,hs.told⟩
 ·rcases gE (S.C f.id.toNat) f.id f with ⟨_,h1,_⟩ | ⟨_,_,_,_,_,_,he,_⟩ | ⟨_,_,_,hs,_⟩
  ·rw[h1];exact⟨e,rfl⟩
  ·rw[he];exact⟨e,rfl⟩
  ·exact⟨by rw[hs.begun];exact e,hs.ops⟩
theorem fO.begin {S:Sys} (h:gA S) {a b:Nat} (ha:a<32) (hb:b<32) (L:fO S a b) {i:Nat} (hi:i<32) (hz:(S.C i).begun=false) (c:aG) (N:aD→Prop):fO ⟨S.B,upd S.C i c,N⟩ a b:=
 L.setC h ha hb c (fun e=>by rw[(h.s.most i hi e).1] at hz;cases hz) (fun e=>by rw[e] at hz;cases hz) N
theorem fO.sent {S:Sys} {a b:Nat} (L:fO S a b) (N:aD→Prop):fO ⟨S.B,S.C,N⟩ a b:=⟨L.fixed,L.begun,L.first⟩
theorem gA.late {S:Sys} (h:gA S) {a b:Nat} (ha:a<32) (hb:b<32) (hz:(S.C a).begun=false) (hbb:(S.C b).begun=true) (hr:(cT (S.C b)).2=true) (c:aG) (hc:c.begun=true) (N:aD→Prop):fO ⟨S.B,upd S.C a c,N⟩ a b:=by
 obtain⟨m,hm,hd⟩:=h.somewhere hb hbb hr
 exact fO.new h.s ha hz hm (h.sort m hm) hd c hc N
def iR (s:aB):Prop:=∀i,∀v∈(s.ent i).vals,uK v
theorem qL (sh:Int):∀(ops:List OpL) (i:Nat) (v:Nat→Int),∀w∈(cS sh i ops v).2.2,uK w
 | [],_,_,w,h=>by simp[cS] at h
 | o::r,i,v,w,h=>by
  unfold cS at h
  split at h
  ·rcases List.mem_cons.1 h with e | e
   ·rw[e];exact FU _ _ _
   ·exact qL sh r (i+1) _ w e
  ·exact qL sh r (i+1) _ w h
theorem IW:iR dO:=by intro i v h;simp[dO,kE] at h
theorem IV {s:aB} (h:iR s) (sh:Int) (n:Nat):iR (s.exec sh n):=by
 intro i v hv
 by_cases e:i=n
 ·subst e
  have:((s.exec sh i).ent i).vals=(cS sh 0 (s.ent i).ops s.vals).2.2:=congrArg c9.vals (aT _ _ _)
  rw[this] at hv
  exact qL _ _ _ _ v hv
 ·have:(s.exec sh n).ent i=s.ent i:=aQ _ _ e
  rw[this] at hv
  exact h i v hv
theorem vU (sh:Int):∀(l:List Nat) {s:aB},iR s→iR (s.execs sh l)
 | [],_,h=>h
 | a::l,s,h=>by
  have h1:iR (aB.execIf sh s a):=by
   unfold aB.execIf
   split
   ·exact IV h sh a
   ·exact h
  exact vU (s:=aB.execIf sh s a) sh l h1
theorem CR {s:aB} (h:iR s) (sh:Int):iR (s.settle sh):=by
 have:∀(l:List Nat) (t:aB),iR t→iR (l.foldl (aB.round s.graph sh) t):=by
  intro l
  induction l with
  | nil=>exact fun t ht=>ht
  | cons a l ih=>
   intro t ht
   refine ih _ ?_
   unfold aB.round
   split
   ·exact vU (s:=t) sh _ ht
   ·exact ht
 exact this _ s h
theorem yH {s:aB} {who:Int} {f:aD} (h:iR s):iR (aO s who f).1:=by
 rcases dN s who f with ⟨_,h1,_⟩ | ⟨_,_,_,_,_,_,⟨_,_,e⟩ | ⟨_,e⟩⟩
 ·rw[h1];exact h
 ·rw[e]
  show iR (s.asked (ofL who) f)
  unfold aB.asked
  split
  ·intro i v hv
   by_cases ei:i=f.id.toNat
   ·rw[ei,jG] at hv
    simp at hv
   ·rw[fC s _ f ei] at hv
    exact h i v hv
  ·exact h
 ·rw[e]
  show iR (s.commit (ofL who) f)
  unfold aB.commit
  split
  ·refine CR (fun i v hv=>?_) _
   by_cases ei:i=f.id.toNat
   ·rw[ei,kQ] at hv
    exact h _ v hv
   ·have:(s.placed (ofL who) f).ent i=s.ent i:=aQ _ _ ei
    rw[this] at hv
    exact h i v hv
  ·exact h
theorem yE:∀(xs vs:List Int) (l:Int) (n:Nat),n≤4→dQ l n xs=true→(∀v∈vs,uK v)→cG l xs vs=true
 | [],_,_,_,_,_,_=>by unfold cG;rfl
 | _::_,[],_,_,_,_,_=>by unfold cG;rfl
 | a::xs,v::vs,l,n,hn,ha,hv=>by
  unfold dQ at ha
  simp only[Bool.and_eq_true,decide_eq_true_iff] at ha
  unfold cG
  have hw:=hv v (by simp)
  rw[yE xs vs a n hn ha.2 (fun w h=>hv w (by simp[h])),show decide (-1099511627776≤v∧v≤1099511627776)=true from decide_eq_true hw]
  have:(decide (a≤l) || decide (4≤a))=false:=by
   rw[Bool.or_eq_false_iff]
   exact⟨decide_eq_false (by omega),decide_eq_false (by omega)⟩
  rw[this]
  rfl
theorem GC {zs:List OpL} (h:bR zs=true):zs.length≤4:=(GW h).1
theorem oW {s:aB} {who:Int} {f:aD} (hw:iR s):∀g∈(aO s who f).2.1,aN g=0∧g.kind≠1∧g.kind≠3:=by
 intro g hg
 have hw':=yH (who:=who) (f:=f) hw
 have hgood:(aO s who f).2.2=0→bT (aO s who f).1:=yC
 rcases dN s who f with ⟨_,_,h1⟩ | ⟨_,hf,h0,hn,w0,w5,⟨_,_,e⟩ | ⟨_,e⟩⟩
 ·rw[h1] at hg;simp at hg
 ·have G:=hgood h0
  obtain⟨i1,i2,_⟩:=kA hf
  rw[e] at hg G
  have hg:g∈[(⟨2,who,f.id,[],((s.asked (ofL who) f).ent f.id.toNat).first,[],[]⟩:aD)]:=hg
  rw[List.mem_singleton] at hg
  subst hg
  have G:bT (s.asked (ofL who) f):=G
  have hfi:bF (-1) ((s.asked (ofL who) f).ent f.id.toNat).first=true∧eI ((s.asked (ofL who) f).ent f.id.toNat).first f.id=false:=by
   rcases G.ent f.id.toNat (by omega) with e | F
   ·rw[e];exact⟨rfl,rfl⟩
   ·have:=F.first
    rw[show ((f.id.toNat:Nat):Int)=f.id by omega] at this
    exact this
  refine⟨?_,(show (2:Int)≠1 by decide),(show (2:Int)≠3 by decide)⟩
  unfold aN eP dU dZ
  simp only[hfi.1,hfi.2]
  rw[if_neg (by decide),if_neg (by omega)]
  rfl
 ·have G:=hgood h0
  obtain⟨i1,i2,_⟩:=kA hf
  rw[e] at hg G hw'
  have hg:g∈(s.commit (ofL who) f).answers (ofL who) who f.id:=hg
  have G:bT (s.commit (ofL who) f):=G
  have hw':iR (s.commit (ofL who) f):=hw'
  unfold aB.answers at hg
  rcases List.mem_cons.1 hg with hg | hg
  ·subst hg
   refine⟨?_,(show (4:Int)≠1 by decide),(show (4:Int)≠3 by decide)⟩
   unfold aN eP dU dZ
   simp only
   rw[if_neg (by decide),if_neg (by omega)]
   rfl
  ·split at hg
   ·rename_i h3
    rw[List.mem_singleton] at hg
    subst hg
    refine⟨?_,(show (5:Int)≠1 by decide),(show (5:Int)≠3 by decide)⟩
    have F:=G.fine (n:=f.id.toNat) (by omega) (by rw[h3.1];decide)
    have t:=yE _ ((s.commit (ofL who) f).ent f.id.toNat).vals (-1) _ (GC F.ops) F.ats (hw' _)
    unfold aN eP dU dZ
    simp only[t,F.vals]
    rw[if_neg (by decide),if_neg (by omega)]
    simp
   ·simp at hg
theorem lF {c:aG} {id:Int} {g:aD} (h:g∈cV c id):aN g=0:=by
 obtain⟨hb,hid,hn,eid,eops,_⟩:=oM h
 unfold cV at h
 split at h
 ·simp at h
 ·rename_i hno
  have hg:eE c=true:=by
   cases e:eE c
   ·exact absurd (Or.inl e) hno
   ·rfl
  have hd:eI c.deps id=false:=by
   cases e:eI c.deps id
   ·rfl
   ·exact absurd (Or.inr (Or.inr (Or.inr (Or.inr e)))) hno
  rw[kD hb,Bool.and_eq_true] at hg
  obtain⟨n,hn6,hg1⟩:=List.mem_flatMap.1 h
  have hn6:=List.mem_range.1 hn6
  unfold aG.send at hg1
  split at hg1
  ·split at hg1
   ·rw[List.mem_singleton] at hg1
    subst hg1
    unfold aN eP dU dZ
    simp only[hg.1,hg.2,hd]
    rw[if_neg (by decide),if_neg (by omega)]
    rfl
   ·simp at hg1
  ·split at hg1
   ·rw[List.mem_singleton] at hg1
    subst hg1
    unfold aN eP dU dZ
    simp only[hg.1]
    rw[if_neg (by decide),if_neg (by omega)]
    rfl
   ·simp at hg1
def kX (s:aB):Prop:=∀i,i<32→(s.ent i).state=2→jV s.graph (i:Int)=false
theorem AT:kX dO:=fun i _ h=>absurd h (show (0:Int)≠2 by decide)
theorem zP (s:aB) (sh:Int) (n:Nat):(aB.execIf sh s n).graph=s.graph:=by
 unfold aB.execIf
 split
 ·rename_i h;exact uY s sh n h
 ·rfl
theorem sY (sh:Int):∀(l:List Nat) (s:aB),(s.execs sh l).graph=s.graph
 | [],_=>rfl
 | a::l,s=>(sY sh l (aB.execIf sh s a)).trans (zP s sh a)
theorem DI {s:aB} {sh:Int} {n i:Nat} (h:((aB.execIf sh s n).ent i).state=2):(s.ent i).state=2∧i≠n:=by
 unfold aB.execIf at h
 split at h
 ·rename_i e
  by_cases ei:i=n
  ·subst ei
   have:((s.exec sh i).ent i).state=3:=congrArg c9.state (aT _ _ _)
   rw[this] at h
   exact absurd h (by decide)
  ·have:(s.exec sh n).ent i=s.ent i:=aQ _ _ ei
   rw[this] at h
   exact⟨h,ei⟩
 ·rename_i e
  exact⟨h,fun k=>e (k ▸ h)⟩
theorem rH (sh:Int):∀(l:List Nat) {s:aB} {i:Nat},((s.execs sh l).ent i).state=2→(s.ent i).state=2∧i ∉ l
 | [],_,_,h=>⟨h,by simp⟩
 | a::l,s,i,h=>by
  obtain⟨h1,h2⟩:=rH sh l (s:=aB.execIf sh s a) h
  obtain⟨h3,h4⟩:=DI h1
  exact⟨h3,by simp[h2,h4]⟩
theorem CE (g:bG) (sh:Int) (t:aB) (n:Nat):(aB.round g sh t n).graph=t.graph:=by
 unfold aB.round
 split
 ·exact sY sh _ t
 ·rfl
theorem x9 {g:bG} {sh:Int} {t:aB} {n i:Nat} (h:((aB.round g sh t n).ent i).state=2):(t.ent i).state=2:=by
 unfold aB.round at h
 split at h
 ·exact (rH sh _ h).1
 ·exact h
theorem D6 {g:bG} {n:Nat} (hn:n<32) (hr:jV g (n:Int)=true):n∈eF g (n:Int):=by
 rw[BR hn,if_pos hr]
 exact (AJ (zK g hn) n).2 ((cH g hn n).2 (.refl n))
theorem ES {g:bG} {sh:Int} {t:aB} {n:Nat} (hn:n<32) (hr:jV g (n:Int)=true):((aB.round g sh t n).ent n).state≠2:=by
 intro h
 have h2:=x9 h
 unfold aB.round at h
 rw[if_pos h2] at h
 exact (rH sh _ h).2 (D6 hn hr)
theorem AR (s:aB) (sh:Int):kX (s.settle sh)∧(s.settle sh).graph=s.graph:=by
 have:∀k,k≤32→(∀i,i<k→(((List.range k).foldl (aB.round s.graph sh) s).ent i).state=2→jV s.graph (i:Int)=false)∧((List.range k).foldl (aB.round s.graph sh) s).graph=s.graph:=by
  intro k
  induction k with
  | zero=>exact fun _=>⟨fun i hi=>absurd hi (Nat.not_lt_zero i),rfl⟩
  | succ k ih=>
   intro hk
   obtain⟨i1,i2⟩:=ih (by omega)
   rw[List.range_succ,List.foldl_append]
   refine⟨fun i hi h=>?_,?_⟩
   ·have h:((aB.round s.graph sh ((List.range k).foldl (aB.round s.graph sh) s) k).ent i).state=2:=h
    by_cases e:i<k
    ·exact i1 i e (x9 h)
    ·obtain rfl:i=k:=by omega
     cases hr:jV s.graph (i:Int)
     ·rfl
     ·exact absurd h (ES (by omega) hr)
   ·exact (CE s.graph sh _ k).trans i2
 obtain⟨h1,h2⟩:=this 32 (Nat.le_refl _)
 refine⟨fun i hi h=>?_,h2⟩
 have e:(s.settle sh).graph=s.graph:=h2
 rw[e]
 exact h1 i hi h
theorem AS {s:aB} {who:Int} {f:aD} (h:kX s):kX (aO s who f).1:=by
 rcases dN s who f with ⟨_,h1,_⟩ | ⟨hg,hf,_,_,_,_,⟨hk,_,e⟩ | ⟨hk,e⟩⟩
 ·rw[h1];exact h
 ·rw[e]
  show kX (s.asked (ofL who) f)
  intro i hi h2
  rw[pC hg (ofL who) hf]
  refine h i hi ?_
  unfold aB.asked at h2
  split at h2
  ·by_cases ei:i=f.id.toNat
   ·rw[ei,jG] at h2
    exact absurd h2 (show (1:Int)≠2 by decide)
   ·rw[fC s _ f ei] at h2
    exact h2
  ·exact h2
 ·rw[e]
  show kX (s.commit (ofL who) f)
  unfold aB.commit
  split
  ·exact (AR _ _).1
  ·exact h
def Sys.took (S:Sys) (f:aD):Sys:=⟨upd S.B f.node.toNat (aO (S.B f.node.toNat) f.node f).1,S.C,fun g=>S.M g∨g∈(aO (S.B f.node.toNat) f.node f).2.1⟩
structure jP (S:Sys):Prop where
 own:∀i:Nat,i<32→eI (S.C i).deps (i:Int)=false
 most:∀i,i<32→(S.C i).begun=true→(S.C i).fixed=false→eA (S.C i).ops (S.C i).told=false
 kn:∀f,S.M f→f.kind=4→2≤((S.B f.node.toNat).ent f.id.toNat).state
 known:∀i,i<32→∀k,k<6→(S.C i).known k=true→2≤((S.B k).ent i).state
 settled:∀n,n<6→kX (S.B n)
 ask:∀f,S.M f→f.kind=1→bJ f.ops (ofL f.node)=true
 first:∀n,n<6→∀i,i<32→∀d:Nat,(d:Int)∈((S.B n).ent i).first→(S.C d).begun=true
 deps:∀i,i<32→∀d:Nat,(d:Int)∈(S.C i).deps→(S.C d).begun=true
theorem jP.start:jP ⟨fun _=>dO,fun _=>cA,fun _=>False⟩:=by
 refine⟨fun _ _=>rfl,fun i _ h=>?_,fun _ h=>h.elim,fun i _ k _ h=>?_,fun _ _=>AT,fun _ h=>h.elim,fun n _ i _ d h=>?_,fun i _ d h=>?_⟩
 ·cases h
 ·cases h
 ·have h:(d:Int)∈([]:List Int):=h
  simp at h
 ·have h:(d:Int)∈([]:List Int):=h
  simp at h
theorem E9 {s:aB} {who:Int} {f:aD} (h0:∀n,0≤(s.ent n).state) (i:Nat):(s.ent i).state≤((aO s who f).1.ent i).state:=(mR s who f h0).state i
theorem jP.node {S:Sys} (h:gA S) (u:jP S) {f:aD} (hM:S.M f) (hk:f.kind=1∨f.kind=3) (h0:(aO (S.B f.node.toNat) f.node f).2.2=0):jP (S.took f):=by
 obtain⟨hr1,hr2⟩:=h.s.rng f hM
 have hn6:f.node.toNat<6:=by omega
 have hnat:(f.node.toNat:Int)=f.node:=by omega
 have st:∀n,n<6→∀i,((S.B n).ent i).state≤(((S.took f).B n).ent i).state:=fun n hn i=>by
  show _≤((upd S.B f.node.toNat (aO (S.B f.node.toNat) f.node f).1 n).ent i).state
  by_cases e:n=f.node.toNat
  ·subst e
   rw[aT];exact E9 (h.state _ hn6) i
  ·rw[aQ _ _ e];exact Int.le_refl _
 have K:=mR (S.B f.node.toNat) f.node f (h.state _ hn6)
 refine⟨u.own,u.most,fun g hg hg4=>?_,fun i hi k hk6 hkn=>Int.le_trans (u.known i hi k hk6 hkn) (st k hk6 i),fun n hn=>?_,fun g hg hg1=>?_,fun n hn i hi d hd=>?_,u.deps⟩
 ·rcases hg with hg | hg
  ·obtain⟨q1,q2⟩:=h.s.rng g hg
   exact Int.le_trans (u.kn g hg hg4) (st _ (by omega) _)
  ·rcases dN (S.B f.node.toNat) f.node f with ⟨hh,_⟩ | ⟨_,hf,_,_,_,_,⟨_,_,e⟩ | ⟨hk3,e⟩⟩
   ·exact absurd h0 hh
   ·rw[e] at hg
    have hg:g∈[(⟨2,f.node,f.id,[],_,[],[]⟩:aD)]:=hg
    rw[List.mem_singleton] at hg
    rw[hg] at hg4
    exact absurd hg4 (show (2:Int)≠4 by decide)
   ·have hgg:g.node=f.node∧g.id=f.id:=by
     rw[e] at hg
     have hg:g∈((S.B f.node.toNat).commit (ofL f.node) f).answers (ofL f.node) f.node f.id:=hg
     unfold aB.answers at hg
     rcases List.mem_cons.1 hg with hg | hg
     ·rw[hg];exact⟨rfl,rfl⟩
     ·split at hg
      ·rw[List.mem_singleton] at hg
       rw[hg];exact⟨rfl,rfl⟩
      ·simp at hg
    rw[hgg.1,hgg.2]
    show 2≤((upd S.B f.node.toNat (aO (S.B f.node.toNat) f.node f).1 f.node.toNat).ent f.id.toNat).state
    rw[aT]
    have:=congrArg (fun c=>c.2.2.2.2) (lY h0 hk3)
    have this:decide (2≤((aO (S.B f.node.toNat) f.node f).1.ent f.id.toNat).state)=_:=this
    by_cases hlt:((S.B f.node.toNat).ent f.id.toNat).state<2
    ·rw[if_pos hlt] at this
     exact of_decide_eq_true this
    ·exact Int.le_trans (by omega) (K.state f.id.toNat)
 ·show kX (upd S.B f.node.toNat _ n)
  by_cases e:n=f.node.toNat
  ·rw[e,aT];exact AS (u.settled _ hn6)
  ·rw[aQ _ _ e];exact u.settled n hn
 ·rcases hg with hg | hg
  ·exact u.ask g hg hg1
  ·rcases dN (S.B f.node.toNat) f.node f with ⟨hh,_⟩ | ⟨_,hf,_,_,_,_,⟨_,_,e⟩ | ⟨hk3,e⟩⟩
   ·exact absurd h0 hh
   ·rw[e] at hg
    have hg:g∈[(⟨2,f.node,f.id,[],_,[],[]⟩:aD)]:=hg
    rw[List.mem_singleton] at hg
    rw[hg] at hg1
    exact absurd hg1 (show (2:Int)≠1 by decide)
   ·rw[e] at hg
    have hg:g∈((S.B f.node.toNat).commit (ofL f.node) f).answers (ofL f.node) f.node f.id:=hg
    unfold aB.answers at hg
    rcases List.mem_cons.1 hg with hg | hg
    ·rw[hg] at hg1
     exact absurd hg1 (show (4:Int)≠1 by decide)
    ·split at hg
     ·rw[List.mem_singleton] at hg
      rw[hg] at hg1
      exact absurd hg1 (show (5:Int)≠1 by decide)
     ·simp at hg
 ·have hd:(d:Int)∈((upd S.B f.node.toNat (aO (S.B f.node.toNat) f.node f).1 n).ent i).first:=hd
  show (S.C d).begun=true
  by_cases e:n=f.node.toNat
  ·rw[e,aT] at hd
   have old:(d:Int)∈((S.B f.node.toNat).ent i).first→(S.C d).begun=true:=fun h1=>u.first _ hn6 i hi d h1
   have new:∀ops sh,(d:Int)∈(S.B f.node.toNat).ahead i ops sh→(S.C d).begun=true:=fun ops sh h1=>by
    obtain⟨d32,_,ds,_⟩:=oN.1 h1
    exact (h.s.ent1 _ hn6 d d32 (by omega)).1
   by_cases ei:i=f.id.toNat
   ·subst ei
    rcases hk with hk | hk
    ·rw[nN h0 hk] at hd
     split at hd
     ·exact new _ _ hd
     ·exact old hd
    ·have:=congrArg (fun c=>c.2.1) (lY h0 hk)
     have this:((aO (S.B f.node.toNat) f.node f).1.ent f.id.toNat).first=_:=this
     rw[this] at hd
     split at hd
     ·have hd:(d:Int)∈(if ((S.B f.node.toNat).ent f.id.toNat).state=0 then (S.B f.node.toNat).ahead f.id.toNat f.ops (ofL f.node) else ((S.B f.node.toNat).ent f.id.toNat).first):=hd
      split at hd
      ·exact new _ _ hd
      ·exact old hd
     ·exact old hd
   ·have:=congrArg (fun c=>c.2.1) (mQ (s:=S.B f.node.toNat) (who:=f.node) (f:=f) ei)
    have this:((aO (S.B f.node.toNat) f.node f).1.ent i).first=((S.B f.node.toNat).ent i).first:=this
    rw[this] at hd
    exact old hd
  ·rw[aQ _ _ e] at hd
   exact u.first n hn i hi d hd
theorem sU (sh:Int):∀(l:List (Int × Int)) (c:aG),(c.dones sh l).known=c.known
 | [],_=>rfl
 | p::l,c=>by
  show ((aG.done1 sh c p).dones sh l).known=c.known
  rw[sU sh l]
  unfold aG.done1
  split<;>rfl
theorem CO {c:aG} {id:Int} {f:aD} {k:Nat} (h:(aR c id f).1.known k=true):c.known k=true∨(f.kind=4∧k=f.node.toNat):=by
 unfold aR at h
 split at h
 ·exact Or.inl h
 ·split at h
  ·exact Or.inl h
  ·split at h
   ·exact Or.inl h
   ·split at h
    ·split at h<;>exact Or.inl h
    ·split at h
     ·exact Or.inl h
     ·split at h
      ·rename_i h4
       have h:upd c.known f.node.toNat true k=true:=h
       by_cases e:k=f.node.toNat
       ·exact Or.inr ⟨h4,e⟩
       ·rw[aQ _ _ e] at h;exact Or.inl h
      ·have h:(c.dones (ofL f.node) (f.ats.zip f.vals)).known k=true:=h
       rw[sU] at h
       exact Or.inl h
theorem jA {c:aG} {id:Int} {g:aD} (h:g∈cV c id):(g.kind=1→bJ g.ops (ofL g.node)=true)∧g.kind≠4:=by
 unfold cV at h
 split at h
 ·simp at h
 ·obtain⟨n,_,hg⟩:=List.mem_flatMap.1 h
  unfold aG.send at hg
  split at hg
  ·split at hg
   ·rw[List.mem_singleton] at hg
    rw[hg]
    exact⟨fun e=>absurd e (show (3:Int)≠1 by decide),(show (3:Int)≠4 by decide)⟩
   ·simp at hg
  ·split at hg
   ·rename_i ht
    rw[List.mem_singleton] at hg
    rw[hg]
    rw[Bool.and_eq_true] at ht
    exact⟨fun _=>ht.1,(show (1:Int)≠4 by decide)⟩
   ·simp at hg
theorem uG (c:aG) (id:Int) (f:aD):(aR c id f).1.begun=c.begun:=by
 rcases gE c id f with ⟨_,h1,_⟩ | ⟨_,_,_,_,_,_,he,_⟩ | ⟨_,_,_,hs,_⟩
 ·rw[h1]
 ·rw[he];rfl
 ·exact hs.begun
theorem tU {zs:List Int} {n:Int}:eI zs n=true↔n∈zs:=by
 unfold eI eqB
 simp
theorem jP.answer {S:Sys} (h:gA S) (u:jP S) {f:aD} (hM:S.M f) (h0:(aR (S.C f.id.toNat) f.id f).2.2=0):
  jP ⟨S.B,upd S.C f.id.toNat (aR (S.C f.id.toNat) f.id f).1,fun g=>S.M g∨g∈(aR (S.C f.id.toNat) f.id f).2.1⟩:=by
 obtain⟨hr1,hr2⟩:=h.s.rng f hM
 have hi32:f.id.toNat<32:=by omega
 have hn6:f.node.toNat<6:=by omega
 have hnat:(f.id.toNat:Int)=f.id:=by omega
 have beg:∀d,(upd S.C f.id.toNat (aR (S.C f.id.toNat) f.id f).1 d).begun=(S.C d).begun:=fun d=>by
  rcases fA S.C f.id.toNat (aR (S.C f.id.toNat) f.id f).1 d with ⟨e1,e2⟩ | ⟨_,e2⟩
  ·rw[e2,uG,e1]
  ·rw[e2]
 have D:∀d:Nat,(d:Int)∈(aR (S.C f.id.toNat) f.id f).1.deps→(S.C d).begun=true:=by
  intro d hd
  rcases gE (S.C f.id.toNat) f.id f with ⟨h1,_⟩ | ⟨_,_,hk,_,_,_,he,_⟩ | ⟨_,_,_,hs,_⟩
  ·exact absurd h0 h1
  ·rw[he] at hd
   have hd:(d:Int)∈gX (S.C f.id.toNat).deps f.deps:=hd
   rcases (qC.1 hd).2 with e | e
   ·exact u.deps _ hi32 d e
   ·rw[(h.s.tel f hM hk).2] at e
    exact u.first _ hn6 _ hi32 d e
  ·rw[hs.deps] at hd
   exact u.deps _ hi32 d hd
 have O:eI (aR (S.C f.id.toNat) f.id f).1.deps (f.id.toNat:Int)=false:=by
  have old:=u.own _ hi32
  rcases gE (S.C f.id.toNat) f.id f with ⟨h1,_⟩ | ⟨_,hg,hk,_,_,_,he,_⟩ | ⟨_,_,_,hs,_⟩
  ·exact absurd h0 h1
  ·rw[he]
   show eI (gX (S.C f.id.toNat).deps f.deps) (f.id.toNat:Int)=false
   cases e:eI (gX (S.C f.id.toNat).deps f.deps) (f.id.toNat:Int)
   ·rfl
   ·rcases (qC.1 (tU.1 e)).2 with e | e
    ·rw[tU.2 e] at old;cases old
    ·have F:=h.s.tel f hM hk
     rw[F.2] at e
     have:=((h.s.good _ hn6).fine hi32 (by have:=F.1;omega)).first.2
     rw[tU.2 e] at this;cases this
  ·rw[hs.deps];exact old
 refine⟨fun i hi=>?_,fun i hi hb hf=>?_,fun g hg hg4=>?_,fun i hi k hk hkn=>?_,u.settled,fun g hg hg1=>?_,fun n hn i hi d hd=>?_,fun i hi d hd=>?_⟩
 ·show eI (upd S.C f.id.toNat (aR (S.C f.id.toNat) f.id f).1 i).deps (i:Int)=false
  rcases fA S.C f.id.toNat (aR (S.C f.id.toNat) f.id f).1 i with ⟨e1,e2⟩ | ⟨_,e2⟩
  ·rw[e2,e1];exact O
  ·rw[e2];exact u.own i hi
 ·have hb:(upd S.C f.id.toNat (aR (S.C f.id.toNat) f.id f).1 i).begun=true:=hb
  have hf:(upd S.C f.id.toNat (aR (S.C f.id.toNat) f.id f).1 i).fixed=false:=hf
  show eA (upd S.C f.id.toNat (aR (S.C f.id.toNat) f.id f).1 i).ops (upd S.C f.id.toNat (aR (S.C f.id.toNat) f.id f).1 i).told=false
  rw[beg] at hb
  rcases fA S.C f.id.toNat (aR (S.C f.id.toNat) f.id f).1 i with ⟨e1,e2⟩ | ⟨_,e2⟩
  ·rw[e2] at hf ⊢
   rcases gE (S.C f.id.toNat) f.id f with ⟨h1,_⟩ | ⟨_,_,_,_,_,_,he,_⟩ | ⟨_,_,_,hs,_⟩
   ·exact absurd h0 h1
   ·rw[he] at hf ⊢
    exact hf
   ·rw[hs.ops,hs.told]
    rw[hs.fixed] at hf
    rw[e1] at hb
    exact u.most _ hi32 hb hf
  ·rw[e2] at hf ⊢
   exact u.most i hi hb hf
 ·rcases hg with hg | hg
  ·exact u.kn g hg hg4
  ·exact absurd hg4 (jA (lT hg).1).2
 ·have hkn:(upd S.C f.id.toNat (aR (S.C f.id.toNat) f.id f).1 i).known k=true:=hkn
  show 2≤((S.B k).ent i).state
  rcases fA S.C f.id.toNat (aR (S.C f.id.toNat) f.id f).1 i with ⟨e1,e2⟩ | ⟨_,e2⟩
  ·rw[e2] at hkn
   rw[e1]
   rcases CO hkn with e | ⟨e,ek⟩
   ·exact u.known _ hi32 k hk e
   ·rw[ek]
    exact u.kn f hM e
  ·rw[e2] at hkn
   exact u.known i hi k hk hkn
 ·rcases hg with hg | hg
  ·exact u.ask g hg hg1
  ·exact (jA (lT hg).1).1 hg1
 ·exact (beg d).trans (u.first n hn i hi d hd)
 ·have hd:(d:Int)∈(upd S.C f.id.toNat (aR (S.C f.id.toNat) f.id f).1 i).deps:=hd
  refine (beg d).trans ?_
  rcases fA S.C f.id.toNat (aR (S.C f.id.toNat) f.id f).1 i with ⟨e1,e2⟩ | ⟨_,e2⟩
  ·rw[e2] at hd;exact D d hd
  ·rw[e2] at hd;exact u.deps i hi d hd
theorem jP.again {S:Sys} (u:jP S) (i:Nat):jP ⟨S.B,S.C,fun g=>S.M g∨g∈cV (S.C i) (i:Int)⟩:=by
 refine⟨u.own,u.most,fun g hg hg4=>?_,u.known,u.settled,fun g hg hg1=>?_,u.first,u.deps⟩
 ·rcases hg with hg | hg
  ·exact u.kn g hg hg4
  ·exact absurd hg4 (jA hg).2
 ·rcases hg with hg | hg
  ·exact u.ask g hg hg1
  ·exact (jA hg).1 hg1
theorem GV {ops:List OpL} (h:bR ops=true):eA ops (fun _=>false)=false:=by
 have hk:=zS h
 have e0:jY (fun _=>false) 0=0:=rfl
 have e1:jY (fun _=>false) 1=0:=rfl
 unfold eA
 rw[e0,e1]
 cases ops with
 | nil=>unfold bR at h;simp at h
 | cons o r=>
  have:=hk o (by simp)
  by_cases ho:o.2.1 % 2=0
  ·have:bJ (o::r) 0=true:=List.any_eq_true.2 ⟨o,by simp,by simp[jZ,ho]⟩
   rw[this]
   rfl
  ·have:bJ (o::r) 1=true:=List.any_eq_true.2 ⟨o,by simp,by simp[jZ];omega⟩
   rw[this]
   simp
theorem jP.begin {S:Sys} (u:jP S) {i:Nat} {ops:List OpL} (h0:(bL (i:Int) ops).2.2=0):
  jP ⟨S.B,upd S.C i (bL (i:Int) ops).1,fun g=>S.M g∨g∈(bL (i:Int) ops).2.1⟩:=by
 have hgo:=(xH h0).2.1
 have e:bL (i:Int) ops=({ cA with begun:=true,ops:=ops },cV { cA with begun:=true,ops:=ops } (i:Int),0):=by
  unfold bL at *
  split at h0
  ·exact absurd h0 (show (2:Int)≠0 by decide)
  ·rename_i h1
   rw[if_neg h1]
   split at h0
   ·exact absurd h0 (show (1:Int)≠0 by decide)
   ·rename_i h2
    rw[if_neg h2]
 rw[e]
 obtain⟨c,hc⟩:∃c:aG,c={ cA with begun:=true,ops:=ops }:=⟨_,rfl⟩
 show jP ⟨S.B,upd S.C i { cA with begun:=true,ops:=ops },fun g=>S.M g∨g∈cV { cA with begun:=true,ops:=ops } (i:Int)⟩
 rw[←hc]
 have beg:∀d,(S.C d).begun=true→(upd S.C i c d).begun=true:=fun d hd=>by
  rcases fA S.C i c d with ⟨_,e2⟩ | ⟨_,e2⟩
  ·rw[e2,hc]
  ·rw[e2];exact hd
 refine⟨fun j hj=>?_,fun j hj hbj hf=>?_,fun g hg hg4=>?_,fun j hj k hk hkn=>?_,u.settled,fun g hg hg1=>?_,fun n hn j hj d hd=>beg d (u.first n hn j hj d hd),fun j hj d hd=>?_⟩
 ·show eI (upd S.C i c j).deps (j:Int)=false
  rcases fA S.C i c j with ⟨_,e2⟩ | ⟨_,e2⟩
  ·rw[e2,hc];rfl
  ·rw[e2];exact u.own j hj
 ·have hbj:(upd S.C i c j).begun=true:=hbj
  have hf:(upd S.C i c j).fixed=false:=hf
  show eA (upd S.C i c j).ops (upd S.C i c j).told=false
  rcases fA S.C i c j with ⟨_,e2⟩ | ⟨_,e2⟩
  ·rw[e2,hc];exact GV hgo
  ·rw[e2] at hbj hf ⊢;exact u.most j hj hbj hf
 ·rcases hg with hg | hg
  ·exact u.kn g hg hg4
  ·exact absurd hg4 (jA hg).2
 ·have hkn:(upd S.C i c j).known k=true:=hkn
  show 2≤((S.B k).ent j).state
  rcases fA S.C i c j with ⟨_,e2⟩ | ⟨_,e2⟩
  ·rw[e2,hc] at hkn;cases hkn
  ·rw[e2] at hkn;exact u.known j hj k hk hkn
 ·rcases hg with hg | hg
  ·exact u.ask g hg hg1
  ·exact (jA hg).1 hg1
 ·have hd:(d:Int)∈(upd S.C i c j).deps:=hd
  refine beg d ?_
  rcases fA S.C i c j with ⟨_,e2⟩ | ⟨_,e2⟩
  ·rw[e2,hc] at hd
   have hd:(d:Int)∈([]:List Int):=hd
   simp at hd
  ·rw[e2] at hd;exact u.deps j hj d hd
def nF (w w':World) (v:Value) (zs:List Int):Prop:=w'.ownsRow w.heap.size 3 1 v zs.length (aS zs)∧(zs.length=0→∃a,v= .slice a 0 0)∧Below w.heap.size w w'
def pK (w w':World) (v:Value) (zs:List OpL):Prop:=w'.ownsRow w.heap.size 69 3 v zs.length (cJ zs)∧(zs.length=0→∃a,v= .slice a 0 0)∧Below w.heap.size w w'
theorem z8 (zs:List Int):∀u∈aS zs,u.oneCell'=true:=by
 intro u hu
 obtain⟨n,_,rfl⟩:=List.mem_map.1 hu
 rfl
theorem AG (zs:List OpL):∀u∈cJ zs,u.oneCell'=true:=by
 intro u hu
 obtain⟨o,_,h⟩:=List.mem_flatMap.1 hu
 simp[lL] at h
 rcases h with rfl | rfl | rfl<;>rfl
theorem dA.news {w w1:World} {ad:Addr} {zs:List Int} (h:dA w.heap.size w (some ad) zs) (hb:Below w.heap.size w w1):∀j u,(aS zs)[j]? =some u→w1.cell? (ad.add j)=some u:=by
 intro j u hu
 rcases h with rfl | ⟨b,off,hb',hlt,hc⟩
 ·simp[aS] at hu
 ·obtain rfl:ad=⟨b,off,none⟩:=by simpa using hb'
  have hj:j<zs.length:=by
   obtain⟨hj,_⟩:=List.getElem?_eq_some_iff.1 hu
   simpa [aS] using hj
  rw[iJ,hb.cell (p:=⟨b,off+j,none⟩) hlt,hc j hj]
  simp[aS,hj] at hu
  simp[List.getD,hj,hu]
theorem fJ.news {w w1:World} {ad:Addr} {zs:List OpL} (h:fJ w (some ad) zs) (hb:Below w.heap.size w w1):∀j u,(cJ zs)[j]? =some u→w1.cell? (ad.add j)=some u:=by
 intro j u hu
 rcases h with rfl | ⟨b,off,hb',hlt,hc⟩
 ·simp[cJ] at hu
 ·obtain rfl:ad=⟨b,off,none⟩:=by simpa using hb'
  have hj:j<zs.length*3:=by
   obtain⟨hj,_⟩:=List.getElem?_eq_some_iff.1 hu
   rw[rO] at hj
   exact hj
  obtain⟨g0,g1,g2⟩:=oB zs (j / 3) (by omega)
  obtain⟨c0,c1,c2⟩:=hc (j / 3) (by omega)
  rw[iJ,hb.cell (p:=⟨b,off+j,none⟩) hlt]
  have h3:j=j / 3*3∨j=j / 3*3+1∨j=j / 3*3+2:=by omega
  rcases h3 with e | e | e
  ·rw[e] at hu ⊢;rw[c0];rw[g0] at hu;exact hu
  ·rw[e] at hu ⊢;rw[←Nat.add_assoc,c1];rw[g1] at hu;exact hu
  ·rw[e] at hu ⊢;rw[←Nat.add_assoc,c2];rw[g2] at hu;exact hu
theorem dB (a:Option Addr) (cap:Nat) (zs:List Int) (w:World) (h:bO w a cap zs) (hl:zs.length*8≤140737488355328):
  Calls Tryz.prog 55 #[.slice a zs.length cap] w fun e w'=>∃v,e= .returned v∧nF w w' v zs:=by
 obtain⟨i0,hi,hz0,hz1,hz2⟩:=info_parts Tryz.infoInt
 have he:=fun w=>Go.Lib.run_eql_slice_nil (P:=Tryz.prog) w 26 3 a zs.length cap 0 0 Tryz.underlying26
 cases a with
 | none=>
  obtain⟨h1,rfl⟩:=h.2.2.2 rfl
  obtain rfl:=List.eq_nil_of_length_eq_zero h1
  simp only[Option.isNone_none,List.length_nil] at he
  go_enter Tryz.func55,Tryz.ntmps55
  go_wp2
  go_ret
  exact⟨_,rfl,World.ownsRow_nil _ _ _ _,fun _=>⟨_,rfl⟩,Below.refl _ _⟩
 | some ad=>
  simp only[Option.isNone_some] at he
  obtain⟨hz,hm,hc,_⟩:=h
  have HB:Hid (Below w.heap.size w (w.alloc (.cells #[] 3))):=(Below.refl _ _).alloc (Nat.le_refl _) _
  have HZ:Hid (dA w.heap.size w (some ad) zs):=hz
  clear hz
  by_cases h0:zs.length=0
  ·obtain rfl:=List.eq_nil_of_length_eq_zero h0
   simp only[List.length_nil] at he
   go_enter Tryz.func55,Tryz.ntmps55
   go_wp2_with (first
    | (at_builtin;refine wpList_append_fits_any _ rfl _ _ 26 rfl w.heap.size 3 i0 1 Tryz.underlying26 hi hz1 w.heap.size 0 0 [] rfl (World.ownsRow_made (e:=3) (size:=1) w #[] 0 (Nat.le_refl _) (by decide) rfl) (some ad) 0 cap [] rfl rfl (fun h=>by cases h) (fun _ _ j u hj=>by simp at hj) (by simp) (Nat.le_refl _) ?_;intro w2 hown hg)
    | go_in)
   go_wp2
   go_ret
   exact⟨_,rfl,hown,fun _=>⟨_,rfl⟩,HB.out.grown hg (by rw[aA];omega) (by intro k hk;cases hk;exact Nat.le_refl _)⟩
  ·go_enter Tryz.func55,Tryz.ntmps55
   go_wp2_with (first
    | (at_builtin;refine wpList_append_own _ rfl _ _ 26 rfl w.heap.size 3 i0 (.int .i64 0) 1 8 Tryz.underlying26 hi hz0 hz1 hz2 rfl (by decide) _ _ _ rfl (World.ownsRow_made (e:=3) (size:=1) w #[] 0 (Nat.le_refl _) (by decide) rfl) ad zs.length cap (aS zs) rfl ?c1 ?c2 ?c3 ?c4 ?c5 ?c6 ?_)
    | go_in)
   case c1=>simp[aS]
   case c2=>exact HZ.out.news HB.out
   case c3=>exact z8 zs
   case c4=>unfold maxLen;omega
   case c5=>omega
   case c6=>rw[aA];omega
   ·intro v' w2 hown hg _
    go_wp2
    go_ret
    refine⟨_,rfl,?_,fun h=>absurd h h0,HB.out.grown hg (by rw[aA];omega) (by intro k hk;cases hk;exact Nat.le_refl _)⟩
    simpa using hown
theorem gF (a:Option Addr) (cap:Nat) (zs:List OpL) (w:World) (h:bX w a cap zs) (hl:zs.length*24≤140737488355328):
  Calls Tryz.prog 54 #[.slice a zs.length cap] w fun e w'=>∃v,e= .returned v∧pK w w' v zs:=by
 obtain⟨i0,hi,hz0,hz1,hz2⟩:=info_parts Tryz.infoOp
 have he:=fun w=>Go.Lib.run_eql_slice_nil (P:=Tryz.prog) w 22 69 a zs.length cap 0 0 Tryz.underlying22
 cases a with
 | none=>
  obtain⟨h1,rfl⟩:=h.2.2.2 rfl
  obtain rfl:=List.eq_nil_of_length_eq_zero h1
  simp only[Option.isNone_none,List.length_nil] at he
  go_enter Tryz.func54,Tryz.ntmps54
  go_wp2
  go_ret
  exact⟨_,rfl,World.ownsRow_nil _ _ _ _,fun _=>⟨_,rfl⟩,Below.refl _ _⟩
 | some ad=>
  simp only[Option.isNone_some] at he
  obtain⟨hz,hm,hc,_⟩:=h
  have HB:Hid (Below w.heap.size w (w.alloc (.cells #[] 69))):=(Below.refl _ _).alloc (Nat.le_refl _) _
  have HZ:Hid (fJ w (some ad) zs):=hz
  clear hz
  by_cases h0:zs.length=0
  ·obtain rfl:=List.eq_nil_of_length_eq_zero h0
   simp only[List.length_nil] at he
   go_enter Tryz.func54,Tryz.ntmps54
   go_wp2_with (first
    | (at_builtin;refine wpList_append_fits_any _ rfl _ _ 22 rfl w.heap.size 69 i0 3 Tryz.underlying22 hi hz1 w.heap.size 0 0 [] rfl (World.ownsRow_made (e:=69) (size:=3) w #[] 0 (Nat.le_refl _) (by decide) rfl) (some ad) 0 cap [] rfl rfl (fun h=>by cases h) (fun _ _ j u hj=>by simp at hj) (by simp) (Nat.le_refl _) ?_;intro w2 hown hg)
    | go_in)
   go_wp2
   go_ret
   exact⟨_,rfl,hown,fun _=>⟨_,rfl⟩,HB.out.grown hg (by rw[aA];omega) (by intro k hk;cases hk;exact Nat.le_refl _)⟩
  ·go_enter Tryz.func54,Tryz.ntmps54
   go_wp2_with (first
    | (at_builtin;refine wpList_append_own _ rfl _ _ 22 rfl w.heap.size 69 i0 (.agg #[.int .i64 0,.int .i64 0,.int .i64 0]) 3 24 Tryz.underlying22 hi hz0 hz1 hz2 rfl (by decide) _ _ _ rfl (World.ownsRow_made (e:=69) (size:=3) w #[] 0 (Nat.le_refl _) (by decide) rfl) ad zs.length cap (cJ zs) rfl ?c1 ?c2 ?c3 ?c4 ?c5 ?c6 ?_)
    | go_in)
   case c1=>exact rO zs
   case c2=>exact HZ.out.news HB.out
   case c3=>exact AG zs
   case c4=>unfold maxLen;omega
   case c5=>omega
   case c6=>rw[aA];omega
   ·intro v' w2 hown hg _
    go_wp2
    go_ret
    refine⟨_,rfl,?_,fun h=>absurd h h0,HB.out.grown hg (by rw[aA];omega) (by intro k hk;cases hk;exact Nat.le_refl _)⟩
    simpa using hown
theorem bM (w:World) {g k:Nat} (cs:Array Value) (h:k≠g):(w.setRow g cs).heap[k]? =w.heap[k]? :=by
 simp[World.setRow,Array.getElem?_modify]
 intro e;omega
theorem c8 {w w':World} {b:Nat} {e:TypeId} {size:Nat} {v:Value} {n:Nat} {xs:List Value} (h:w.ownsRow b e size v n xs) (hs:∀k,v.ownBlock=some k→w'.heap[k]? =w.heap[k]?):w'.ownsRow b e size v n xs:=
 ⟨h.1,h.2.imp id fun ⟨g,cap,cur,h1,h2,h3,h4⟩=>⟨g,cap,cur,h1,h2,by rw[hs g (by rw[h1];rfl)];exact h3,h4⟩⟩
theorem qK (w:World) (A B C:Obj):(((w.alloc A).alloc B).alloc C).heap[w.heap.size]? =some A∧(((w.alloc A).alloc B).alloc C).heap[w.heap.size+1]? =some B∧(((w.alloc A).alloc B).alloc C).heap[w.heap.size+2]? =some C:=by
 have h1:(w.alloc A).heap.size=w.heap.size+1:=aA _ _
 have h2:((w.alloc A).alloc B).heap.size=w.heap.size+2:=by rw[aA];omega
 obtain⟨r1,r2⟩:=cB w A B
 refine⟨?_,?_,?_⟩
 ·rw[Below.heap_alloc _ _ _ (by omega)];exact r1
 ·rw[Below.heap_alloc _ _ _ (by omega)];exact r2
 ·rw[show w.heap.size+2=((w.alloc A).alloc B).heap.size by omega];exact aJ _ _
theorem Tryz.infoFrame7:(Tryz.prog.info? 123).map (·.size)=some 7:=by kernel_rfl
theorem Tryz.infoFrameZ:(Tryz.prog.info? 123).map (fun i=>(i.zero,i.size,i.bytes))=some (some (.agg #[.int .i64 0,.int .i64 0,.int .i64 0,.slice none 0 0,.slice none 0 0,.slice none 0 0,.slice none 0 0]),7,120):=by kernel_rfl
theorem fP {P:Program} {fn:Func} {p q r:Tmp} {ty:TypeId} (h:fn.results=#[.cell p ty,.tmp q,.tmp r]) (tmps:Array Value) (w:World) (g:Nat) (t:TypeId) (cs:Array Value) (fr:Nat × Nat) (d:TypeDesc)
  (hp:tmps.getD p undef= .pointer (some ⟨g,0,none⟩)) (hg:w.heap[g]? =some (.cells cs t fr)) (hu:P.underlying ty=some d) (hd:(match d with | .struct _ | .array _ _=>true | _=>false)=true) (hi:(P.info? ty).map (·.size)=some cs.size)
  (x y:Value) (hx:tmps.getD q undef=x) (hy:tmps.getD r undef=y):(results fn tmps).run P w= .ok (.tuple #[.agg cs,x,y]) w:=by
 have hp':tmps[p]?.getD undef= .pointer (some ⟨g,0,none⟩):=by simpa using hp
 have hx':tmps[q]?.getD undef=x:=by simpa using hx
 have hy':tmps[r]?.getD undef=y:=by simpa using hy
 simp[results,h,hp',hx',hy',asAddr,run_loadVar_row w g t ty cs fr d hg hu hd hi]
def dS (B:Nat) (w:World) (v:Value) (f:aD):Prop:=∃a3 c3 a4 c4 a5 c5 a6 c6,
 v= .agg #[.int .i64 f.kind,.int .i64 f.node,.int .i64 f.id,.slice a3 f.ops.length c3,.slice a4 f.deps.length c4,.slice a5 f.ats.length c5,.slice a6 f.vals.length c6]∧
 (bX w a3 c3 f.ops∧eW (· <B) w a3 f.ops)∧(bO w a4 c4 f.deps∧cY (· <B) w a4 f.deps)∧(bO w a5 c5 f.ats∧cY (· <B) w a5 f.ats)∧(bO w a6 c6 f.vals∧cY (· <B) w a6 f.vals)
theorem bS.b {w:World} {v:Value} {f:aD} (h:bS w v f):dS w.heap.size w v f:=by
 obtain⟨a3,c3,a4,c4,a5,c5,a6,c6,e,h3,h4,h5,h6⟩:=h
 exact⟨a3,c3,a4,c4,a5,c5,a6,c6,e,⟨h3,h3.1⟩,⟨h4,h4.1⟩,⟨h5,h5.1⟩,⟨h6,h6.1⟩⟩
theorem dS.v {B:Nat} {w:World} {v:Value} {f:aD} (h:dS B w v f):bS w v f:=by
 obtain⟨a3,c3,a4,c4,a5,c5,a6,c6,e,h3,h4,h5,h6⟩:=h
 exact⟨a3,c3,a4,c4,a5,c5,a6,c6,e,h3.1,h4.1,h5.1,h6.1⟩
theorem nJ {B:Nat} {w w':World} {a:Option Addr} {cap:Nat} {zs:List Int} (h:bO w a cap zs∧cY (· <B) w a zs) (hb:Below B w w'):bO w' a cap zs∧cY (· <B) w' a zs:=by
 have h2:=h.2.later (w':=w') (fun k _ hk=>hb.block k hk)
 exact⟨⟨h2.at,h.1.2⟩,h2⟩
theorem oT {B:Nat} {w w':World} {a:Option Addr} {cap:Nat} {zs:List OpL} (h:bX w a cap zs∧eW (· <B) w a zs) (hb:Below B w w'):bX w' a cap zs∧eW (· <B) w' a zs:=by
 have h2:=h.2.later (w':=w') (fun k _ hk=>hb.block k hk)
 exact⟨⟨h2.at,h.1.2⟩,h2⟩
theorem dS.later {B:Nat} {w w':World} {v:Value} {f:aD} (h:dS B w v f) (hb:Below B w w'):dS B w' v f:=by
 obtain⟨a3,c3,a4,c4,a5,c5,a6,c6,e,h3,h4,h5,h6⟩:=h
 exact⟨a3,c3,a4,c4,a5,c5,a6,c6,e,oT h3 hb,nJ h4 hb,nJ h5 hb,nJ h6 hb⟩
def lM (B:Nat) (w:World) (v:Value) (f:aD):Prop:=∃a3 c3 a4 c4 a5 c5 a6 c6,
 v= .agg #[.int .i64 f.kind,.int .i64 f.node,.int .i64 f.id,.slice a3 f.ops.length c3,.slice a4 f.deps.length c4,.slice a5 f.ats.length c5,.slice a6 f.vals.length c6]∧
 (bX w a3 c3 f.ops∧eW (B≤·) w a3 f.ops)∧(bO w a4 c4 f.deps∧cY (B≤·) w a4 f.deps)∧(bO w a5 c5 f.ats∧cY (B≤·) w a5 f.ats)∧(bO w a6 c6 f.vals∧cY (B≤·) w a6 f.vals)
theorem lM.v {B:Nat} {w:World} {v:Value} {f:aD} (h:lM B w v f):bS w v f:=by
 obtain⟨a3,c3,a4,c4,a5,c5,a6,c6,e,h3,h4,h5,h6⟩:=h
 exact⟨a3,c3,a4,c4,a5,c5,a6,c6,e,h3.1,h4.1,h5.1,h6.1⟩
theorem nA {ok:Nat→Prop} {w w':World} {a:Option Addr} {cap:Nat} {zs:List Int} (h:bO w a cap zs∧cY ok w a zs) (hb:bQ ok w w'):bO w' a cap zs∧cY ok w' a zs:=by
 have h2:=h.2.later hb
 exact⟨⟨h2.at,h.1.2⟩,h2⟩
theorem AV {ok:Nat→Prop} {w w':World} {a:Option Addr} {cap:Nat} {zs:List OpL} (h:bX w a cap zs∧eW ok w a zs) (hb:bQ ok w w'):bX w' a cap zs∧eW ok w' a zs:=by
 have h2:=h.2.later hb
 exact⟨⟨h2.at,h.1.2⟩,h2⟩
theorem lM.same {B:Nat} {w w':World} {v:Value} {f:aD} (h:lM B w v f) (hb:bQ (B≤·) w w'):lM B w' v f:=by
 obtain⟨a3,c3,a4,c4,a5,c5,a6,c6,e,h3,h4,h5,h6⟩:=h
 exact⟨a3,c3,a4,c4,a5,c5,a6,c6,e,AV h3 hb,nA h4 hb,nA h5 hb,nA h6 hb⟩
theorem lM.mono {B B':Nat} {w:World} {v:Value} {f:aD} (h:lM B w v f) (hB:B'≤B):lM B' w v f:=by
 obtain⟨a3,c3,a4,c4,a5,c5,a6,c6,e,h3,h4,h5,h6⟩:=h
 have m:∀k,k<w.heap.size→B≤k→B'≤k:=fun k _ (h:B≤k)=>by omega
 exact⟨a3,c3,a4,c4,a5,c5,a6,c6,e,⟨h3.1,h3.2.mono m⟩,⟨h4.1,h4.2.mono m⟩,⟨h5.1,h5.2.mono m⟩,⟨h6.1,h6.2.mono m⟩⟩
theorem iG (ok:Nat→Prop) (w:World):bO w none 0 []∧cY ok w none []:=⟨⟨Or.inl rfl,Nat.zero_le _,Nat.le_refl _,fun _=>⟨rfl,rfl⟩⟩,Or.inl rfl⟩
theorem pT (ok:Nat→Prop) (w:World):bX w none 0 []∧eW ok w none []:=⟨⟨Or.inl rfl,Nat.zero_le _,Nat.le_refl _,fun _=>⟨rfl,rfl⟩⟩,Or.inl rfl⟩
theorem wT {B b0:Nat} {w:World} {a:Option Addr} {cap:Nat} {zs:List Int} (h:w.ownsRow b0 3 1 (.slice a zs.length cap) zs.length (aS zs)) (hB:B≤b0):bO w a cap zs∧cY (B≤·) w a zs:=by
 have h1:=bO.of_owns h
 refine⟨h1,?_⟩
 rcases h1.1 with e | ⟨b,off,rfl,_,hc⟩
 ·exact Or.inl e
 ·exact Or.inr ⟨b,off,rfl,Nat.le_trans hB (World.ownsRow.lt h b rfl).1,hc⟩
def aL (B:Nat) (w:World) (v:Value) (fs:List aD):Prop:=∃css:List (List Value),css.length=fs.length∧w.ownsRow B 123 7 v fs.length css.flatten∧
 (∀i (h:i<fs.length),(css.getD i []).length=7∧lM B w (.agg (css.getD i []).toArray) fs[i])
theorem aL.same {B:Nat} {w w':World} {v:Value} {fs:List aD} (h:aL B w v fs) (hb:bQ (B≤·) w w'):aL B w' v fs:=by
 obtain⟨css,h1,h2,h3⟩:=h
 exact⟨css,h1,c8 h2 (fun k hk=>hb k (World.ownsRow.lt h2 k hk).2 (World.ownsRow.lt h2 k hk).1),fun i hi=>⟨(h3 i hi).1,(h3 i hi).2.same hb⟩⟩
theorem aL.later {B:Nat} {w w':World} {v:Value} {fs:List aD} (h:aL B w v fs) (hb:Below w.heap.size w w'):aL B w' v fs:=h.same (bQ.of_size hb)
theorem aL.mono {B B':Nat} {w:World} {v:Value} {fs:List aD} (h:aL B w v fs) (hB:B'≤B):aL B' w v fs:=by
 obtain⟨css,h1,h2,h3⟩:=h
 exact⟨css,h1,eG h2 hB,fun i hi=>⟨(h3 i hi).1,(h3 i hi).2.mono hB⟩⟩
theorem aL.nil (B:Nat) (w:World):aL B w (.slice none 0 0) []:=⟨[],rfl,World.ownsRow_nil _ _ _ _,fun _ h=>by simp at h⟩
theorem fS {f:aD} (h:aN f=0):(0≤f.id∧f.id<32)∧(0≤f.node∧f.node<6):=by
 unfold aN at h
 split at h
 ·omega
 ·split at h
  ·omega
  ·omega
def iY (P:Program) (ty:TypeId) (n:Nat):Prop:=∃d,P.underlying ty=some d∧d.isRow=true∧(P.info? ty).map (·.size)=some n
theorem dR {P:Program} {ops:Array Oper} {Q:Exit→Act→World→Prop} {rest:List Oper} {a:Act} {w:World} {dst:Option Tmp} {type:TypeId} {pos:String} {after:Array Edge} {guard:Option (Nat × Bool)} {x:Operand} {ty:TypeId} {b o:Nat} {cs:Array Value}
  (hc:w.rangeAt b o cs.toList) (hx:a.eval x= .pointer (some ⟨b,o,none⟩)) (hr:iY P ty cs.toList.length)
  (hw:Region.wanted ⟨dst,.load ty x,type,pos,after,guard⟩ (yielded ops a.tmps)=true) (h:wpList P ops Q rest (a.put dst (.agg cs)) w):wpList P ops Q (⟨dst,.load ty x,type,pos,after,guard⟩::rest) a w:=by
 obtain⟨d,hu,hd,hi⟩:=hr
 exact lZ hw fun K hK=>wp_load_mid ty x rfl b o hx cs.toList d hc hu hd hi (hK _ _ (by simpa using h))
theorem cD {P:Program} {ops:Array Oper} {Q:Exit→Act→World→Prop} {rest:List Oper} {a:Act} {w:World} {dst:Option Tmp} {type:TypeId} {pos:String} {after:Array Edge} {guard:Option (Nat × Bool)} {x:Operand} {ty t:TypeId} {g:Nat} {cs:Array Value} {fr:Nat × Nat}
  (hg:w.heap[g]? =some (.cells cs t fr)) (hx:a.eval x= .pointer (some ⟨g,0,none⟩)) (hr:iY P ty cs.size)
  (hw:Region.wanted ⟨dst,.load ty x,type,pos,after,guard⟩ (yielded ops a.tmps)=true) (h:wpList P ops Q rest (a.put dst (.agg cs)) w):wpList P ops Q (⟨dst,.load ty x,type,pos,after,guard⟩::rest) a w:=by
 obtain⟨d,hu,hd,hi⟩:=hr
 refine lZ hw fun K hK=>wp_load_row ty x rfl g hx t cs fr d hg hu ?_ hi (hK _ _ h)
 cases d<;>first | rfl | cases hd
theorem cL {P:Program} {w:World} {ops:Array Oper} {rest:List Oper} {o:Oper} {a:Act} {Q:Exit→Act→World→Prop} (hg:o.guard=none) (ty:TypeId) (ho:o.op= .alloc ty) (cs:Array Value) (hz:(P.info? ty).map (·.zero)=some (some (.agg cs)))
  (h:wpList P ops Q rest (a.put o.dst (.pointer (some ⟨w.heap.size,0,none⟩))) (w.alloc (.cells cs ty))):wpList P ops Q (o::rest) a w:=by
 refine wpList_plain hg fun K hK=>?_
 cases hq:P.info? ty with
 | none=>simp[hq] at hz
 | some i=>
  have hzz:i.zero=some (.agg cs):=by simpa [hq] using hz
  unfold Oper.wp execOp
  simp[ho,Instr.alloc,zeroValue,typeInfo,hq,hzz,newVar,newRow,Value.cells,go_sem]
  exact hK _ _ h
end Go.Proofs.YtkoefoccbjhoiacGreat
