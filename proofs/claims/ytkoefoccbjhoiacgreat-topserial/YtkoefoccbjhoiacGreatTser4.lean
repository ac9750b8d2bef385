/-
squeezed by tools/squeeze.py from: GSort GLink NodeL NodeG GLearn NodeS NodeT NMem PostL CMem CluN Confl CluS
-/
import Derived.Test.YtkoefoccbjhoiacGreatTser3
import Derived.Test.YtkoefoccbjhoiacGreatTser2
import Derived.Test.YtkoefoccbjhoiacGreatTser1
set_option linter.unusedVariables false
set_option linter.unusedSimpArgs false
set_option maxRecDepth 100000
set_option maxHeartbeats 16000000
namespace Go.Proofs.YtkoefoccbjhoiacGreat
open Go.RowKit
def qE (H:Nat→Nat→Bool) (out:List Nat):Prop:=
 ∀pre x post,out=pre++x::post→∀d,d<32→H x d=true→H d x=true→d≠x→(d∈pre↔d<x)
theorem GC (H:Nat→Nat→Bool) (x:Nat):(gM H x).Pairwise (· < ·):=List.Pairwise.filter _ List.pairwise_lt_range
theorem DQ {r1 r2:List Nat} {x d:Nat} (h:(r1++x::r2).Pairwise (· < ·)) (hd:d∈r1++x::r2) (hx:d≠x):d∈r1↔d<x:=by
 rw[List.pairwise_append,List.pairwise_cons] at h
 obtain⟨_,⟨h2,_⟩,h3⟩:=h
 constructor
 ·intro h1
  exact h3 d h1 x (by simp)
 ·intro h1
  rcases List.mem_append.1 hd with h4 | h4
  ·exact h4
  ·rcases List.mem_cons.1 h4 with h5 | h5
   ·exact absurd h5 hx
   ·have:=h2 d h5
    omega
theorem zV {H:Nat→Nat→Bool} {D:Nat→Bool} (hc:Clo H D) {out:List Nat} (L:xC H D out) (h:qE H out):qE H (out++i5 H D (fun i=>out.contains i)):=by
 rcases kP H D (fun i=>out.contains i) with ⟨h1,_⟩ | ⟨y,h1,h2,_,h4⟩
 ·rw[h1,List.append_nil];exact h
 ·rw[h4]
  obtain⟨m1,m2,_⟩:=jW.1 h2
  have hy:y ∉ out:=by simpa using m2
  have ring:∀r1 x r2,gM H y=r1++x::r2→∀d,d<32→H x d=true→H d x=true→d≠x→(d∈out++r1↔d<x):=by
   intro r1 x r2 e d hd hxd hdx hne
   have hx:x∈gM H y:=by rw[e];simp
   have hq:=iF.1 hx
   have dx:=hc.closed y x m1 hq.2.1
   have dd:=hc.closed x d dx hxd
   have hyd:=hc.trans y x d m1 hq.2.1 hxd
   have hdy:=hc.trans d x y dd hdx hq.2.2
   have hr:d∈gM H y:=iF.2 ⟨hd,hyd,hdy⟩
   have hno:d ∉ out:=fun ho=>hy (L.rings d y h1 hdy hyd ho)
   have hs:=GC H y
   rw[e] at hs hr
   rw[←DQ hs hr hne,List.mem_append]
   exact⟨fun h=>h.resolve_left hno,Or.inr⟩
  intro pre x post e d hd hxd hdx hne
  rw[List.append_eq_append_iff] at e
  rcases e with ⟨qs,e1,e2⟩ | ⟨bs,e1,e2⟩
  ·rw[e1]
   exact ring qs x post e2 d hd hxd hdx hne
  ·cases bs with
   | nil=>
    have e2':gM H y=[]++x::post:=by simpa using e2.symm
    have e1':out=pre:=by simpa using e1
    have:=ring [] x post e2' d hd hxd hdx hne
    rw[List.append_nil,e1'] at this
    exact this
   | cons b bs=>
    simp only[List.cons_append,List.cons.injEq] at e2
    obtain⟨rfl,_⟩:=e2
    exact h pre x bs e1 d hd hxd hdx hne
theorem tV {H:Nat→Nat→Bool} {D:Nat→Bool} (hc:Clo H D):∀j,qE H (dS H D j)
 | 0=>by intro pre x post e;simp[dS] at e
 | j+1=>zV hc (nA hc j) (tV hc j)
structure jC (H:Nat→Nat→Bool) (L:List Nat):Prop where
 nodup:L.Nodup
 lt:∀x∈L,x<32
 closed:∀x∈L,∀d,d<32→H x d=true→d∈L
 behind:∀pre x post,L=pre++x::post→∀d,d<32→H x d=true→H d x=false→d∈pre
 ring:qE H L
theorem oD (H:Nat→Nat→Bool):jC H []:=⟨.nil,by simp,by simp,by intro pre x post e;simp at e,by intro pre x post e;simp at e⟩
theorem oI {p:Nat→Bool}:∀{out pre post:List Nat} {x:Nat},out.filter p=pre++x::post→∃a b,out=a++x::b∧a.filter p=pre∧b.filter p=post
 | [],pre,post,x,h=>by simp at h
 | y::out,pre,post,x,h=>by
  cases hp:p y
  ·rw[List.filter_cons_of_neg (by simp[hp])] at h
   obtain⟨a,b,h1,h2,h3⟩:=oI h
   exact⟨y::a,b,by rw[h1];rfl,by rw[List.filter_cons_of_neg (by simp[hp])];exact h2,h3⟩
  ·rw[List.filter_cons_of_pos hp] at h
   cases pre with
   | nil=>
    simp at h
    exact⟨[],out,by rw[h.1];rfl,rfl,h.2⟩
   | cons z pre=>
    simp at h
    obtain⟨a,b,h1,h2,h3⟩:=oI h.2
    exact⟨y::a,b,by rw[h1];rfl,by rw[List.filter_cons_of_pos hp,h2,h.1],h3⟩
theorem nO {H:Nat→Nat→Bool} {D:Nat→Bool} (hc:Clo H D) {L:List Nat} (h:jC H L):jC H (L++(dS H D 32).filter fun x=>!L.contains x):=by
 have La:=nA hc 32
 have Nu:=tV hc 32
 have mem:∀x,x∈(dS H D 32).filter (fun x=>!L.contains x)↔D x=true∧x ∉ L:=by
  intro x
  rw[List.mem_filter,qS hc x]
  simp
 have all:∀x,D x=true→x∈L++(dS H D 32).filter fun x=>!L.contains x:=by
  intro x hx
  by_cases hl:x∈L
  ·exact List.mem_append_left _ hl
  ·exact List.mem_append_right _ ((mem x).2 ⟨hx,hl⟩)
 have new:∀p1 x p2,(dS H D 32).filter (fun x=>!L.contains x)=p1++x::p2→∀d,d<32→H x d=true→(H d x=false→d∈L++p1)∧(H d x=true→d≠x→(d∈L++p1↔d<x)):=by
  intro p1 x p2 e d hd hxd
  obtain⟨a,b,e1,e2,_⟩:=oI e
  have hx:=(mem x).1 (by rw[e];simp)
  have dd:=hc.closed x d hx.1 hxd
  have inA:∀z,z ∉ L→(z∈p1↔z∈a):=by
   intro z hz
   rw[←e2,List.mem_filter]
   simp[hz]
  refine⟨fun hn=>?_,fun hb hne=>?_⟩
  ·rcases La.behind a x b e1 d hd hxd with h1 | h1
   ·by_cases hl:d∈L
    ·exact List.mem_append_left _ hl
    ·exact List.mem_append_right _ ((inA d hl).2 h1)
   ·rw[hn] at h1;cases h1
  ·have hl:d ∉ L:=fun hl=>hx.2 (h.closed d hl x (hc.lt x hx.1) hb)
   rw[List.mem_append,inA d hl,←Nu a x b e1 d hd hxd hb hne]
   exact⟨fun h=>h.resolve_left hl,Or.inr⟩
 refine⟨?_,?_,?_,?_,?_⟩
 ·rw[List.nodup_append]
  refine⟨h.nodup,List.Pairwise.filter _ La.nodup,fun a ha b hb e=>?_⟩
  subst e
  exact ((mem a).1 hb).2 ha
 ·intro x hx
  rcases List.mem_append.1 hx with hx | hx
  ·exact h.lt x hx
  ·exact hc.lt x ((mem x).1 hx).1
 ·intro x hx d hd hxd
  rcases List.mem_append.1 hx with hx | hx
  ·exact List.mem_append_left _ (h.closed x hx d hd hxd)
  ·exact all d (hc.closed x d ((mem x).1 hx).1 hxd)
 ·intro pre x post e d hd hxd hn
  rw[List.append_eq_append_iff] at e
  rcases e with ⟨qs,e1,e2⟩ | ⟨bs,e1,e2⟩
  ·rw[e1]
   exact (new qs x post e2 d hd hxd).1 hn
  ·cases bs with
   | nil=>
    have e1':L=pre:=by simpa using e1
    have:=(new [] x post (by simpa using e2.symm) d hd hxd).1 hn
    rw[List.append_nil,e1'] at this
    exact this
   | cons b bs=>
    simp only[List.cons_append,List.cons.injEq] at e2
    obtain⟨rfl,_⟩:=e2
    exact h.behind pre x bs e1 d hd hxd hn
 ·intro pre x post e d hd hxd hdx hne
  rw[List.append_eq_append_iff] at e
  rcases e with ⟨qs,e1,e2⟩ | ⟨bs,e1,e2⟩
  ·rw[e1]
   exact (new qs x post e2 d hd hxd).2 hdx hne
  ·cases bs with
   | nil=>
    have e1':L=pre:=by simpa using e1
    have:=(new [] x post (by simpa using e2.symm) d hd hxd).2 hdx hne
    rw[List.append_nil,e1'] at this
    exact this
   | cons b bs=>
    simp only[List.cons_append,List.cons.injEq] at e2
    obtain⟨rfl,_⟩:=e2
    exact h.ring pre x bs e1 d hd hxd hdx hne
theorem jC.later {H H':Nat→Nat→Bool} {L:List Nat} (h:jC H L) (e:∀x∈L,∀y,y<32→H x y=H' x y):jC H' L:=by
 have inL:∀pre x post,L=pre++x::post→x∈L:=fun pre x post e=>by rw[e];simp
 have back:∀pre x post d,L=pre++x::post→d<32→H' x d=true→d∈L:=fun pre x post d eL hd hx=>h.closed x (inL pre x post eL) d hd (by rw[e x (inL pre x post eL) d hd];exact hx)
 refine⟨h.nodup,h.lt,fun x hx d hd hxd=>h.closed x hx d hd (by rw[e x hx d hd];exact hxd),fun pre x post eL d hd hxd hn=>?_,fun pre x post eL d hd hxd hdx hne=>?_⟩
 ·have hx:=inL pre x post eL
  have hdL:=back pre x post d eL hd hxd
  exact h.behind pre x post eL d hd (by rw[e x hx d hd];exact hxd) (by rw[e d hdL x (h.lt x hx)];exact hn)
 ·have hx:=inL pre x post eL
  have hdL:=back pre x post d eL hd hxd
  exact h.ring pre x post eL d hd (by rw[e x hx d hd];exact hxd) (by rw[e d hdL x (h.lt x hx)];exact hdx) hne
theorem cA.lt {g:aX} {x y:Nat} (h:cA g.adj x y) (hx:x<32):y<32:=by
 induction h using cA.ind with
 | refl=>exact hx
 | step a _ ih=>exact ih (g.adj_lt _ _ a)
theorem oH (g:aX) {n:Nat} (hn:n<32):Clo (bR g) (bR g n):=by
 have lt:∀x,bR g n x=true→x<32:=fun x hx=>((b8 g hn x).1 hx).lt hn
 refine⟨fun x hx _=>(b8 g hx x).2 (.refl x),fun x y z hx h1 h2=>?_,fun x y hx h1=>?_,lt⟩
 ·have hx':=lt x hx
  have h1':=(b8 g hx' y).1 h1
  have hy:=h1'.lt hx'
  exact (b8 g hx' z).2 (h1'.trans ((b8 g hy z).1 h2))
 ·have hx':=lt x hx
  exact (b8 g hn y).2 (((b8 g hn x).1 hx).trans ((b8 g hx' y).1 h1))
theorem mB (g:aX) {n x:Nat} (hn:n<32) (hx:cA g.adj n x) (j:Nat):(fU g n).reach x j=bR g x j:=by
 rw[Bool.eq_iff_iff,b8 g (hx.lt hn) j]
 exact (mW g.adj_lt hn).2.1 x hx j
theorem uU (g:aX) {n x m:Nat} (hn:n<32) (hx:cA g.adj n x) (hm:m<32):eH (fU g n).reach x m=(bR g x m && bR g m x):=by
 have hx':=hx.lt hn
 rw[Bool.eq_iff_iff,Bool.and_eq_true]
 unfold eH
 rw[mI]
 constructor
 ·intro h
  have h1:(fU g n).reach m x=true:=by
   rw[←h x hx',mB g hn hx]
   exact (b8 g hx' x).2 (.refl x)
  have hmn:cA g.adj n m:=by
   cases Classical.em (cA g.adj n m) with
   | inl h=>exact h
   | inr h2=>
    have:=(mW g.adj_lt hn).2.2 m h2 x
    unfold fU at h1
    rw[this] at h1
    cases h1
  rw[mB g hn hmn] at h1
  refine⟨?_,h1⟩
  have h2:=h m hm
  rw[mB g hn hx,mB g hn hmn] at h2
  rw[h2]
  exact (b8 g hm m).2 (.refl m)
 ·rintro⟨h1,h2⟩ j _
  have h1':=(b8 g hx' m).1 h1
  have h2':=(b8 g hm x).1 h2
  rw[mB g hn hx,mB g hn (hx.trans h1'),Bool.eq_iff_iff,b8 g hx',b8 g hm]
  exact⟨fun h=>h2'.trans h,fun h=>h1'.trans h⟩
theorem M4 (g:aX) {n:Nat} (hn:n<32) (x:Nat):decide (0<(fU g n).turn x)=bR g n x:=by
 rw[Bool.eq_iff_iff,decide_eq_true_iff,b8 g hn x,←(mW g.adj_lt hn).1 x]
 unfold fU
 omega
theorem M3 (g:aX) {n x:Nat} (hn:n<32) (placed:Nat→Bool):kU (fU g n).reach (fU g n).turn placed x=jV (bR g) (bR g n) placed x:=by
 unfold kU jV
 rw[M4 g hn]
 cases hd:bR g n x
 ·rfl
 ·have hx:=(b8 g hn x).1 hd
  have hx':=hx.lt hn
  congr 1
  unfold jE
  rw[Bool.eq_iff_iff,List.all_eq_true,List.all_eq_true]
  constructor
  ·intro h m hm
   have:=h m hm
   rw[mB g hn hx,uU g hn hx (List.mem_range.1 hm)] at this
   cases hxm:bR g x m
   ·simp
   ·rw[hxm] at this
    simpa using this
  ·intro h m hm
   have:=h m hm
   rw[mB g hn hx,uU g hn hx (List.mem_range.1 hm)]
   cases hxm:bR g x m
   ·simp
   ·rw[hxm] at this
    simpa using this
theorem KM (g:aX) {n x:Nat} (hn:n<32) (hd:bR g n x=true):mU (fU g n).reach x=gM (bR g) x:=by
 unfold mU gM
 exact List.filter_congr fun m hm=>uU g hn ((b8 g hn x).1 hd) (List.mem_range.1 hm)
theorem KL (g:aX) {n:Nat} (hn:n<32) (placed:Nat→Bool):gA (fU g n).reach (fU g n).turn placed=i5 (bR g) (bR g n) placed:=by
 have e:kU (fU g n).reach (fU g n).turn placed=jV (bR g) (bR g n) placed:=funext fun x=>M3 g hn placed
 unfold gA n8 i5
 rw[e]
 cases hq:(List.range 32).find? (jV (bR g) (bR g n) placed) with
 | none=>rfl
 | some x=>
  have:=List.find?_some hq
  exact KM g hn (jW.1 this).1
theorem DY (g:aX) {n:Nat} (hn:n<32):∀j,dH (fU g n).reach (fU g n).turn j=dS (bR g) (bR g n) j
 | 0=>rfl
 | j+1=>by
  show dH (fU g n).reach (fU g n).turn j++_=dS (bR g) (bR g n) j++_
  rw[DY g hn j,KL g hn]
theorem wK (g:aX) {n:Nat} (hn:n<32):BP g n=dS (bR g) (bR g n) 32:=DY g hn 32
theorem wF {g:aX} {S:Nat→Bool}:iT g S 32=true↔∀i,i<32→S i=true→g.known i=true:=by
 unfold iT
 simp only[List.all_eq_true,List.mem_range,Bool.or_eq_true,Bool.not_eq_true']
 constructor
 ·intro h i hi hs
  rcases h i hi with h | h
  ·rw[hs] at h;cases h
  ·exact h
 ·intro h i hi
  cases hs:S i
  ·exact Or.inl rfl
  ·exact Or.inr (h i hi hs)
structure cX where
 state:Int
 ops:List OpL
 first:List Int
 deps:List Int
 ats:List Int
 vals:List Int
def kE:cX:=⟨0,[],[],[],[],[]⟩
structure aA where
 ent:Nat→cX
 order:List Int
 vals:Nat→Int
def dR:aA:=⟨fun _=>kE,[],fun _=>0⟩
def dO:Int→Nat→List Int→Bool
 | _,_,[]=>true
 | l,n,k::r=>decide (l<k) && decide (k<(n:Int)) && dO k n r
structure EC (e:cX) (n:Nat):Prop where
 st:1≤e.state∧e.state≤3
 ops:bM e.ops=true
 first:bE (-1) e.first=true∧dK e.first n=false
 deps:bE (-1) e.deps=true∧dK e.deps n=false
 asked:e.state=1→e.deps=[]
 told:e.state≠3→e.ats=[]
 ats:dO (-1) e.ops.length e.ats=true
 vals:e.vals.length=e.ats.length
structure bS (s:aA):Prop where
 ent:∀n:Nat,n<32→s.ent n=kE∨EC (s.ent n) n
 cnt:∀n:Nat,n<32→s.order.count (n:Int)=if (s.ent n).state=3 then 1 else 0
 lt:∀x∈s.order,0≤x∧x<32
def aA.ahead (s:aA) (id:Nat) (ops:List OpL) (sh:Int):List Int:=cM (fun n=>n !=id && decide (0<(s.ent n).state) && dJ (s.ent n).ops ops sh) 32
def b7 (sh:Int):Nat→List OpL→(Nat→Int)→(Nat→Int) × List Int × List Int
  | _,[],v=>(v,[],[])
  | i,o::r,v=>
    if o.2.1 % 2 == sh then ((b7 sh (i+1) r (upd v o.2.1.toNat (doL (v o.2.1.toNat) o.1 o.2.2))).1,(i:Int)::(b7 sh (i+1) r (upd v o.2.1.toNat (doL (v o.2.1.toNat) o.1 o.2.2))).2.1,
      doL (v o.2.1.toNat) o.1 o.2.2::(b7 sh (i+1) r (upd v o.2.1.toNat (doL (v o.2.1.toNat) o.1 o.2.2))).2.2)
    else b7 sh (i+1) r v
def aA.exec (s:aA) (sh:Int) (n:Nat):aA:=
 ⟨upd s.ent n ⟨3,(s.ent n).ops,(s.ent n).first,(s.ent n).deps,(b7 sh 0 (s.ent n).ops s.vals).2.1,(b7 sh 0 (s.ent n).ops s.vals).2.2⟩,s.order++[(n:Int)],(b7 sh 0 (s.ent n).ops s.vals).1⟩
def aA.execIf (sh:Int) (s:aA) (m:Nat):aA:=if (s.ent m).state=2 then s.exec sh m else s
def aA.execs (s:aA) (sh:Int) (l:List Nat):aA:=l.foldl (aA.execIf sh) s
def aA.graph (s:aA):aX:=⟨fun i=>decide (2≤(s.ent i).state),fun i=>(s.ent i).deps⟩
def aA.round (g:aX) (sh:Int) (t:aA) (n:Nat):aA:=if (t.ent n).state=2 then t.execs sh (cT g n) else t
def aA.settle (s:aA) (sh:Int):aA:=(List.range 32).foldl (aA.round s.graph sh) s
def aA.heard (s:aA) (sh:Int) (f:aC):aA:={ s with ent:=upd s.ent f.id.toNat ⟨1,f.ops,s.ahead f.id.toNat f.ops sh,[],[],[]⟩ }
def aA.asked (s:aA) (sh:Int) (f:aC):aA:=if (s.ent f.id.toNat).state=0 then s.heard sh f else s
def aA.placed (s:aA) (sh:Int) (f:aC):aA:=
 { s with ent:=upd s.ent f.id.toNat ⟨2,f.ops,if (s.ent f.id.toNat).state=0 then s.ahead f.id.toNat f.ops sh else (s.ent f.id.toNat).first,f.deps,(s.ent f.id.toNat).ats,(s.ent f.id.toNat).vals⟩ }
def aA.commit (s:aA) (sh:Int) (f:aC):aA:=if (s.ent f.id.toNat).state<2 then (s.placed sh f).settle sh else s
def aA.answers (s:aA) (sh who id:Int):List aC:=
 ⟨4,who,id,[],[],[],[]⟩::(if (s.ent id.toNat).state=3∧bK (s.ent id.toNat).ops sh=true then [⟨5,who,id,[],[],(s.ent id.toNat).ats,(s.ent id.toNat).vals⟩] else [])
structure f8 (s t:aA):Prop where
 state:∀n,(s.ent n).state≤(t.ent n).state
 first:∀n,(s.ent n).state≠0→(t.ent n).first=(s.ent n).first
 fixed:∀n,2≤(s.ent n).state→(t.ent n).deps=(s.ent n).deps∧(t.ent n).ops=(s.ent n).ops
 done:∀n,(s.ent n).state=3→t.ent n=s.ent n
 order:∃l,t.order=s.order++l
theorem f8.refl (s:aA):f8 s s:=⟨fun _=>Int.le_refl _,fun _ _=>rfl,fun _ _=>⟨rfl,rfl⟩,fun _ _=>rfl,[],by simp⟩
theorem f8.trans {s t u:aA} (h:f8 s t) (k:f8 t u) (h0:∀n,0≤(s.ent n).state):f8 s u:=by
 refine⟨fun n=>Int.le_trans (h.state n) (k.state n),fun n hn=>?_,fun n hn=>?_,fun n hn=>?_,?_⟩
 ·rw[k.first n (by have:=h.state n;have:=h0 n;omega),h.first n hn]
 ·obtain⟨a,b⟩:=h.fixed n hn
  obtain⟨c,d⟩:=k.fixed n (by have:=h.state n;omega)
  exact⟨c.trans a,d.trans b⟩
 ·rw[k.done n (by rw[h.done n hn];exact hn),h.done n hn]
 ·obtain⟨l,hl⟩:=h.order
  obtain⟨m,hm⟩:=k.order
  exact⟨l++m,by rw[hm,hl,List.append_assoc]⟩
theorem FH (s:aA) (sh:Int) (n:Nat) (h:(s.ent n).state=2):f8 s (s.exec sh n):=by
 have same:(s.exec sh n).ent n=⟨3,(s.ent n).ops,(s.ent n).first,(s.ent n).deps,_,_⟩:=aQ _ _ _
 have other:∀m,m≠n→(s.exec sh n).ent m=s.ent m:=fun m hm=>aI _ _ hm
 refine⟨fun m=>?_,fun m hm=>?_,fun m hm=>?_,fun m hm=>?_,[(n:Int)],rfl⟩
 ·by_cases e:m=n
  ·rw[e,same,h];show (2:Int)≤3;decide
  ·rw[other m e];exact Int.le_refl _
 ·by_cases e:m=n
  ·rw[e,same]
  ·rw[other m e]
 ·by_cases e:m=n
  ·rw[e,same];exact⟨rfl,rfl⟩
  ·rw[other m e];exact⟨rfl,rfl⟩
 ·by_cases e:m=n
  ·rw[e,h] at hm;cases hm
  ·exact other m e
theorem sK (s:aA) (sh:Int) (n:Nat):f8 s (aA.execIf sh s n):=by
 unfold aA.execIf
 split
 ·rename_i h;exact FH s sh n h
 ·exact f8.refl s
theorem uI {α:Type} (f:aA→α→aA) (hf:∀s a,f8 s (f s a)):∀(l:List α) (s:aA),(∀n,0≤(s.ent n).state)→f8 s (l.foldl f s)
 | [],s,_=>f8.refl s
 | a::l,s,h0=>by
  have h1:=hf s a
  exact h1.trans (uI f hf l (f s a) (fun n=>Int.le_trans (h0 n) (h1.state n))) h0
theorem BF (s:aA) (sh:Int) (h0:∀n,0≤(s.ent n).state):f8 s (s.settle sh):=by
 have:∀(l:List Nat) (t:aA),(∀n,0≤(t.ent n).state)→f8 t (l.foldl (aA.round s.graph sh) t):=by
  intro l
  induction l with
  | nil=>exact fun t _=>f8.refl t
  | cons a l ih=>
   intro t ht
   have h1:f8 t (aA.round s.graph sh t a):=by
    unfold aA.round
    split
    ·exact uI _ (fun s a=>sK s sh a) _ _ ht
    ·exact f8.refl t
   exact h1.trans (ih _ (fun n=>Int.le_trans (ht n) (h1.state n))) ht
 exact this _ s h0
theorem jO (s:aA) (sh:Int) (f:aC):(s.heard sh f).ent f.id.toNat=⟨1,f.ops,s.ahead f.id.toNat f.ops sh,[],[],[]⟩:=aQ _ _ _
theorem fB (s:aA) (sh:Int) (f:aC) {m:Nat} (h:m≠f.id.toNat):(s.heard sh f).ent m=s.ent m:=aI _ _ h
theorem uH (s:aA) (sh:Int) (f:aC):f8 s (s.asked sh f):=by
 unfold aA.asked
 split
 ·rename_i h
  refine⟨fun m=>?_,fun m hm=>?_,fun m hm=>?_,fun m hm=>?_,[],by simp[aA.heard]⟩
  ·by_cases e:m=f.id.toNat
   ·subst e;rw[jO,h];show (0:Int)≤1;decide
   ·rw[fB s sh f e];exact Int.le_refl _
  ·by_cases e:m=f.id.toNat
   ·subst e;exact absurd h hm
   ·rw[fB s sh f e]
  ·by_cases e:m=f.id.toNat
   ·subst e;omega
   ·rw[fB s sh f e];exact⟨rfl,rfl⟩
  ·by_cases e:m=f.id.toNat
   ·subst e;omega
   ·exact fB s sh f e
 ·exact f8.refl s
theorem kR (s:aA) (sh:Int) (f:aC):(s.placed sh f).ent f.id.toNat=⟨2,f.ops,if (s.ent f.id.toNat).state=0 then s.ahead f.id.toNat f.ops sh else (s.ent f.id.toNat).first,f.deps,(s.ent f.id.toNat).ats,(s.ent f.id.toNat).vals⟩:=aQ _ _ _
theorem sL (s:aA) (sh:Int) (f:aC) (h:(s.ent f.id.toNat).state<2):f8 s (s.placed sh f):=by
 have same:(s.placed sh f).ent f.id.toNat=⟨2,f.ops,if (s.ent f.id.toNat).state=0 then s.ahead f.id.toNat f.ops sh else (s.ent f.id.toNat).first,f.deps,(s.ent f.id.toNat).ats,(s.ent f.id.toNat).vals⟩:=aQ _ _ _
 have other:∀m,m≠f.id.toNat→(s.placed sh f).ent m=s.ent m:=fun m hm=>aI _ _ hm
 refine⟨fun m=>?_,fun m hm=>?_,fun m hm=>?_,fun m hm=>?_,[],by simp[aA.placed]⟩
 ·by_cases e:m=f.id.toNat
  ·subst e;rw[same];show _≤(2:Int);omega
  ·rw[other m e];exact Int.le_refl _
 ·by_cases e:m=f.id.toNat
  ·subst e;rw[same];show (if _ then _ else _)=_;rw[if_neg hm]
  ·rw[other m e]
 ·by_cases e:m=f.id.toNat
  ·subst e;omega
  ·rw[other m e];exact⟨rfl,rfl⟩
 ·by_cases e:m=f.id.toNat
  ·subst e;omega
  ·exact other m e
theorem BE (s:aA) (sh:Int) (f:aC) (h0:∀n,0≤(s.ent n).state):f8 s (s.commit sh f):=by
 unfold aA.commit
 split
 ·rename_i h
  have h1:=sL s sh f h
  exact h1.trans (BF _ sh (fun n=>Int.le_trans (h0 n) (h1.state n))) h0
 ·exact f8.refl s
theorem JI (xs:List Nat):∀(l:Int),(∀x∈xs,l<(x:Int)∧x<32)→xs.Pairwise (· < ·)→bE l (xs.map Int.ofNat)=true:=by
 induction xs with
 | nil=>intros;rfl
 | cons x r ih=>
  intro l h hp
  have hx:=h x (by simp)
  obtain⟨h1,h2⟩:=List.pairwise_cons.1 hp
  rw[List.map_cons,bE,ih (Int.ofNat x) (fun y hy=>⟨by have:=h1 y hy;simp;omega,(h y (by simp[hy])).2⟩) h2]
  have e1:decide (Int.ofNat x≤l)=false:=by simp;omega
  have e2:decide (32≤Int.ofNat x)=false:=by simp;omega
  rw[e1,e2]
  rfl
theorem tR (s:aA) (id:Nat) (ops:List OpL) (sh:Int):bE (-1) (s.ahead id ops sh)=true:=by
 unfold aA.ahead cM
 refine JI _ _ (fun x hx=>?_) (List.Pairwise.filter _ List.pairwise_lt_range)
 have:=List.mem_range.1 (List.mem_filter.1 hx).1
 omega
theorem yF (s:aA) (id:Nat) (ops:List OpL) (sh:Int):dK (s.ahead id ops sh) id=false:=by
 unfold dK
 rw[List.any_eq_false]
 intro x hx he
 unfold aA.ahead cM at hx
 rw[List.mem_map] at hx
 obtain⟨y,hy,rfl⟩:=hx
 have h1:=(List.mem_filter.1 hy).2
 unfold eqB at he
 have:y=id:=by
  have h2:((y:Nat):Int)=(id:Int):=by simpa using he
  omega
 subst this
 simp at h1
theorem xU (sh:Int):∀(ops:List OpL) (i:Nat) (v:Nat→Int) (l:Int) (N:Nat),l<(i:Int)→i+ops.length≤N→dO l N (b7 sh i ops v).2.1=true
 | [],_,_,_,_,_,_=>rfl
 | o::r,i,v,l,N,h1,h2=>by
  simp only[List.length_cons] at h2
  unfold b7
  split
  ·show (decide (l<(i:Int)) && decide ((i:Int)<(N:Int)) && dO (i:Int) N _)=true
   rw[decide_eq_true h1,decide_eq_true (show (i:Int)<(N:Int) by omega),xU sh r (i+1) _ (i:Int) N (by omega) (by omega)]
   rfl
  ·exact xU sh r (i+1) v l N (by omega) (by omega)
theorem xW (sh:Int):∀(ops:List OpL) (i:Nat) (v:Nat→Int),(b7 sh i ops v).2.2.length=(b7 sh i ops v).2.1.length
 | [],_,_=>rfl
 | o::r,i,v=>by
  unfold b7
  split
  ·simp only[List.length_cons,xW sh r (i+1)]
  ·exact xW sh r (i+1) v
theorem L9:(1:Int)≤3∧(3:Int)≤3:=by decide
theorem NM:(1:Int)≤2∧(2:Int)≤3:=by decide
theorem NZ:(1:Int)≤1∧(1:Int)≤3:=by decide
theorem bS.fine {s:aA} (h:bS s) {n:Nat} (hn:n<32) (hs:(s.ent n).state≠0):EC (s.ent n) n:=by
 rcases h.ent n hn with e | e
 ·rw[e] at hs;exact absurd rfl hs
 ·exact e
theorem bS.state {s:aA} (h:bS s) {n:Nat} (hn:n<32):0≤(s.ent n).state∧(s.ent n).state≤3:=by
 rcases h.ent n hn with e | e
 ·rw[e];decide
 ·have:=e.st;omega
theorem yS {s:aA} (h:bS s) (sh:Int) {n:Nat} (hn:n<32) (hs:(s.ent n).state=2):bS (s.exec sh n):=by
 have F:=h.fine hn (by rw[hs];decide)
 have same:(s.exec sh n).ent n=⟨3,(s.ent n).ops,(s.ent n).first,(s.ent n).deps,(b7 sh 0 (s.ent n).ops s.vals).2.1,(b7 sh 0 (s.ent n).ops s.vals).2.2⟩:=aQ _ _ _
 have other:∀m,m≠n→(s.exec sh n).ent m=s.ent m:=fun m hm=>aI _ _ hm
 refine⟨fun m hm=>?_,fun m hm=>?_,fun x hx=>?_⟩
 ·by_cases e:m=n
  ·subst e
   right
   rw[same]
   exact⟨L9,F.ops,F.first,F.deps,fun h=>absurd (show (3:Int)=1 from h) (by decide),fun h=>absurd rfl h,xU sh (s.ent m).ops 0 s.vals (-1) (s.ent m).ops.length (by omega) (by omega),xW sh _ _ _⟩
  ·rw[other m e];exact h.ent m hm
 ·have h1:=h.cnt m hm
  show (s.order++[(n:Int)]).count (m:Int)=_
  rw[List.count_append,h1]
  by_cases e:m=n
  ·subst e
   rw[same,hs]
   simp
  ·rw[other m e]
   have:List.count (m:Int) [(n:Int)]=0:=by
    rw[List.count_eq_zero]
    simp
    omega
   rw[this]
   rfl
 ·rcases List.mem_append.1 hx with hx | hx
  ·exact h.lt x hx
  ·simp at hx
   omega
theorem lN (sh:Int):∀(l:List Nat) {s:aA},(∀x∈l,x<32)→bS s→bS (s.execs sh l)
 | [],_,_,h=>h
 | a::l,s,hl,h=>by
  have h1:bS (aA.execIf sh s a):=by
   unfold aA.execIf
   split
   ·rename_i e;exact yS h sh (hl a (by simp)) e
   ·exact h
  exact lN (s:=aA.execIf sh s a) sh l (fun x hx=>hl x (by simp[hx])) h1
theorem kQ (g:aX) (n:Int):∀x∈cT g n,x<32:=by
 intro x hx
 unfold cT at hx
 split at hx
 ·exact (mH _ _ 32).lt x hx
 ·simp at hx
theorem CX {s:aA} (h:bS s) (sh:Int):bS (s.settle sh):=by
 have:∀(l:List Nat) (t:aA),bS t→bS (l.foldl (aA.round s.graph sh) t):=by
  intro l
  induction l with
  | nil=>exact fun t ht=>ht
  | cons a l ih=>
   intro t ht
   refine ih _ ?_
   unfold aA.round
   split
   ·exact lN (s:=t) sh _ (kQ _ _) ht
   ·exact ht
 exact this _ s h
theorem kA {f:aC} (h:aM f=0):0≤f.id∧f.id<32∧((f.kind=1∨f.kind=3)→bM f.ops=true)∧(f.kind=3→bE (-1) f.deps=true∧dK f.deps f.id=false):=by
 unfold aM at h
 split at h
 ·cases h
 ·split at h
  ·cases h
  ·rename_i h2
   split at h
   ·rename_i h3
    rw[Bool.and_eq_true,Bool.and_eq_true] at h3
    refine⟨by omega,by omega,fun hk=>?_,fun hk=>?_⟩
    ·have:=h3.1
     unfold eJ at this
     rw[if_pos hk] at this
     exact this
    ·have:=h3.2.1
     unfold dQ at this
     rw[if_pos (Or.inr hk),Bool.and_eq_true] at this
     exact⟨this.1,by simpa using this.2⟩
   ·cases h
theorem E9 {s:aA} (h:bS s) (sh:Int) {f:aC} (hf:aM f=0) (hk:f.kind=1):bS (s.asked sh f):=by
 obtain⟨i1,i2,i3,_⟩:=kA hf
 unfold aA.asked
 split
 ·rename_i e0
  refine⟨fun m hm=>?_,fun m hm=>?_,h.lt⟩
  ·by_cases e:m=f.id.toNat
   ·subst e
    right
    rw[jO]
    exact⟨NZ,i3 (Or.inl hk),⟨tR _ _ _ _,yF _ _ _ _⟩,⟨rfl,rfl⟩,fun _=>rfl,fun _=>rfl,rfl,rfl⟩
   ·rw[fB s sh f e];exact h.ent m hm
  ·have h1:=h.cnt m hm
   show s.order.count (m:Int)=_
   rw[h1]
   by_cases e:m=f.id.toNat
   ·subst e
    rw[jO,e0]
    rfl
   ·rw[fB s sh f e]
 ·exact h
theorem lS {s:aA} (h:bS s) (sh:Int) {f:aC} (hf:aM f=0) (hk:f.kind=3) (hs:(s.ent f.id.toNat).state<2):bS (s.placed sh f):=by
 obtain⟨i1,i2,i3,i4⟩:=kA hf
 have hid:((f.id.toNat:Nat):Int)=f.id:=by omega
 have hlt:f.id.toNat<32:=by omega
 have other:∀m,m≠f.id.toNat→(s.placed sh f).ent m=s.ent m:=fun m hm=>aI _ _ hm
 have hats:(s.ent f.id.toNat).ats=[]∧(s.ent f.id.toNat).vals=[]:=by
  rcases h.ent _ hlt with e | e
  ·rw[e];exact⟨rfl,rfl⟩
  ·have h1:=e.told (by omega)
   exact⟨h1,List.eq_nil_of_length_eq_zero (by rw[e.vals,h1];rfl)⟩
 refine⟨fun m hm=>?_,fun m hm=>?_,h.lt⟩
 ·by_cases e:m=f.id.toNat
  ·subst e
   right
   rw[kR,hats.1,hats.2]
   have hfi:bE (-1) (if (s.ent f.id.toNat).state=0 then s.ahead f.id.toNat f.ops sh else (s.ent f.id.toNat).first)=true∧dK (if (s.ent f.id.toNat).state=0 then s.ahead f.id.toNat f.ops sh else (s.ent f.id.toNat).first) ((f.id.toNat:Nat):Int)=false:=by
    split
    ·exact⟨tR _ _ _ _,yF _ _ _ _⟩
    ·rename_i e0
     exact (h.fine hlt e0).first
   have hdp:bE (-1) f.deps=true∧dK f.deps ((f.id.toNat:Nat):Int)=false:=by rw[hid];exact i4 hk
   exact⟨NM,i3 (Or.inr hk),hfi,hdp,fun h=>absurd (show (2:Int)=1 from h) (by decide),fun _=>rfl,rfl,rfl⟩
  ·rw[other m e];exact h.ent m hm
 ·have h1:=h.cnt m hm
  show s.order.count (m:Int)=_
  rw[h1]
  by_cases e:m=f.id.toNat
  ·subst e
   rw[kR,if_neg (by omega)]
   rfl
  ·rw[other m e]
theorem uD {s:aA} (h:bS s) (sh:Int) {f:aC} (hf:aM f=0) (hk:f.kind=3):bS (s.commit sh f):=by
 unfold aA.commit
 split
 ·rename_i e;exact CX (lS h sh hf hk e) sh
 ·exact h
theorem IH:bS dR:=⟨fun _ _=>Or.inl rfl,fun _ _=>rfl,by simp[dR]⟩
def aX.learn (g:aX) (m:Nat) (zs:List Int):aX:=⟨upd g.known m true,upd g.deps m zs⟩
theorem yW {g:aX} {m:Nat} {zs:List Int} {x:Nat} (hx:x≠m) (y:Nat):(g.learn m zs).adj x y=g.adj x y:=by
 unfold aX.adj aX.learn
 simp only[aI _ _ hx]
theorem CY {g:aX} {m:Nat} {zs:List Int} {x y:Nat} (h:cA g.adj x y) (hm:¬ cA g.adj x m):cA (g.learn m zs).adj x y:=by
 induction h using cA.ind with
 | refl=>exact .refl _
 | step a h ih=>
  rename_i x z y
  have hx:x≠m:=fun e=>hm (e ▸ .refl _)
  exact .step (by rw[yW hx];exact a) (ih (fun h=>hm (.step a h)))
theorem z9 {g:aX} {m:Nat} {zs:List Int} {x y:Nat} (h:cA (g.learn m zs).adj x y) (hm:¬ cA g.adj x m):cA g.adj x y:=by
 induction h using cA.ind with
 | refl=>exact .refl _
 | step a h ih=>
  rename_i x z y
  have hx:x≠m:=fun e=>hm (e ▸ .refl _)
  rw[yW hx] at a
  exact .step a (ih (fun h=>hm (.step a h)))
theorem IS {g:aX} {m:Nat} {zs:List Int} {x:Nat} (hx:x<32) (hm:bR g x m=false) (y:Nat):bR g x y=bR (g.learn m zs) x y:=by
 have hm':¬ cA g.adj x m:=fun h=>by rw[(b8 g hx m).2 h] at hm;cases hm
 rw[Bool.eq_iff_iff,b8 g hx y,b8 (g.learn m zs) hx y]
 exact⟨fun h=>CY h hm',fun h=>z9 h hm'⟩
def aA.did (s:aA):List Nat:=s.order.map Int.toNat
theorem lL {s:aA} (h:bS s) {n:Nat} (hn:n<32):n∈s.did↔(s.ent n).state=3:=by
 have h1:=h.cnt n hn
 unfold aA.did
 rw[List.mem_map]
 constructor
 ·rintro⟨x,hx,e⟩
  have:=h.lt x hx
  have ex:x=(n:Int):=by omega
  subst ex
  have:0<s.order.count (n:Int):=List.count_pos_iff.2 hx
  split at h1
  ·assumption
  ·omega
 ·intro hs
  rw[if_pos hs] at h1
  exact⟨(n:Int),List.count_pos_iff.1 (by omega),by simp⟩
structure gX (s:aA):Prop where
 sorted:jC (bR s.graph) s.did
 ready:∀x∈s.did,∀d,d<32→bR s.graph x d=true→s.graph.known d=true
theorem vZ (s:aA) (sh:Int) (n:Nat) (h:(s.ent n).state=2):(s.exec sh n).graph=s.graph:=by
 have same:(s.exec sh n).ent n=⟨3,(s.ent n).ops,(s.ent n).first,(s.ent n).deps,_,_⟩:=aQ _ _ _
 have other:∀m,m≠n→(s.exec sh n).ent m=s.ent m:=fun m hm=>aI _ _ hm
 have e1:(fun i=>decide (2≤((s.exec sh n).ent i).state))=fun i=>decide (2≤(s.ent i).state):=by
  funext i
  by_cases e:i=n
  ·rw[e,same,h];rfl
  ·rw[other i e]
 have e2:(fun i=>((s.exec sh n).ent i).deps)=fun i=>(s.ent i).deps:=by
  funext i
  by_cases e:i=n
  ·rw[e,same]
  ·rw[other i e]
 unfold aA.graph
 rw[e1,e2]
theorem yK (sh:Int):∀(l:List Nat) (s:aA),l.Nodup→(s.execs sh l).did=s.did++l.filter (fun x=>decide ((s.ent x).state=2))∧(s.execs sh l).graph=s.graph∧∀x,x ∉ l→(s.execs sh l).ent x=s.ent x
 | [],s,_=>⟨by simp[aA.execs],rfl,fun _ _=>rfl⟩
 | a::l,s,hd=>by
  rw[List.nodup_cons] at hd
  obtain⟨i1,i2,i3⟩:=yK sh l (aA.execIf sh s a) hd.2
  have e0:s.execs sh (a::l)=(aA.execIf sh s a).execs sh l:=rfl
  rw[e0,i1,i2]
  by_cases h:(s.ent a).state=2
  ·have e1:aA.execIf sh s a=s.exec sh a:=by unfold aA.execIf;rw[if_pos h]
   have other:∀m,m≠a→(s.exec sh a).ent m=s.ent m:=fun m hm=>aI _ _ hm
   rw[e1] at i3 ⊢
   refine⟨?_,vZ s sh a h,fun x hx=>?_⟩
   ·have hf:l.filter (fun x=>decide (((s.exec sh a).ent x).state=2))=l.filter (fun x=>decide ((s.ent x).state=2)):=List.filter_congr fun x hx=>by rw[other x (fun e=>hd.1 (e ▸ hx))]
    rw[hf,List.filter_cons_of_pos (by simpa using h)]
    unfold aA.did aA.exec
    simp
   ·rw[i3 x (fun h=>hx (by simp[h])),other x (fun e=>hx (by simp[e]))]
  ·have e1:aA.execIf sh s a=s:=by unfold aA.execIf;rw[if_neg h]
   rw[e1] at i3 ⊢
   refine⟨by rw[List.filter_cons_of_neg (by simpa using h)],rfl,fun x hx=>i3 x (fun h=>hx (by simp[h]))⟩
theorem GL {s:aA} (h:bS s) (S:gX s) (sh:Int) {n:Nat} (hn:n<32):gX (s.execs sh (cT s.graph n))∧(s.execs sh (cT s.graph n)).graph=s.graph:=by
 cases hr:iV s.graph (n:Int)
 ·have:cT s.graph (n:Int)=[]:=by unfold cT;rw[hr];rfl
  rw[this]
  exact⟨S,rfl⟩
 ·have hc:=oH s.graph hn
  have eo:cT s.graph (n:Int)=dS (bR s.graph) (bR s.graph n) 32:=by unfold cT;rw[hr,←wK s.graph hn];rfl
  have hk:∀i,i<32→bR s.graph n i=true→s.graph.known i=true:=by
   have h1:=hr
   unfold iV at h1
   rw[Bool.and_eq_true] at h1
   exact wF.1 h1.2
  have L:=nA hc 32
  obtain⟨e1,e2,_⟩:=yK sh (cT s.graph (n:Int)) s (by rw[eo];exact L.nodup)
  refine⟨?_,e2⟩
  have hf:(cT s.graph (n:Int)).filter (fun x=>decide ((s.ent x).state=2))=(dS (bR s.graph) (bR s.graph n) 32).filter fun x=>!s.did.contains x:=by
   rw[eo]
   refine List.filter_congr fun x hx=>?_
   have hd:=L.inD x hx
   have hx32:=hc.lt x hd
   have h2:2≤(s.ent x).state:=by simpa [aA.graph] using hk x hx32 hd
   have h3:=(h.state hx32).2
   have h4:=lL h hx32
   rw[Bool.eq_iff_iff]
   simp only[decide_eq_true_iff,Bool.not_eq_true',List.contains_eq_mem,decide_eq_false_iff_not]
   constructor
   ·intro h5 h6
    have:=h4.1 h6
    omega
   ·intro h5
    have:(s.ent x).state≠3:=fun e=>h5 (h4.2 e)
    omega
  rw[hf] at e1
  refine⟨by rw[e1,e2];exact nO hc S.sorted,fun x hx d hd hxd=>?_⟩
  rw[e2] at hxd ⊢
  rw[e1] at hx
  rcases List.mem_append.1 hx with hx | hx
  ·exact S.ready x hx d hd hxd
  ·have hdx:=L.inD x (List.mem_filter.1 hx).1
   exact hk d hd (hc.closed x d hdx hxd)
theorem DP {s:aA} (h:bS s) (S:gX s) (sh:Int):gX (s.settle sh):=by
 have:∀(l:List Nat) (t:aA),(∀x∈l,x<32)→bS t→gX t→t.graph=s.graph→gX (l.foldl (aA.round s.graph sh) t):=by
  intro l
  induction l with
  | nil=>exact fun t _ _ ht _=>ht
  | cons a l ih=>
   intro t hl hg hS he
   have ha:=hl a (by simp)
   have h1:bS (aA.round s.graph sh t a)∧gX (aA.round s.graph sh t a)∧(aA.round s.graph sh t a).graph=s.graph:=by
    unfold aA.round
    split
    ·rw[←he]
     obtain⟨k1,k2⟩:=GL hg hS sh ha
     exact⟨lN sh _ (kQ _ _) hg,k1,k2⟩
    ·exact⟨hg,hS,he⟩
   exact ih _ (fun x hx=>hl x (by simp[hx])) h1.1 h1.2.1 h1.2.2
 exact this _ s (fun x hx=>List.mem_range.1 hx) h S rfl
theorem pM {s:aA} (h:bS s) (sh:Int) {f:aC} (hf:aM f=0):(s.asked sh f).graph=s.graph:=by
 obtain⟨i1,i2,_,_⟩:=kA hf
 unfold aA.asked
 split
 ·rename_i e0
  have hz:s.ent f.id.toNat=kE:=by
   rcases h.ent f.id.toNat (by omega) with e | e
   ·exact e
   ·have:=e.st;omega
  have e1:(fun i=>decide (2≤((s.heard sh f).ent i).state))=fun i=>decide (2≤(s.ent i).state):=by
   funext i
   by_cases e:i=f.id.toNat
   ·rw[e,jO,hz];rfl
   ·rw[fB s sh f e]
  have e2:(fun i=>((s.heard sh f).ent i).deps)=fun i=>(s.ent i).deps:=by
   funext i
   by_cases e:i=f.id.toNat
   ·rw[e,jO,hz];rfl
   ·rw[fB s sh f e]
  unfold aA.graph
  rw[e1,e2]
 ·rfl
theorem yJ (s:aA) (sh:Int) (f:aC):(s.asked sh f).did=s.did:=by
 unfold aA.asked
 split<;>rfl
theorem GK {s:aA} (h:bS s) (S:gX s) (sh:Int) {f:aC} (hf:aM f=0):gX (s.asked sh f):=by
 refine⟨?_,?_⟩
 ·rw[pM h sh hf,yJ];exact S.sorted
 ·rw[pM h sh hf,yJ];exact S.ready
theorem sI (s:aA) (sh:Int) (f:aC):(s.placed sh f).graph=s.graph.learn f.id.toNat f.deps:=by
 have other:∀m,m≠f.id.toNat→(s.placed sh f).ent m=s.ent m:=fun m hm=>aI _ _ hm
 have e1:(fun i=>decide (2≤((s.placed sh f).ent i).state))=upd (fun i=>decide (2≤(s.ent i).state)) f.id.toNat true:=by
  funext i
  by_cases e:i=f.id.toNat
  ·rw[e,kR,aQ];rfl
  ·rw[other i e,aI _ _ e]
 have e2:(fun i=>((s.placed sh f).ent i).deps)=upd (fun i=>(s.ent i).deps) f.id.toNat f.deps:=by
  funext i
  by_cases e:i=f.id.toNat
  ·rw[e,kR,aQ]
  ·rw[other i e,aI _ _ e]
 unfold aA.graph aX.learn
 rw[e1,e2]
theorem DO {s:aA} (S:gX s) (sh:Int) {f:aC} (hf:aM f=0) (hs:(s.ent f.id.toNat).state<2):gX (s.placed sh f):=by
 obtain⟨i1,i2,_,_⟩:=kA hf
 have hid:f.id.toNat<32:=by omega
 have hunk:s.graph.known f.id.toNat=false:=by
  show decide (2≤(s.ent f.id.toNat).state)=false
  exact decide_eq_false (by omega)
 have hno:∀x∈s.did,bR s.graph x f.id.toNat=false:=by
  intro x hx
  cases hh:bR s.graph x f.id.toNat
  ·rfl
  ·rw[S.ready x hx _ hid hh] at hunk;cases hunk
 have hrow:∀x∈s.did,∀y,y<32→bR s.graph x y=bR (s.graph.learn f.id.toNat f.deps) x y:=fun x hx y _=>IS (S.sorted.lt x hx) (hno x hx) y
 have ed:(s.placed sh f).did=s.did:=rfl
 refine⟨by rw[sI,ed];exact S.sorted.later hrow,fun x hx d hd hxd=>?_⟩
 rw[sI] at hxd ⊢
 rw[ed] at hx
 rw[←hrow x hx d hd] at hxd
 have:=S.ready x hx d hd hxd
 show upd s.graph.known f.id.toNat true d=true
 unfold upd
 split
 ·rfl
 ·exact this
theorem DN {s:aA} (h:bS s) (S:gX s) (sh:Int) {f:aC} (hf:aM f=0) (hk:f.kind=3):gX (s.commit sh f):=by
 unfold aA.commit
 split
 ·rename_i e;exact DP (lS h sh hf hk e) (DO S sh hf e) sh
 ·exact S
theorem JR:gX dR:=⟨oD _,by simp[dR,aA.did]⟩
def gC (e:cX) (n:Nat):Bool:=
 if e.state=0 then e.ops.isEmpty && e.first.isEmpty && e.deps.isEmpty && e.ats.isEmpty && e.vals.isEmpty
 else decide (1≤e.state∧e.state≤3) && bM e.ops && (bE (-1) e.first && !dK e.first n) && (bE (-1) e.deps && !dK e.deps n) && (decide (e.state≠1) || e.deps.isEmpty) &&
  (decide (e.state=3) || e.ats.isEmpty) && dO (-1) e.ops.length e.ats && decide (e.vals.length=e.ats.length)
def iB (s:aA):Bool:=((List.range 32).all fun n=>gC (s.ent n) n && decide (s.order.count (n:Int)=if (s.ent n).state=3 then 1 else 0)) && s.order.all fun x=>decide (0≤x∧x<32)
theorem KO {e:cX} {n:Nat}:gC e n=true↔e=kE∨EC e n:=by
 obtain⟨st,ops,fi,de,ats,vals⟩:=e
 unfold gC
 by_cases h:st=0
 ·subst h
  rw[if_pos rfl]
  constructor
  ·intro h
   simp at h
   obtain⟨⟨⟨⟨rfl,rfl⟩,rfl⟩,rfl⟩,rfl⟩:=h
   exact Or.inl rfl
  ·rintro (h | h)
   ·cases h;rfl
   ·have h1:(1:Int)≤0:=h.st.1
    omega
 ·rw[if_neg h]
  simp only[Bool.and_eq_true,Bool.or_eq_true,decide_eq_true_iff,Bool.not_eq_true',List.isEmpty_iff]
  constructor
  ·rintro⟨⟨⟨⟨⟨⟨⟨h1,h2⟩,h3⟩,h4⟩,h5⟩,h6⟩,h7⟩,h8⟩
   exact Or.inr ⟨h1,h2,h3,h4,fun e=>h5.resolve_left (fun h=>h e),fun e=>h6.resolve_left e,h7,h8⟩
  ·rintro (e | F)
   ·cases e;exact absurd rfl h
   ·refine⟨⟨⟨⟨⟨⟨⟨F.st,F.ops⟩,F.first⟩,F.deps⟩,?_⟩,?_⟩,F.ats⟩,F.vals⟩
    ·by_cases e:st=1
     ·exact Or.inr (F.asked e)
     ·exact Or.inl e
    ·by_cases e:st=3
     ·exact Or.inl e
     ·exact Or.inr (F.told e)
theorem E7 {s:aA}:iB s=true↔bS s:=by
 unfold iB
 simp only[Bool.and_eq_true,List.all_eq_true,List.mem_range,decide_eq_true_iff,KO]
 exact⟨fun h=>⟨fun n hn=>(h.1 n hn).1,fun n hn=>(h.1 n hn).2,h.2⟩,fun h=>⟨fun n hn=>⟨h.ent n hn,h.cnt n hn⟩,h.lt⟩⟩
def aL (s:aA) (who:Int) (f:aC):aA × List aC × Int:=
 if iB s=false∨who<0∨5<who∨f.node≠who then (s,[],2)
 else if aM f≠0 then (s,[],aM f)
 else if f.kind=1 then
  if bK f.ops (ofL who)=false then (s,[],4)
  else (s.asked (ofL who) f,[⟨2,who,f.id,[],((s.asked (ofL who) f).ent f.id.toNat).first,[],[]⟩],0)
 else if f.kind=3 then (s.commit (ofL who) f,(s.commit (ofL who) f).answers (ofL who) who f.id,0)
 else (s,[],3)
theorem dN (s:aA) (who:Int) (f:aC):
    ((aL s who f).2.2≠0∧(aL s who f).1=s∧(aL s who f).2.1=[])∨
    (bS s∧aM f=0∧(aL s who f).2.2=0∧f.node=who∧0≤who∧who≤5∧
      ((f.kind=1∧bK f.ops (ofL who)=true∧aL s who f=(s.asked (ofL who) f,[⟨2,who,f.id,[],((s.asked (ofL who) f).ent f.id.toNat).first,[],[]⟩],0))∨
       (f.kind=3∧aL s who f=(s.commit (ofL who) f,(s.commit (ofL who) f).answers (ofL who) who f.id,0)))):=by
  by_cases h1:iB s=false∨who<0∨5<who∨f.node≠who
  ·left
   have e:aL s who f=(s,[],2):=by unfold aL;rw[if_pos h1]
   rw[e]
   exact⟨(show (2:Int)≠0 by decide),rfl,rfl⟩
  ·by_cases h2:aM f≠0
   ·left
    have e:aL s who f=(s,[],aM f):=by unfold aL;rw[if_neg h1,if_pos h2]
    rw[e]
    exact⟨h2,rfl,rfl⟩
   ·have hg:bS s:=E7.1 (by
       cases h:iB s
       ·exact absurd (Or.inl h) h1
       ·rfl)
    have hn:f.node=who∧0≤who∧who≤5:=by
      refine⟨?_,?_,?_⟩
      ·by_cases e:f.node=who
       ·exact e
       ·exact absurd (Or.inr (Or.inr (Or.inr e))) h1
      ·by_cases e:who<0
       ·exact absurd (Or.inr (Or.inl e)) h1
       ·omega
      ·by_cases e:5<who
       ·exact absurd (Or.inr (Or.inr (Or.inl e))) h1
       ·omega
    have h2':aM f=0:=by omega
    by_cases h3:f.kind=1
    ·by_cases h4:bK f.ops (ofL who)=false
     ·left
      have e:aL s who f=(s,[],4):=by unfold aL;rw[if_neg h1,if_neg h2,if_pos h3,if_pos h4]
      rw[e]
      exact⟨(show (4:Int)≠0 by decide),rfl,rfl⟩
     ·right
      have e:aL s who f=(s.asked (ofL who) f,[⟨2,who,f.id,[],((s.asked (ofL who) f).ent f.id.toNat).first,[],[]⟩],0):=by unfold aL;rw[if_neg h1,if_neg h2,if_pos h3,if_neg h4]
      exact⟨hg,h2',by rw[e],hn.1,hn.2.1,hn.2.2,Or.inl ⟨h3,by simpa using h4,e⟩⟩
    ·by_cases h5:f.kind=3
     ·right
      have e:aL s who f=(s.commit (ofL who) f,(s.commit (ofL who) f).answers (ofL who) who f.id,0):=by unfold aL;rw[if_neg h1,if_neg h2,if_neg h3,if_pos h5]
      exact⟨hg,h2',by rw[e],hn.1,hn.2.1,hn.2.2,Or.inr ⟨h5,e⟩⟩
     ·left
      have e:aL s who f=(s,[],3):=by unfold aL;rw[if_neg h1,if_neg h2,if_neg h3,if_neg h5]
      rw[e]
      exact⟨(show (3:Int)≠0 by decide),rfl,rfl⟩
theorem zN {s:aA} {who:Int} {f:aC} (h:(aL s who f).2.2=0):bS (aL s who f).1:=by
 rcases dN s who f with ⟨h1,_⟩ | ⟨hg,hf,_,_,_,_,⟨hk,_,e⟩ | ⟨hk,e⟩⟩
 ·exact absurd h h1
 ·rw[e];exact E9 hg _ hf hk
 ·rw[e];exact uD hg _ hf hk
theorem JX {s:aA} {who:Int} {f:aC} (S:gX s):gX (aL s who f).1:=by
 rcases dN s who f with ⟨_,h1,_⟩ | ⟨hg,hf,_,_,_,_,⟨hk,_,e⟩ | ⟨hk,e⟩⟩
 ·rw[h1];exact S
 ·rw[e];exact GK hg S _ hf
 ·rw[e];exact DN hg S _ hf hk
theorem mY (s:aA) (who:Int) (f:aC) (h0:∀n,0≤(s.ent n).state):f8 s (aL s who f).1:=by
 rcases dN s who f with ⟨_,h1,_⟩ | ⟨_,_,_,_,_,_,⟨_,_,e⟩ | ⟨_,e⟩⟩
 ·rw[h1];exact f8.refl s
 ·rw[e];exact uH s _ f
 ·rw[e];exact BE s _ f h0
structure iR (ok:Nat→Prop) (w:World) (nv:Nat→Value) (o:Nat) (e:cX):Prop where
 state:nv o= .int .i64 e.state
 ops:IsO ok w (nv (o+1)) e.ops
 first:IsI ok w (nv (o+2)) e.first
 deps:IsI ok w (nv (o+3)) e.deps
 ats:IsI ok w (nv (o+4)) e.ats
 vals:IsI ok w (nv (o+5)) e.vals
theorem iR.later {ok:Nat→Prop} {w w':World} {nv:Nat→Value} {o:Nat} {e:cX} (h:iR ok w nv o e) (hB:bI ok w w'):iR ok w' nv o e:=
 ⟨h.state,h.ops.later hB,h.first.later hB,h.deps.later hB,h.ats.later hB,h.vals.later hB⟩
theorem iR.mono {ok ok':Nat→Prop} {w:World} {nv:Nat→Value} {o:Nat} {e:cX} (h:iR ok w nv o e) (hk:∀k,k<w.heap.size→ok k→ok' k):iR ok' w nv o e:=
 ⟨h.state,h.ops.mono hk,h.first.mono hk,h.deps.mono hk,h.ats.mono hk,h.vals.mono hk⟩
theorem iR.same {ok:Nat→Prop} {w:World} {nv nv':Nat→Value} {o o':Nat} {e:cX} (h:iR ok w nv o e) (hn:∀j,j<6→nv' (o'+j)=nv (o+j)):iR ok w nv' o' e:=
 ⟨by have:=hn 0 (by omega);simp only[Nat.add_zero] at this;rw[this];exact h.state,by rw[hn 1 (by omega)];exact h.ops,by rw[hn 2 (by omega)];exact h.first,by rw[hn 3 (by omega)];exact h.deps,by rw[hn 4 (by omega)];exact h.ats,by rw[hn 5 (by omega)];exact h.vals⟩
theorem iR.one {ok:Nat→Prop} {w:World} {nv:Nat→Value} {o:Nat} {e:cX} (h:iR ok w nv o e):∀j,j<6→(nv (o+j)).oneCell'=true:=by
 intro j hj
 match j,hj with
 | 0,_=>rw[Nat.add_zero,h.state];rfl
 | 1,_=>exact h.ops.one
 | 2,_=>exact h.first.one
 | 3,_=>exact h.deps.one
 | 4,_=>exact h.ats.one
 | 5,_=>exact h.vals.one
structure jG (ok:Nat→Prop) (w:World) (nv:Nat→Value) (s:aA):Prop where
 ent:∀i,i<32→iR ok w nv (i*6) (s.ent i)
 vals:∀k,k<8→nv (193+k)= .int .i64 (s.vals k)
structure bP (ok:Nat→Prop) (w:World) (nv:Nat→Value) (s:aA):Prop where
 es:jG ok w nv s
 order:IsI ok w (nv 192) s.order
theorem jG.later {ok:Nat→Prop} {w w':World} {nv:Nat→Value} {s:aA} (h:jG ok w nv s) (hB:bI ok w w'):jG ok w' nv s:=⟨fun i hi=>(h.ent i hi).later hB,h.vals⟩
theorem jG.mono {ok ok':Nat→Prop} {w:World} {nv:Nat→Value} {s:aA} (h:jG ok w nv s) (hk:∀k,k<w.heap.size→ok k→ok' k):jG ok' w nv s:=⟨fun i hi=>(h.ent i hi).mono hk,h.vals⟩
theorem bP.later {ok:Nat→Prop} {w w':World} {nv:Nat→Value} {s:aA} (h:bP ok w nv s) (hB:bI ok w w'):bP ok w' nv s:=⟨h.es.later hB,h.order.later hB⟩
theorem bP.mono {ok ok':Nat→Prop} {w:World} {nv:Nat→Value} {s:aA} (h:bP ok w nv s) (hk:∀k,k<w.heap.size→ok k→ok' k):bP ok' w nv s:=⟨h.es.mono hk,h.order.mono hk⟩
theorem bP.below {w w':World} {nv:Nat→Value} {s:aA} (h:bP (· <w.heap.size) w nv s) (hb:Below w.heap.size w w'):bP (· <w'.heap.size) w' nv s:=
 (h.later (bI.of_size hb)).mono (fun k _ (h:k<w.heap.size)=>by have:=hb.size;show k<_;omega)
theorem bP.any {ok:Nat→Prop} {w:World} {nv:Nat→Value} {s:aA} (h:bP ok w nv s):bP (· <w.heap.size) w nv s:=h.mono (fun _ h _=>h)
theorem bP.one {ok:Nat→Prop} {w:World} {nv:Nat→Value} {s:aA} (h:bP ok w nv s):∀i,i<201→(nv i).oneCell'=true:=by
 intro i hi
 by_cases h1:i<192
 ·have:=(h.es.ent (i / 6) (by omega)).one (i % 6) (by omega)
  rw[show i / 6*6+i % 6=i by omega] at this
  exact this
 ·by_cases h2:i=192
  ·subst h2;exact h.order.one
  ·have:=h.es.vals (i-193) (by omega)
   rw[show 193+(i-193)=i by omega] at this
   rw[this];rfl
def cX.nums (e:cX) (f:Nat):List Int:=if f=2 then e.first else if f=3 then e.deps else if f=4 then e.ats else e.vals
def cY (ok:Nat→Prop) (w:World) (e:cX) (f:Nat) (v:Value):Prop:=if f=0 then v= .int .i64 e.state else if f=1 then IsO ok w v e.ops else IsI ok w v (e.nums f)
theorem iR.get {ok:Nat→Prop} {w:World} {nv:Nat→Value} {o:Nat} {e:cX} (h:iR ok w nv o e):∀f,f<6→cY ok w e f (nv (o+f)):=by
 intro f hf
 match f,hf with
 | 0,_=>exact h.state
 | 1,_=>exact h.ops
 | 2,_=>exact h.first
 | 3,_=>exact h.deps
 | 4,_=>exact h.ats
 | 5,_=>exact h.vals
theorem iR.of {ok:Nat→Prop} {w:World} {nv:Nat→Value} {o:Nat} {e:cX} (h:∀f,f<6→cY ok w e f (nv (o+f))):iR ok w nv o e:=
 ⟨h 0 (by omega),h 1 (by omega),h 2 (by omega),h 3 (by omega),h 4 (by omega),h 5 (by omega)⟩
theorem jG.change {ok:Nat→Prop} {w:World} {nv nv':Nat→Value} {s:aA} (h:jG ok w nv s) {k:Nat} {e':cX} (he:∀f,f<6→cY ok w e' f (nv' (k*6+f)))
  (ho:∀i,i<201→(i<k*6∨k*6+6≤i)→i≠192→nv' i=nv i) (hk:k<32) (o:List Int):jG ok w nv' ⟨upd s.ent k e',o,s.vals⟩:=by
 refine⟨fun i hi=>?_,fun j hj=>?_⟩
 ·by_cases e:i=k
  ·subst e
   show iR ok w nv' (i*6) (upd s.ent i e' i)
   rw[aQ]
   exact iR.of he
  ·show iR ok w nv' (i*6) (upd s.ent k e' i)
   rw[aI _ _ e]
   exact (h.ent i hi).same (fun j hj=>ho _ (by omega) (by omega) (by omega))
 ·rw[ho _ (by omega) (by omega) (by omega)]
  exact h.vals j hj
theorem bP.put {ok:Nat→Prop} {w:World} {nv:Nat→Value} {s:aA} (h:bP ok w nv s) {k f:Nat} (hk:k<32) (hf:f<6) {v:Value} (hv:cY ok w (s.ent k) f v):bP ok w (fun i=>if i=k*6+f then v else nv i) s:=by
 refine⟨⟨fun i hi=>iR.of fun g hg=>?_,fun j hj=>?_⟩,?_⟩
 ·show cY ok w (s.ent i) g (if i*6+g=k*6+f then v else nv (i*6+g))
  by_cases e:i*6+g=k*6+f
  ·obtain rfl:i=k:=by omega
   obtain rfl:g=f:=by omega
   rw[if_pos rfl]
   exact hv
  ·rw[if_neg e]
   exact (h.es.ent i hi).get g hg
 ·show (if 193+j=k*6+f then v else nv (193+j))=_
  rw[if_neg (by omega)]
  exact h.es.vals j hj
 ·show IsI ok w (if 192=k*6+f then v else nv 192) _
  rw[if_neg (by omega)]
  exact h.order
theorem Tryz.infoNode:(Tryz.prog.info? 32).map (·.size)=some 201:=by kernel_rfl
theorem Tryz.infoEnts:(Tryz.prog.info? 29).map (·.size)=some 192:=by kernel_rfl
theorem Tryz.infoEntry:(Tryz.prog.info? 28).map (·.size)=some 6:=by kernel_rfl
structure aE where
 begun:Bool
 fixed:Bool
 ops:List OpL
 told:Nat→Bool
 known:Nat→Bool
 deps:List Int
 has:Nat→Bool
 vals:Nat→Int
def cB:aE:=⟨false,false,[],fun _=>false,fun _=>false,[],fun _=>false,fun _=>0⟩
def AN (n:Nat) (p:Nat→Bool):Bool:=(List.range n).all fun i=>!p i
def eB (c:aE):Bool:=
 if c.begun then bM c.ops && bE (-1) c.deps
 else !c.fixed && c.ops.isEmpty && AN 6 c.told && AN 6 c.known && c.deps.isEmpty && AN 4 c.has && (List.range 4).all fun i=>c.vals i == 0
def iA (a b:List Int):List Int:=cM (fun i=>a.contains (i:Int) || b.contains (i:Int)) 32
def aE.lacks (c:aE) (sh:Int):Bool:=(List.range c.ops.length).any fun i=>j7 sh (c.ops.getD i (0,0,0)) && !c.has i
def aE.send (c:aE) (id:Int) (n:Nat):List aC:=
 if c.fixed then (if !c.known n || c.lacks (ofL n) then [⟨3,n,id,c.ops,c.deps,[],[]⟩] else [])
 else if bK c.ops (ofL n) && !c.told n then [⟨1,n,id,c.ops,[],[],[]⟩] else []
def cR (c:aE) (id:Int):List aC:=
 if eB c=false∨c.begun=false∨id<0∨32≤id∨dK c.deps id=true then [] else (List.range 6).flatMap (c.send id)
def bF (id:Int) (ops:List OpL):aE × List aC × Int:=
 if id<0∨32≤id then (cB,[],2) else if bM ops=false then (cB,[],1)
 else ({ cB with begun:=true,ops:=ops },cR { cB with begun:=true,ops:=ops } id,0)
def j6 (t:Nat→Bool) (sh:Nat):Nat:=((List.range 3).filter fun k=>t (sh*3+k)).length
def dZ (ops:List OpL) (t:Nat→Bool):Bool:=(!bK ops 0 || decide (2≤j6 t 0)) && (!bK ops 1 || decide (2≤j6 t 1))
def aE.hear (c:aE) (f:aC):aE:=
 { c with told:=upd c.told f.node.toNat true,deps:=iA c.deps f.deps,fixed:=dZ c.ops (upd c.told f.node.toNat true) }
def aE.done1 (sh:Int) (c:aE) (p:Int × Int):aE:=
 if p.1<c.ops.length∧j7 sh (c.ops.getD p.1.toNat (0,0,0))=true∧c.has p.1.toNat=false then { c with has:=upd c.has p.1.toNat true,vals:=upd c.vals p.1.toNat p.2 } else c
def aE.dones (c:aE) (sh:Int) (l:List (Int × Int)):aE:=l.foldl (aE.done1 sh) c
def aP (c:aE) (id:Int) (f:aC):aE × List aC × Int:=
 if eB c=false∨c.begun=false∨f.id≠id∨dK c.deps id=true then (c,[],2)
 else if aM f≠0 then (c,[],aM f)
 else if f.kind=1∨f.kind=3 then (c,[],3)
 else if f.kind=2 then
  if c.fixed=true∨c.told f.node.toNat=true∨bK c.ops (ofL f.node)=false then (c,[],0)
  else (c.hear f,if (c.hear f).fixed then cR (c.hear f) id else [],0)
 else if c.fixed=false then (c,[],0)
 else if f.kind=4 then ({ c with known:=upd c.known f.node.toNat true },[],0)
 else (c.dones (ofL f.node) (f.ats.zip f.vals),[],0)
def bN (c:aE):List Int × Bool:=
 if c.begun=false∨eB c=false∨c.lacks 0=true∨c.lacks 1=true then ([],false) else ((List.range c.ops.length).map c.vals,true)
structure lH (c d:aE):Prop where
 begun:d.begun=c.begun
 fixed:d.fixed=c.fixed
 ops:d.ops=c.ops
 told:d.told=c.told
 deps:d.deps=c.deps
theorem lH.refl (c:aE):lH c c:=⟨rfl,rfl,rfl,rfl,rfl⟩
theorem lH.trans {a b c:aE} (h:lH a b) (k:lH b c):lH a c:=⟨k.begun.trans h.begun,k.fixed.trans h.fixed,k.ops.trans h.ops,k.told.trans h.told,k.deps.trans h.deps⟩
def jZ (c d:aE):Prop:=∀i,c.has i=true→d.has i=true∧d.vals i=c.vals i
theorem jZ.refl (c:aE):jZ c c:=fun _ h=>⟨h,rfl⟩
theorem jZ.trans {a b c:aE} (h:jZ a b) (k:jZ b c):jZ a c:=fun i hi=>⟨(k i (h i hi).1).1,((k i (h i hi).1).2).trans (h i hi).2⟩
theorem CS (sh:Int) (c:aE) (p:Int × Int):lH c (aE.done1 sh c p)∧jZ c (aE.done1 sh c p):=by
 unfold aE.done1
 split
 ·rename_i h
  refine⟨⟨rfl,rfl,rfl,rfl,rfl⟩,fun i hi=>?_⟩
  have hne:i≠p.1.toNat:=fun e=>by rw[e,h.2.2] at hi;cases hi
  exact⟨by show upd _ _ _ i=true;rw[aI _ _ hne];exact hi,aI _ _ hne⟩
 ·exact⟨lH.refl c,jZ.refl c⟩
theorem pL (sh:Int):∀(l:List (Int × Int)) (c:aE),lH c (c.dones sh l)∧jZ c (c.dones sh l)
 | [],c=>⟨lH.refl c,jZ.refl c⟩
 | p::l,c=>by
  have h1:=CS sh c p
  have h2:=pL sh l (aE.done1 sh c p)
  exact⟨h1.1.trans h2.1,h1.2.trans h2.2⟩
theorem gF (c:aE) (id:Int) (f:aC):
  ((aP c id f).2.2≠0∧(aP c id f).1=c∧(aP c id f).2.1=[])∨
  ((aP c id f).2.2=0∧aM f=0∧f.kind=2∧c.fixed=false∧c.told f.node.toNat=false∧bK c.ops (ofL f.node)=true∧(aP c id f).1=c.hear f∧((aP c id f).2.1≠[]→(c.hear f).fixed=true))∨
  ((aP c id f).2.2=0∧(aP c id f).2.1=[]∧(f.kind=2→c.fixed=true∨c.told f.node.toNat=true∨bK c.ops (ofL f.node)=false)∧lH c (aP c id f).1∧jZ c (aP c id f).1∧(c.fixed=false→(aP c id f).1=c)):=by
 unfold aP
 split
 ·left;exact⟨(show (2:Int)≠0 by decide),rfl,rfl⟩
 ·split
  ·rename_i h;left;exact⟨h,rfl,rfl⟩
  ·rename_i hg
   have hg:aM f=0:=by
    by_cases e:aM f=0
    ·exact e
    ·exact absurd e hg
   split
   ·left;exact⟨(show (3:Int)≠0 by decide),rfl,rfl⟩
   ·split
    ·rename_i hk
     split
     ·rename_i h
      right;right
      exact⟨rfl,rfl,fun _=>h,lH.refl c,jZ.refl c,fun _=>rfl⟩
     ·rename_i h
      right;left
      have h1:c.fixed=false:=by cases e:c.fixed;rfl;exact absurd (Or.inl e) h
      have h2:c.told f.node.toNat=false:=by cases e:c.told f.node.toNat;rfl;exact absurd (Or.inr (Or.inl e)) h
      have h3:bK c.ops (ofL f.node)=true:=by cases e:bK c.ops (ofL f.node);exact absurd (Or.inr (Or.inr e)) h;rfl
      refine⟨rfl,hg,hk,h1,h2,h3,rfl,fun hn=>?_⟩
      cases e:(c.hear f).fixed
      ·exact absurd (by show (if (c.hear f).fixed=true then _ else _)=_;rw[e];rfl) hn
      ·rfl
    ·rename_i hk
     split
     ·right;right
      exact⟨rfl,rfl,fun e=>absurd e hk,lH.refl c,jZ.refl c,fun _=>rfl⟩
     ·rename_i hf
      split
      ·right;right
       exact⟨rfl,rfl,fun e=>absurd e hk,⟨rfl,rfl,rfl,rfl,rfl⟩,jZ.refl c,fun e=>absurd e hf⟩
      ·right;right
       have h1:=pL (ofL f.node) (f.ats.zip f.vals) c
       exact⟨rfl,rfl,fun e=>absurd e hk,h1.1,h1.2,fun e=>absurd e hf⟩
structure NT (ops:List OpL) (c:aE) (t:Nat→Bool) (d:List Int):Prop where
 begun:c.begun=true
 eops:c.ops=ops
 told:c.told=t
 deps:c.deps=d
 most:c.fixed=true→dZ ops t=true
theorem yP {id:Int} {ops:List OpL} (h:(bF id ops).2.2=0):NT ops (bF id ops).1 (fun _=>false) []∧bM ops=true∧0≤id∧id<32:=by
 unfold bF at *
 split at h
 ·exact absurd h (show (2:Int)≠0 by decide)
 ·rename_i h1
  split at h
  ·exact absurd h (show (1:Int)≠0 by decide)
  ·rename_i h2
   rw[if_neg h1,if_neg h2]
   refine⟨⟨rfl,rfl,rfl,rfl,fun e=>(by cases e)⟩,?_,?_,?_⟩
   ·cases e:bM ops
    ·exact absurd e h2
    ·rfl
   ·by_cases e:id<0
    ·exact absurd (Or.inl e) h1
    ·omega
   ·by_cases e:32≤id
    ·exact absurd (Or.inr e) h1
    ·omega
structure nS (ops:List OpL) (c:aE):Prop where
 begun:c.begun=true
 eops:c.ops=ops
 good:eB c=true
 none:c.fixed=false→∀i,c.has i=false
theorem yV {c:aE} (h0:c.lacks 0=false) (h1:c.lacks 1=false) {i:Nat} (hi:i<c.ops.length):c.has i=true:=by
 unfold aE.lacks at h0 h1
 rw[List.any_eq_false] at h0 h1
 have g0:=h0 i (List.mem_range.2 hi)
 have g1:=h1 i (List.mem_range.2 hi)
 cases e:c.has i
 ·rw[e] at g0 g1
  simp[j7] at g0 g1
  omega
 ·rfl
theorem yT {c:aE} (h:∀i,i<c.ops.length→c.has i=true) (sh:Int):c.lacks sh=false:=by
 unfold aE.lacks
 rw[List.any_eq_false]
 intro i hi
 rw[h i (List.mem_range.1 hi)]
 simp
theorem BX {ops:List OpL} {c:aE} (h:nS ops c) (hr:(bN c).2=true):(∀i,i<ops.length→c.has i=true)∧(bN c).1=(List.range ops.length).map c.vals:=by
 unfold bN at *
 split at hr
 ·cases hr
 ·rename_i hn
  rw[if_neg hn,h.eops]
  refine⟨fun i hi=>yV ?_ ?_ (by rw[h.eops];exact hi),rfl⟩
  ·cases e:c.lacks 0
   ·rfl
   ·exact absurd (Or.inr (Or.inr (Or.inl e))) hn
  ·cases e:c.lacks 1
   ·rfl
   ·exact absurd (Or.inr (Or.inr (Or.inr e))) hn
theorem NH {ops:List OpL} {c:aE} (h:nS ops c) (hr:(bN c).2=true) (hg:bM ops=true):(bN c).1.length=ops.length∧c.fixed=true:=by
 obtain⟨h1,h2⟩:=BX h hr
 refine⟨by rw[h2];simp,?_⟩
 have hp:0<ops.length:=by
  unfold bM at hg
  simp at hg
  omega
 cases e:c.fixed
 ·have:=h.none e 0
  rw[h1 0 hp] at this
  cases this
 ·rfl
theorem LW (xs:List Nat):∀(l:Int),(∀x∈xs,l<(x:Int)∧x<32)→xs.Pairwise (· < ·)→bE l (xs.map Int.ofNat)=true:=by
 induction xs with
 | nil=>intros;rfl
 | cons x r ih=>
  intro l h hp
  have hx:=h x (by simp)
  obtain⟨h1,h2⟩:=List.pairwise_cons.1 hp
  rw[List.map_cons,bE,ih (Int.ofNat x) (fun y hy=>⟨by have:=h1 y hy;simp;omega,(h y (by simp[hy])).2⟩) h2]
  have e1:decide (Int.ofNat x≤l)=false:=by simp;omega
  have e2:decide (32≤Int.ofNat x)=false:=by simp;omega
  rw[e1,e2]
  rfl
theorem FF (a b:List Int):bE (-1) (iA a b)=true:=by
 refine LW _ _ (fun x hx=>?_) (List.Pairwise.filter _ List.pairwise_lt_range)
 have:=List.mem_range.1 (List.mem_filter.1 hx).1
 omega
theorem zH {id:Int} {ops:List OpL} (h:(bF id ops).2.2=0):nS ops (bF id ops).1:=by
 obtain⟨hf,hg,_⟩:=yP h
 have e:(bF id ops).1={ cB with begun:=true,ops:=ops }:=by
  unfold bF at *
  split at h
  ·exact absurd h (show (2:Int)≠0 by decide)
  ·rename_i h1
   split at h
   ·exact absurd h (show (1:Int)≠0 by decide)
   ·rename_i h2
    rw[if_neg h1,if_neg h2]
 rw[e]
 refine⟨rfl,rfl,?_,fun _ _=>rfl⟩
 unfold eB
 rw[if_pos rfl]
 show (bM ops && bE (-1) [])=true
 rw[hg]
 rfl
theorem kD {c:aE} (hb:c.begun=true):eB c=(bM c.ops && bE (-1) c.deps):=by unfold eB;rw[if_pos hb]
theorem BY {ops:List OpL} {c:aE} {id:Int} {f:aC} (h:nS ops c):nS ops (aP c id f).1∧jZ c (aP c id f).1:=by
 have hg:=h.good
 rw[kD h.begun,Bool.and_eq_true] at hg
 rcases gF c id f with ⟨_,h1,_⟩ | ⟨_,_,_,hf,_,_,he,_⟩ | ⟨_,_,_,hs,hk,hc⟩
 ·rw[h1];exact⟨h,jZ.refl c⟩
 ·rw[he]
  refine⟨⟨h.begun,h.eops,?_,fun _ i=>h.none hf i⟩,fun i hi=>⟨hi,rfl⟩⟩
  rw[kD (c:=c.hear f) h.begun,Bool.and_eq_true]
  exact⟨hg.1,FF _ _⟩
 ·refine⟨⟨hs.begun.trans h.begun,hs.ops.trans h.eops,?_,fun e i=>?_⟩,hk⟩
  ·rw[kD (hs.begun.trans h.begun),hs.ops,hs.deps,Bool.and_eq_true];exact hg
  ·have e1:c.fixed=false:=by rw[←hs.fixed];exact e
   rw[hc e1];exact h.none e1 i
structure CaseC (ok:Nat→Prop) (w:World) (nv:Nat→Value) (c:aE):Prop where
 begun:nv 0= .bool c.begun
 fixed:nv 1= .bool c.fixed
 ops:IsO ok w (nv 2) c.ops
 told:∀i,i<6→nv (3+i)= .bool (c.told i)
 known:∀i,i<6→nv (9+i)= .bool (c.known i)
 deps:IsI ok w (nv 15) c.deps
 has:∀i,i<4→nv (16+i)= .bool (c.has i)
 vals:∀i,i<4→nv (20+i)= .int .i64 (c.vals i)
theorem CaseC.later {ok:Nat→Prop} {w w':World} {nv:Nat→Value} {c:aE} (h:CaseC ok w nv c) (hB:bI ok w w'):CaseC ok w' nv c:=
 ⟨h.begun,h.fixed,h.ops.later hB,h.told,h.known,h.deps.later hB,h.has,h.vals⟩
theorem CaseC.mono {ok ok':Nat→Prop} {w:World} {nv:Nat→Value} {c:aE} (h:CaseC ok w nv c) (hk:∀k,k<w.heap.size→ok k→ok' k):CaseC ok' w nv c:=
 ⟨h.begun,h.fixed,h.ops.mono hk,h.told,h.known,h.deps.mono hk,h.has,h.vals⟩
theorem CaseC.below {w w':World} {nv:Nat→Value} {c:aE} (h:CaseC (· <w.heap.size) w nv c) (hb:Below w.heap.size w w'):CaseC (· <w'.heap.size) w' nv c:=
 (h.later (bI.of_size hb)).mono (fun k _ (h:k<w.heap.size)=>by have:=hb.size;show k<_;omega)
theorem CaseC.any {ok:Nat→Prop} {w:World} {nv:Nat→Value} {c:aE} (h:CaseC ok w nv c):CaseC (· <w.heap.size) w nv c:=h.mono (fun _ h _=>h)
theorem CaseC.one {ok:Nat→Prop} {w:World} {nv:Nat→Value} {c:aE} (h:CaseC ok w nv c):∀i,i<24→(nv i).oneCell'=true:=by
 intro i hi
 by_cases h0:i=0
 ·subst h0;rw[h.begun];rfl
 by_cases h1:i=1
 ·subst h1;rw[h.fixed];rfl
 by_cases h2:i=2
 ·subst h2;exact h.ops.one
 by_cases h3:i<9
 ·have:=h.told (i-3) (by omega)
  rw[show 3+(i-3)=i by omega] at this
  rw[this];rfl
 by_cases h4:i<15
 ·have:=h.known (i-9) (by omega)
  rw[show 9+(i-9)=i by omega] at this
  rw[this];rfl
 by_cases h5:i=15
 ·subst h5;exact h.deps.one
 by_cases h6:i<20
 ·have:=h.has (i-16) (by omega)
  rw[show 16+(i-16)=i by omega] at this
  rw[this];rfl
 ·have:=h.vals (i-20) (by omega)
  rw[show 20+(i-20)=i by omega] at this
  rw[this];rfl
def zcv (i:Nat):Value:=if i=2∨i=15 then .slice none 0 0 else if 20≤i then .int .i64 0 else .bool false
theorem oS (ok:Nat→Prop) (w:World):CaseC ok w zcv cB:=
 ⟨rfl,rfl,IsO.nil ok w,fun i hi=>by
   unfold zcv;rw[if_neg (by omega),if_neg (by omega)];rfl,fun i hi=>by
   unfold zcv;rw[if_neg (by omega),if_neg (by omega)];rfl,IsI.nil ok w,fun i hi=>by
   unfold zcv;rw[if_neg (by omega),if_neg (by omega)];rfl,fun i hi=>by
   unfold zcv;rw[if_neg (by omega),if_pos (by omega)];rfl⟩
theorem Tryz.infoCase:(Tryz.prog.info? 47).map (·.size)=some 24:=by kernel_rfl
theorem Tryz.zeroCase:(Tryz.prog.info? 47).map (·.zero)=some (some (.agg (aB 24 zcv))):=by kernel_rfl
def fT (e:cX):List OpL × List Int × List Int × Bool × Bool:=(e.ops,e.first,e.deps,decide (1≤e.state),decide (2≤e.state))
theorem yO (s:aA) (sh:Int) {n:Nat} (h:(s.ent n).state=2) (i:Nat):fT ((s.exec sh n).ent i)=fT (s.ent i):=by
 by_cases e:i=n
 ·subst e
  have:(s.exec sh i).ent i=⟨3,(s.ent i).ops,(s.ent i).first,(s.ent i).deps,_,_⟩:=aQ _ _ _
  rw[this]
  unfold fT
  rw[h]
  rfl
 ·have:(s.exec sh n).ent i=s.ent i:=aI _ _ e
  rw[this]
theorem CU (s:aA) (sh:Int) (n i:Nat):fT ((aA.execIf sh s n).ent i)=fT (s.ent i):=by
 unfold aA.execIf
 split
 ·rename_i h;exact yO s sh h i
 ·rfl
theorem vU (sh:Int) (i:Nat):∀(l:List Nat) (s:aA),fT ((s.execs sh l).ent i)=fT (s.ent i)
 | [],_=>rfl
 | n::l,s=>(vU sh i l (aA.execIf sh s n)).trans (CU s sh n i)
theorem wR (g:aX) (sh:Int) (i:Nat):∀(l:List Nat) (s:aA),fT ((l.foldl (aA.round g sh) s).ent i)=fT (s.ent i)
 | [],_=>rfl
 | n::l,s=>by
  refine (wR g sh i l (aA.round g sh s n)).trans ?_
  unfold aA.round
  split
  ·exact vU sh i _ s
  ·rfl
theorem uP (s:aA) (sh:Int) (i:Nat):fT ((s.settle sh).ent i)=fT (s.ent i):=wR _ sh i _ s
theorem mX {s:aA} {who:Int} {f:aC} {i:Nat} (hi:i≠f.id.toNat):fT ((aL s who f).1.ent i)=fT (s.ent i):=by
 rcases dN s who f with ⟨_,h1,_⟩ | ⟨_,_,_,_,_,_,⟨_,_,e⟩ | ⟨_,e⟩⟩
 ·rw[h1]
 ·rw[e]
  show fT ((s.asked _ f).ent i)=_
  unfold aA.asked
  split
  ·rw[fB s _ f hi]
  ·rfl
 ·rw[e]
  show fT ((s.commit _ f).ent i)=_
  unfold aA.commit
  split
  ·rw[uP]
   have:(s.placed (ofL who) f).ent i=s.ent i:=aI _ _ hi
   rw[this]
  ·rfl
theorem nX {s:aA} {who:Int} {f:aC} (h0:(aL s who f).2.2=0) (hk:f.kind=1):
  (aL s who f).1.ent f.id.toNat=if (s.ent f.id.toNat).state=0 then ⟨1,f.ops,s.ahead f.id.toNat f.ops (ofL who),[],[],[]⟩ else s.ent f.id.toNat:=by
 rcases dN s who f with ⟨h1,_⟩ | ⟨_,_,_,_,_,_,⟨_,_,e⟩ | ⟨hk3,_⟩⟩
 ·exact absurd h0 h1
 ·rw[e]
  show (s.asked _ f).ent _=_
  unfold aA.asked
  split
  ·exact jO s _ f
  ·rfl
 ·omega
theorem lZ {s:aA} {who:Int} {f:aC} (h0:(aL s who f).2.2=0) (hk:f.kind=3):
  fT ((aL s who f).1.ent f.id.toNat)=if (s.ent f.id.toNat).state<2 then (f.ops,(if (s.ent f.id.toNat).state=0 then s.ahead f.id.toNat f.ops (ofL who) else (s.ent f.id.toNat).first),f.deps,true,true) else fT (s.ent f.id.toNat):=by
 rcases dN s who f with ⟨h1,_⟩ | ⟨_,_,_,_,_,_,⟨hk1,_,_⟩ | ⟨_,e⟩⟩
 ·exact absurd h0 h1
 ·omega
 ·rw[e]
  show fT ((s.commit _ f).ent _)=_
  unfold aA.commit
  split
  ·rw[uP,kR]
   rfl
  ·rfl
theorem EL {e:cX} {a:List OpL} {b c:List Int} {d g:Bool} (h:fT e=(a,b,c,d,g)):e.ops=a∧e.first=b∧e.deps=c∧decide (1≤e.state)=d∧decide (2≤e.state)=g:=by
 unfold fT at h
 simp only[Prod.mk.injEq] at h
 exact h
theorem mA {e e':cX} (h:fT e=fT e'):e.ops=e'.ops∧e.first=e'.first∧e.deps=e'.deps∧((1≤e.state)↔(1≤e'.state))∧((2≤e.state)↔(2≤e'.state)):=by
 unfold fT at h
 simp only[Prod.mk.injEq,decide_eq_decide] at h
 exact h
theorem oX {s:aA} {id:Nat} {ops:List OpL} {sh:Int} {x:Nat}:(x:Int)∈s.ahead id ops sh↔x<32∧x≠id∧0<(s.ent x).state∧dJ (s.ent x).ops ops sh=true:=by
 unfold aA.ahead cM
 simp[and_assoc]
 constructor
 ·rintro⟨a,h1,h2,h3,h4,e⟩
  obtain rfl:a=x:=by omega
  exact⟨h1,h2,h3,h4⟩
 ·rintro⟨h1,h2,h3,h4⟩
  exact⟨x,h1,h2,h3,h4,rfl⟩
theorem wJ (o p:OpL):nM o p=nM p o:=by
 unfold nM
 rw[Bool.or_comm (o.1 !=1)]
 have:(o.2.1 == p.2.1)=(p.2.1 == o.2.1):=by
  rw[Bool.eq_iff_iff,beq_iff_eq,beq_iff_eq]
  exact eq_comm
 rw[this]
theorem mO (a b:List OpL) (s:Int):dJ a b s=true↔∃o∈a,∃p∈b,o.2.1 % 2=s∧nM o p=true:=by
 simp only[dJ,oV,sN,List.any_eq_true,Bool.and_eq_true,beq_iff_eq]
 constructor
 ·rintro⟨o,ho,hs,p,hp,hm⟩
  exact⟨o,ho,p,hp,hs,hm⟩
 ·rintro⟨o,ho,p,hp,hs,hm⟩
  exact⟨o,ho,hs,p,hp,hm⟩
theorem vA {o p:OpL} (h:nM o p=true):o.2.1=p.2.1:=by
 unfold nM at h
 simp at h
 exact h.1
theorem rK (a b:List OpL) (s:Int):dJ a b s=dJ b a s:=by
 rw[Bool.eq_iff_iff,mO,mO]
 constructor
 ·rintro⟨o,ho,p,hp,hs,hm⟩
  exact⟨p,hp,o,ho,by rw[←vA hm];exact hs,by rw[wJ];exact hm⟩
 ·rintro⟨o,ho,p,hp,hs,hm⟩
  exact⟨p,hp,o,ho,by rw[←vA hm];exact hs,by rw[wJ];exact hm⟩
theorem uT {a b:List OpL} {s:Int} (h:dJ a b s=true):bK a s=true∧bK b s=true:=by
 obtain⟨o,ho,p,hp,hs,hm⟩:=(mO a b s).1 h
 constructor
 ·exact List.any_eq_true.2 ⟨o,ho,by simp[j7,hs]⟩
 ·exact List.any_eq_true.2 ⟨p,hp,by simp[j7,←vA hm,hs]⟩
structure Sys where
 B:Nat→aA
 C:Nat→aE
 M:aC→Prop
def tH (f:aC):Prop:=(0≤f.node∧f.node<6)∧0≤f.id∧f.id<32
structure fH (S:Sys):Prop where
 good:∀n,n<6→bS (S.B n)
 rng:∀f,S.M f→tH f
 ask:∀f,S.M f→f.kind=1→(S.C f.id.toNat).begun=true∧f.ops=(S.C f.id.toNat).ops
 com:∀f,S.M f→f.kind=3→((S.C f.id.toNat).begun=true∧(S.C f.id.toNat).fixed=true)∧f.ops=(S.C f.id.toNat).ops∧f.deps=(S.C f.id.toNat).deps
 tel:∀f,S.M f→f.kind=2→1≤((S.B f.node.toNat).ent f.id.toNat).state∧f.deps=((S.B f.node.toNat).ent f.id.toNat).first
 don:∀f,S.M f→f.kind=5→((S.B f.node.toNat).ent f.id.toNat).state=3∧f.ats=((S.B f.node.toNat).ent f.id.toNat).ats∧f.vals=((S.B f.node.toNat).ent f.id.toNat).vals
 ent1:∀n,n<6→∀i,i<32→1≤((S.B n).ent i).state→(S.C i).begun=true∧((S.B n).ent i).ops=(S.C i).ops
 ent2:∀n,n<6→∀i,i<32→2≤((S.B n).ent i).state→(S.C i).fixed=true∧((S.B n).ent i).deps=(S.C i).deps
 told:∀i,i<32→∀n,n<6→(S.C i).told n=true→1≤((S.B n).ent i).state∧∀d∈((S.B n).ent i).first,d∈(S.C i).deps
 conf:∀n,n<6→∀x y,x<32→y<32→x≠y→1≤((S.B n).ent x).state→1≤((S.B n).ent y).state→dJ (S.C x).ops (S.C y).ops (ofL n)=true→(y:Int)∈((S.B n).ent x).first∨(x:Int)∈((S.B n).ent y).first
 most:∀i,i<32→(S.C i).fixed=true→(S.C i).begun=true∧dZ (S.C i).ops (S.C i).told=true
theorem qP {a b:List Int} {x:Nat}:(x:Int)∈iA a b↔x<32∧((x:Int)∈a∨(x:Int)∈b):=by
 unfold iA cM
 simp
 constructor
 ·rintro⟨y,⟨h1,h2⟩,e⟩
  obtain rfl:y=x:=by omega
  exact⟨h1,h2⟩
 ·rintro⟨h1,h2⟩
  exact⟨x,⟨h1,h2⟩,rfl⟩
theorem IP {a b:List Int} {d:Int} (h:d∈a) (h0:0≤d∧d<32):d∈iA a b:=by
 obtain⟨x,rfl⟩:=Int.eq_ofNat_of_zero_le h0.1
 exact qP.2 ⟨by omega,Or.inl h⟩
theorem FE {a b:List Int} {d:Int} (h:d∈b) (h0:0≤d∧d<32):d∈iA a b:=by
 obtain⟨x,rfl⟩:=Int.eq_ofNat_of_zero_le h0.1
 exact qP.2 ⟨by omega,Or.inr h⟩
theorem A5 {s:aA} (h:bS s) {i:Nat} (hi:i<32):∀d∈(s.ent i).first,0≤d∧d<32:=by
 intro d hd
 rcases h.ent i hi with e | F
 ·rw[e] at hd;simp[kE] at hd
 ·have:=(sX _ _ F.first.1).1 d hd
  omega
theorem D1 (n:Nat):ofL (n:Int)=if n<3 then 0 else 1:=by
 unfold ofL
 by_cases h:n<3
 ·rw[if_pos h,if_pos (by omega)]
 ·rw[if_neg h,if_neg (by omega)]
theorem fH.node {S:Sys} (h:fH S) {f:aC} (hM:S.M f) (hk:f.kind=1∨f.kind=3) (h0:(aL (S.B f.node.toNat) f.node f).2.2=0):
  fH ⟨upd S.B f.node.toNat (aL (S.B f.node.toNat) f.node f).1,S.C,fun g=>S.M g∨g∈(aL (S.B f.node.toNat) f.node f).2.1⟩:=by
 obtain⟨hr1,hr2⟩:=h.rng f hM
 have hn6:f.node.toNat<6:=by omega
 have hi32:f.id.toNat<32:=by omega
 have hnat:(f.node.toNat:Int)=f.node:=by omega
 have hG:=h.good _ hn6
 obtain⟨s,hs⟩:=zNm (S.B f.node.toNat)
 obtain⟨T,hT⟩:=zNm (aL (S.B f.node.toNat) f.node f)
 rw[←hT] at h0 ⊢
 have hT':T=aL s f.node f:=by rw[hs];exact hT
 rw[←hs] at hG
 have h00:(aL s f.node f).2.2=0:=by rw[←hT'];exact h0
 have hst0:∀i,i<32→0≤(s.ent i).state:=fun i hi=>(hG.state hi).1
 have hG':bS T.1:=by rw[hT'];exact zN h00
 have hops:f.ops=(S.C f.id.toNat).ops∧(S.C f.id.toNat).begun=true:=by
  rcases hk with e | e
  ·exact⟨(h.ask f hM e).2,(h.ask f hM e).1⟩
  ·exact⟨(h.com f hM e).2.1,(h.com f hM e).1.1⟩
 have other:∀i,i≠f.id.toNat→fT (T.1.ent i)=fT (s.ent i):=fun i hi=>by rw[hT'];exact mX hi
 have mine:((s.ent f.id.toNat).state=0→(T.1.ent f.id.toNat).first=s.ahead f.id.toNat f.ops (ofL f.node))∧((s.ent f.id.toNat).state≠0→(T.1.ent f.id.toNat).first=(s.ent f.id.toNat).first)∧
   (T.1.ent f.id.toNat).ops=(S.C f.id.toNat).ops∧1≤(T.1.ent f.id.toNat).state∧(2≤(T.1.ent f.id.toNat).state→(S.C f.id.toNat).fixed=true∧(T.1.ent f.id.toNat).deps=(S.C f.id.toNat).deps):=by
  have hold1:(s.ent f.id.toNat).state≠0→(s.ent f.id.toNat).ops=(S.C f.id.toNat).ops:=fun e=>by
   have:=h.ent1 _ hn6 _ hi32 (by rw[←hs];have:=hst0 _ hi32;omega)
   rw[←hs] at this
   exact this.2
  have hold2:2≤(s.ent f.id.toNat).state→(S.C f.id.toNat).fixed=true∧(s.ent f.id.toNat).deps=(S.C f.id.toNat).deps:=fun e=>by
   have:=h.ent2 _ hn6 _ hi32 (by rw[←hs];exact e)
   rw[←hs] at this
   exact this
  rcases hk with hk | hk
  ·have e:=nX h00 hk
   rw[←hT'] at e
   by_cases z:(s.ent f.id.toNat).state=0
   ·rw[if_pos z] at e
    rw[e]
    exact⟨fun _=>rfl,fun c=>absurd z c,hops.1,by simp,fun c=>absurd c (by simp)⟩
   ·rw[if_neg z] at e
    rw[e]
    exact⟨fun c=>absurd c z,fun _=>rfl,hold1 z,by have:=hst0 _ hi32;omega,hold2⟩
  ·have e:=lZ h00 hk
   rw[←hT'] at e
   by_cases l:(s.ent f.id.toNat).state<2
   ·rw[if_pos l] at e
    obtain⟨e1,e2,e3,e4,e5⟩:=EL e
    refine⟨fun z=>by rw[e2,if_pos z],fun z=>by rw[e2,if_neg z],by rw[e1];exact hops.1,of_decide_eq_true e4,fun _=>⟨(h.com f hM hk).1.2,by rw[e3];exact (h.com f hM hk).2.2⟩⟩
   ·rw[if_neg l] at e
    obtain⟨e1,e2,e3,e4,e5⟩:=mA e
    exact⟨fun z=>by omega,fun _=>e2,by rw[e1];exact hold1 (by omega),by rw[e4];omega,fun c=>by rw[e3];exact hold2 (e5.1 c)⟩
 have keep1:∀i,i<32→1≤(s.ent i).state→1≤(T.1.ent i).state∧(T.1.ent i).first=(s.ent i).first:=fun i hi h1=>by
  by_cases e:i=f.id.toNat
  ·subst e
   exact⟨mine.2.2.2.1,mine.2.1 (by omega)⟩
  ·obtain⟨_,e2,_,e4,_⟩:=mA (other i e)
   exact⟨e4.2 h1,e2⟩
 have hdone:∀i,(s.ent i).state=3→T.1.ent i=s.ent i:=fun i hi=>by
  rcases dN s f.node f with ⟨_,e1,_⟩ | ⟨_,_,_,_,_,_,⟨_,_,e⟩ | ⟨_,e⟩⟩
  ·rw[hT',e1]
  ·rw[hT',e];exact (uH s _ f).done i hi
  ·rw[hT',e]
   show (s.commit _ f).ent i=_
   unfold aA.commit
   split
   ·rename_i l
    have p1:=sL s (ofL f.node) f l
    have hp:(s.placed (ofL f.node) f).ent i=s.ent i:=p1.done i hi
    have:∀(l:List Nat) (t:aA) (g:aX),(t.ent i).state=3→(l.foldl (aA.round g (ofL f.node)) t).ent i=t.ent i:=by
     intro l
     induction l with
     | nil=>intros;rfl
     | cons a l ih=>
      intro t g ht
      have h2:(aA.round g (ofL f.node) t a).ent i=t.ent i:=by
       unfold aA.round
       split
       ·have:∀(l:List Nat) (t:aA),(t.ent i).state=3→(l.foldl (aA.execIf (ofL f.node)) t).ent i=t.ent i:=by
         intro l
         induction l with
         | nil=>intros;rfl
         | cons b l ih2=>
          intro t ht
          have h3:=(sK t (ofL f.node) b).done i ht
          show (l.foldl _ (aA.execIf _ t b)).ent i=_
          rw[ih2 _ (by rw[h3];exact ht),h3]
        exact this _ t ht
       ·rfl
      show (l.foldl _ (aA.round g _ t a)).ent i=_
      rw[ih _ g (by rw[h2];exact ht),h2]
    unfold aA.settle
    rw[this _ _ _ (by rw[hp];exact hi),hp]
   ·rfl
 have at_:∀m,upd S.B f.node.toNat T.1 m=if m=f.node.toNat then T.1 else S.B m:=fun m=>rfl
 have hans:∀g∈T.2.1,g.node=f.node∧g.id=f.id∧(g.kind=2→g.deps=(T.1.ent f.id.toNat).first)∧(g.kind=5→(T.1.ent f.id.toNat).state=3∧g.ats=(T.1.ent f.id.toNat).ats∧g.vals=(T.1.ent f.id.toNat).vals)∧g.kind≠1∧g.kind≠3:=by
  intro g hg
  rcases dN s f.node f with ⟨_,_,e1⟩ | ⟨_,_,_,_,_,_,⟨_,_,e⟩ | ⟨_,e⟩⟩
  ·rw[hT',e1] at hg;simp at hg
  ·rw[hT',e] at hg ⊢
   simp at hg
   subst hg
   exact⟨rfl,rfl,fun _=>rfl,fun c=>absurd c (by simp),by simp,by simp⟩
  ·rw[hT',e] at hg ⊢
   have hg:g∈(s.commit (ofL f.node) f).answers (ofL f.node) f.node f.id:=hg
   unfold aA.answers at hg
   rcases List.mem_cons.1 hg with rfl | hg
   ·exact⟨rfl,rfl,fun c=>absurd c (by simp),fun c=>absurd c (by simp),by simp,by simp⟩
   ·split at hg
    ·rename_i hc
     simp at hg
     subst hg
     exact⟨rfl,rfl,fun c=>absurd c (by simp),fun _=>⟨hc.1,rfl,rfl⟩,by simp,by simp⟩
    ·simp at hg
 refine⟨fun m hm=>?_,fun g hg=>?_,fun g hg hk=>?_,fun g hg hk=>?_,fun g hg hk=>?_,fun g hg hk=>?_,fun m hm i hi h1=>?_,fun m hm i hi h2=>?_,fun i hi m hm ht=>?_,fun m hm x y hx hy hxy h1 h2 hc=>?_,h.most⟩
 ·show bS (upd S.B f.node.toNat T.1 m)
  rw[at_]
  split
  ·exact hG'
  ·exact h.good m hm
 ·rcases hg with hg | hg
  ·exact h.rng g hg
  ·obtain⟨a1,a2,_⟩:=hans g hg
   unfold tH
   rw[a1,a2]
   exact⟨hr1,hr2⟩
 ·rcases hg with hg | hg
  ·exact h.ask g hg hk
  ·exact absurd hk (hans g hg).2.2.2.2.1
 ·rcases hg with hg | hg
  ·exact h.com g hg hk
  ·exact absurd hk (hans g hg).2.2.2.2.2
 ·show 1≤((upd S.B f.node.toNat T.1 g.node.toNat).ent g.id.toNat).state∧g.deps=((upd S.B f.node.toNat T.1 g.node.toNat).ent g.id.toNat).first
  rw[at_]
  rcases hg with hg | hg
  ·obtain⟨t1,t2⟩:=h.tel g hg hk
   have hgr:=h.rng g hg
   split
   ·rename_i e
    rw[e,←hs] at t1 t2
    obtain⟨k1,k2⟩:=keep1 g.id.toNat (by have:=hgr.2;omega) t1
    exact⟨k1,by rw[k2];exact t2⟩
   ·exact⟨t1,t2⟩
  ·obtain⟨a1,a2,a3,_⟩:=hans g hg
   rw[a1,a2,if_pos rfl]
   exact⟨mine.2.2.2.1,a3 hk⟩
 ·show ((upd S.B f.node.toNat T.1 g.node.toNat).ent g.id.toNat).state=3∧g.ats=((upd S.B f.node.toNat T.1 g.node.toNat).ent g.id.toNat).ats∧g.vals=((upd S.B f.node.toNat T.1 g.node.toNat).ent g.id.toNat).vals
  rw[at_]
  rcases hg with hg | hg
  ·obtain⟨t1,t2⟩:=h.don g hg hk
   split
   ·rename_i e
    rw[e,←hs] at t1 t2
    rw[hdone _ t1]
    exact⟨t1,t2⟩
   ·exact⟨t1,t2⟩
  ·obtain⟨a1,a2,_,a4,_⟩:=hans g hg
   rw[a1,a2,if_pos rfl]
   exact a4 hk
 ·have h1:1≤((upd S.B f.node.toNat T.1 m).ent i).state:=h1
  show (S.C i).begun=true∧((upd S.B f.node.toNat T.1 m).ent i).ops=(S.C i).ops
  rw[at_] at h1 ⊢
  split
  ·rename_i e
   rw[if_pos e] at h1
   by_cases ei:i=f.id.toNat
   ·subst ei
    exact⟨hops.2,mine.2.2.1⟩
   ·obtain⟨e1,_,_,e4,_⟩:=mA (other i ei)
    rw[e1]
    have:=h.ent1 m hm i hi (by rw[e,←hs];exact e4.1 h1)
    rw[e,←hs] at this
    exact this
  ·rename_i e
   rw[if_neg e] at h1
   exact h.ent1 m hm i hi h1
 ·have h2:2≤((upd S.B f.node.toNat T.1 m).ent i).state:=h2
  show (S.C i).fixed=true∧((upd S.B f.node.toNat T.1 m).ent i).deps=(S.C i).deps
  rw[at_] at h2 ⊢
  split
  ·rename_i e
   rw[if_pos e] at h2
   by_cases ei:i=f.id.toNat
   ·subst ei
    exact mine.2.2.2.2 h2
   ·obtain⟨_,_,e3,_,e5⟩:=mA (other i ei)
    rw[e3]
    have:=h.ent2 m hm i hi (by rw[e,←hs];exact e5.1 h2)
    rw[e,←hs] at this
    exact this
  ·rename_i e
   rw[if_neg e] at h2
   exact h.ent2 m hm i hi h2
 ·obtain⟨t1,t2⟩:=h.told i hi m hm ht
  show 1≤((upd S.B f.node.toNat T.1 m).ent i).state∧∀d∈((upd S.B f.node.toNat T.1 m).ent i).first,d∈(S.C i).deps
  rw[at_]
  split
  ·rename_i e
   rw[e,←hs] at t1 t2
   obtain⟨k1,k2⟩:=keep1 i hi t1
   exact⟨k1,by rw[k2];exact t2⟩
  ·exact⟨t1,t2⟩
 ·have g1:1≤((upd S.B f.node.toNat T.1 m).ent x).state:=h1
  have g2:1≤((upd S.B f.node.toNat T.1 m).ent y).state:=h2
  clear h1 h2
  have hc:dJ (S.C x).ops (S.C y).ops (ofL m)=true:=hc
  show (y:Int)∈((upd S.B f.node.toNat T.1 m).ent x).first∨(x:Int)∈((upd S.B f.node.toNat T.1 m).ent y).first
  rw[at_] at g1 g2 ⊢
  by_cases e:m=f.node.toNat
  ·rw[if_pos e] at g1 g2 ⊢
   subst e
   rw[hnat] at hc
   have old:1≤(s.ent x).state→1≤(s.ent y).state→(y:Int)∈(T.1.ent x).first∨(x:Int)∈(T.1.ent y).first:=fun o1 o2=>by
    rw[(keep1 x hx o1).2,(keep1 y hy o2).2]
    have:=h.conf _ hn6 x y hx hy hxy (by rw[←hs];exact o1) (by rw[←hs];exact o2) (by rw[hnat];exact hc)
    rw[←hs] at this
    exact this
   by_cases ex:x=f.id.toNat
   ·subst ex
    have hy1:1≤(s.ent y).state:=(mA (other y (Ne.symm hxy))).2.2.2.1.1 g2
    by_cases z:(s.ent f.id.toNat).state=0
    ·left
     rw[mine.1 z]
     refine oX.2 ⟨hy,Ne.symm hxy,by omega,?_⟩
     have hyo:=h.ent1 _ hn6 y hy (by rw[←hs];exact hy1)
     rw[←hs] at hyo
     rw[hyo.2,hops.1,rK]
     exact hc
    ·exact old (by have:=hst0 _ hi32;omega) hy1
   ·by_cases ey:y=f.id.toNat
    ·subst ey
     have hx1:1≤(s.ent x).state:=(mA (other x ex)).2.2.2.1.1 g1
     by_cases z:(s.ent f.id.toNat).state=0
     ·right
      rw[mine.1 z]
      refine oX.2 ⟨hx,ex,by omega,?_⟩
      have hxo:=h.ent1 _ hn6 x hx (by rw[←hs];exact hx1)
      rw[←hs] at hxo
      rw[hxo.2,hops.1]
      exact hc
     ·exact old hx1 (by have:=hst0 _ hi32;omega)
    ·exact old ((mA (other x ex)).2.2.2.1.1 g1) ((mA (other y ey)).2.2.2.1.1 g2)
  ·rw[if_neg e] at g1 g2 ⊢
   exact h.conf m hm x y hx hy hxy g1 g2 hc
end Go.Proofs.YtkoefoccbjhoiacGreat
