/-
squeezed by tools/squeeze.py from: GSort GLink Small Ops Good Rising Codec NodeL NodeG GLearn NodeS NodeT PostL
-/
import Derived.Test.YtkoefoccbjhoiacGreatTopb2
import Derived.Test.YtkoefoccbjhoiacGreatTopb1
set_option linter.unusedVariables false
set_option linter.unusedSimpArgs false
set_option maxRecDepth 100000
set_option maxHeartbeats 16000000
namespace Go.Proofs.YtkoefoccbjhoiacGreat
open Go.RowKit
def qL (H:Nat→Nat→Bool) (out:List Nat):Prop:=
 ∀pre x post,out=pre++x::post→∀d,d<32→H x d=true→H d x=true→d≠x→(d∈pre↔d<x)
theorem FY (H:Nat→Nat→Bool) (x:Nat):(gO H x).Pairwise (· < ·):=List.Pairwise.filter _ List.pairwise_lt_range
theorem DK {r1 r2:List Nat} {x d:Nat} (h:(r1++x::r2).Pairwise (· < ·)) (hd:d∈r1++x::r2) (hx:d≠x):d∈r1↔d<x:=by
 rw[List.pairwise_append,List.pairwise_cons] at h
 obtain⟨_,⟨h2,_⟩,h3⟩:=h
 constructor
 ·intro h1
  exact h3 d h1 x (by simp)
 ·intro h1
  rcases List.mem_append.1 hd with h4 | h4
  ·exact h4
  ·rcases List.mem_cons.1 h4 with h5 | h5
   ·exact absurd h5 hx
   ·have:=h2 d h5
    omega
theorem zM {H:Nat→Nat→Bool} {D:Nat→Bool} (hc:Clo H D) {out:List Nat} (L:xD H D out) (h:qL H out):qL H (out++iX H D (fun i=>out.contains i)):=by
 rcases kT H D (fun i=>out.contains i) with ⟨h1,_⟩ | ⟨y,h1,h2,_,h4⟩
 ·rw[h1,List.append_nil];exact h
 ·rw[h4]
  obtain⟨m1,m2,_⟩:=jY.1 h2
  have hy:y ∉ out:=by simpa using m2
  have ring:∀r1 x r2,gO H y=r1++x::r2→∀d,d<32→H x d=true→H d x=true→d≠x→(d∈out++r1↔d<x):=by
   intro r1 x r2 e d hd hxd hdx hne
   have hx:x∈gO H y:=by rw[e];simp
   have hq:=iD.1 hx
   have dx:=hc.closed y x m1 hq.2.1
   have dd:=hc.closed x d dx hxd
   have hyd:=hc.trans y x d m1 hq.2.1 hxd
   have hdy:=hc.trans d x y dd hdx hq.2.2
   have hr:d∈gO H y:=iD.2 ⟨hd,hyd,hdy⟩
   have hno:d ∉ out:=fun ho=>hy (L.rings d y h1 hdy hyd ho)
   have hs:=FY H y
   rw[e] at hs hr
   rw[←DK hs hr hne,List.mem_append]
   exact⟨fun h=>h.resolve_left hno,Or.inr⟩
  intro pre x post e d hd hxd hdx hne
  rw[List.append_eq_append_iff] at e
  rcases e with ⟨qs,e1,e2⟩ | ⟨bs,e1,e2⟩
  ·rw[e1]
   exact ring qs x post e2 d hd hxd hdx hne
  ·cases bs with
   | nil=>
    have e2':gO H y=[]++x::post:=by simpa using e2.symm
    have e1':out=pre:=by simpa using e1
    have:=ring [] x post e2' d hd hxd hdx hne
    rw[List.append_nil,e1'] at this
    exact this
   | cons b bs=>
    simp only[List.cons_append,List.cons.injEq] at e2
    obtain⟨rfl,_⟩:=e2
    exact h pre x bs e1 d hd hxd hdx hne
theorem tZ {H:Nat→Nat→Bool} {D:Nat→Bool} (hc:Clo H D):∀j,qL H (dV H D j)
 | 0=>by intro pre x post e;simp[dV] at e
 | j+1=>zM hc (nE hc j) (tZ hc j)
structure j1 (H:Nat→Nat→Bool) (L:List Nat):Prop where
 nodup:L.Nodup
 lt:∀x∈L,x<32
 closed:∀x∈L,∀d,d<32→H x d=true→d∈L
 behind:∀pre x post,L=pre++x::post→∀d,d<32→H x d=true→H d x=false→d∈pre
 ring:qL H L
theorem GE (H:Nat→Nat→Bool):j1 H []:=⟨.nil,by simp,by simp,by intro pre x post e;simp at e,by intro pre x post e;simp at e⟩
theorem oN {p:Nat→Bool}:∀{out pre post:List Nat} {x:Nat},out.filter p=pre++x::post→∃a b,out=a++x::b∧a.filter p=pre∧b.filter p=post
 | [],pre,post,x,h=>by simp at h
 | y::out,pre,post,x,h=>by
  cases hp:p y
  ·rw[List.filter_cons_of_neg (by simp[hp])] at h
   obtain⟨a,b,h1,h2,h3⟩:=oN h
   exact⟨y::a,b,by rw[h1];rfl,by rw[List.filter_cons_of_neg (by simp[hp])];exact h2,h3⟩
  ·rw[List.filter_cons_of_pos hp] at h
   cases pre with
   | nil=>
    simp at h
    exact⟨[],out,by rw[h.1];rfl,rfl,h.2⟩
   | cons z pre=>
    simp at h
    obtain⟨a,b,h1,h2,h3⟩:=oN h.2
    exact⟨y::a,b,by rw[h1];rfl,by rw[List.filter_cons_of_pos hp,h2,h.1],h3⟩
theorem DJ {H:Nat→Nat→Bool} {D:Nat→Bool} (hc:Clo H D) {L:List Nat} (h:j1 H L):j1 H (L++(dV H D 32).filter fun x=>!L.contains x):=by
 have La:=nE hc 32
 have Nu:=tZ hc 32
 have mem:∀x,x∈(dV H D 32).filter (fun x=>!L.contains x)↔D x=true∧x ∉ L:=by
  intro x
  rw[List.mem_filter,BM hc x]
  simp
 have all:∀x,D x=true→x∈L++(dV H D 32).filter fun x=>!L.contains x:=by
  intro x hx
  by_cases hl:x∈L
  ·exact List.mem_append_left _ hl
  ·exact List.mem_append_right _ ((mem x).2 ⟨hx,hl⟩)
 have new:∀p1 x p2,(dV H D 32).filter (fun x=>!L.contains x)=p1++x::p2→∀d,d<32→H x d=true→(H d x=false→d∈L++p1)∧(H d x=true→d≠x→(d∈L++p1↔d<x)):=by
  intro p1 x p2 e d hd hxd
  obtain⟨a,b,e1,e2,_⟩:=oN e
  have hx:=(mem x).1 (by rw[e];simp)
  have dd:=hc.closed x d hx.1 hxd
  have inA:∀z,z ∉ L→(z∈p1↔z∈a):=by
   intro z hz
   rw[←e2,List.mem_filter]
   simp[hz]
  refine⟨fun hn=>?_,fun hb hne=>?_⟩
  ·rcases La.behind a x b e1 d hd hxd with h1 | h1
   ·by_cases hl:d∈L
    ·exact List.mem_append_left _ hl
    ·exact List.mem_append_right _ ((inA d hl).2 h1)
   ·rw[hn] at h1;cases h1
  ·have hl:d ∉ L:=fun hl=>hx.2 (h.closed d hl x (hc.lt x hx.1) hb)
   rw[List.mem_append,inA d hl,←Nu a x b e1 d hd hxd hb hne]
   exact⟨fun h=>h.resolve_left hl,Or.inr⟩
 refine⟨?_,?_,?_,?_,?_⟩
 ·rw[List.nodup_append]
  refine⟨h.nodup,List.Pairwise.filter _ La.nodup,fun a ha b hb e=>?_⟩
  subst e
  exact ((mem a).1 hb).2 ha
 ·intro x hx
  rcases List.mem_append.1 hx with hx | hx
  ·exact h.lt x hx
  ·exact hc.lt x ((mem x).1 hx).1
 ·intro x hx d hd hxd
  rcases List.mem_append.1 hx with hx | hx
  ·exact List.mem_append_left _ (h.closed x hx d hd hxd)
  ·exact all d (hc.closed x d ((mem x).1 hx).1 hxd)
 ·intro pre x post e d hd hxd hn
  rw[List.append_eq_append_iff] at e
  rcases e with ⟨qs,e1,e2⟩ | ⟨bs,e1,e2⟩
  ·rw[e1]
   exact (new qs x post e2 d hd hxd).1 hn
  ·cases bs with
   | nil=>
    have e1':L=pre:=by simpa using e1
    have:=(new [] x post (by simpa using e2.symm) d hd hxd).1 hn
    rw[List.append_nil,e1'] at this
    exact this
   | cons b bs=>
    simp only[List.cons_append,List.cons.injEq] at e2
    obtain⟨rfl,_⟩:=e2
    exact h.behind pre x bs e1 d hd hxd hn
 ·intro pre x post e d hd hxd hdx hne
  rw[List.append_eq_append_iff] at e
  rcases e with ⟨qs,e1,e2⟩ | ⟨bs,e1,e2⟩
  ·rw[e1]
   exact (new qs x post e2 d hd hxd).2 hdx hne
  ·cases bs with
   | nil=>
    have e1':L=pre:=by simpa using e1
    have:=(new [] x post (by simpa using e2.symm) d hd hxd).2 hdx hne
    rw[List.append_nil,e1'] at this
    exact this
   | cons b bs=>
    simp only[List.cons_append,List.cons.injEq] at e2
    obtain⟨rfl,_⟩:=e2
    exact h.ring pre x bs e1 d hd hxd hdx hne
theorem j1.later {H H':Nat→Nat→Bool} {L:List Nat} (h:j1 H L) (e:∀x∈L,∀y,y<32→H x y=H' x y):j1 H' L:=by
 have inL:∀pre x post,L=pre++x::post→x∈L:=fun pre x post e=>by rw[e];simp
 have back:∀pre x post d,L=pre++x::post→d<32→H' x d=true→d∈L:=fun pre x post d eL hd hx=>h.closed x (inL pre x post eL) d hd (by rw[e x (inL pre x post eL) d hd];exact hx)
 refine⟨h.nodup,h.lt,fun x hx d hd hxd=>h.closed x hx d hd (by rw[e x hx d hd];exact hxd),fun pre x post eL d hd hxd hn=>?_,fun pre x post eL d hd hxd hdx hne=>?_⟩
 ·have hx:=inL pre x post eL
  have hdL:=back pre x post d eL hd hxd
  exact h.behind pre x post eL d hd (by rw[e x hx d hd];exact hxd) (by rw[e d hdL x (h.lt x hx)];exact hn)
 ·have hx:=inL pre x post eL
  have hdL:=back pre x post d eL hd hxd
  exact h.ring pre x post eL d hd (by rw[e x hx d hd];exact hxd) (by rw[e d hdL x (h.lt x hx)];exact hdx) hne
theorem cE.lt {g:bD} {x y:Nat} (h:cE g.adj x y) (hx:x<32):y<32:=by
 induction h using cE.ind with
 | refl=>exact hx
 | step a _ ih=>exact ih (g.adj_lt _ _ a)
theorem AO (g:bD) {n:Nat} (hn:n<32):Clo (cG g) (cG g n):=by
 have lt:∀x,cG g n x=true→x<32:=fun x hx=>((cH g hn x).1 hx).lt hn
 refine⟨fun x hx _=>(cH g hx x).2 (.refl x),fun x y z hx h1 h2=>?_,fun x y hx h1=>?_,lt⟩
 ·have hx':=lt x hx
  have h1':=(cH g hx' y).1 h1
  have hy:=h1'.lt hx'
  exact (cH g hx' z).2 (h1'.trans ((cH g hy z).1 h2))
 ·have hx':=lt x hx
  exact (cH g hn y).2 (((cH g hn x).1 hx).trans ((cH g hx' y).1 h1))
theorem mG (g:bD) {n x:Nat} (hn:n<32) (hx:cE g.adj n x) (j:Nat):(fX g n).reach x j=cG g x j:=by
 rw[Bool.eq_iff_iff,cH g (hx.lt hn) j]
 exact (m0 g.adj_lt hn).2.1 x hx j
theorem uT (g:bD) {n x m:Nat} (hn:n<32) (hx:cE g.adj n x) (hm:m<32):eJ (fX g n).reach x m=(cG g x m && cG g m x):=by
 have hx':=hx.lt hn
 rw[Bool.eq_iff_iff,Bool.and_eq_true]
 unfold eJ
 rw[mN]
 constructor
 ·intro h
  have h1:(fX g n).reach m x=true:=by
   rw[←h x hx',mG g hn hx]
   exact (cH g hx' x).2 (.refl x)
  have hmn:cE g.adj n m:=by
   cases Classical.em (cE g.adj n m) with
   | inl h=>exact h
   | inr h2=>
    have:=(m0 g.adj_lt hn).2.2 m h2 x
    unfold fX at h1
    rw[this] at h1
    cases h1
  rw[mG g hn hmn] at h1
  refine⟨?_,h1⟩
  have h2:=h m hm
  rw[mG g hn hx,mG g hn hmn] at h2
  rw[h2]
  exact (cH g hm m).2 (.refl m)
 ·rintro⟨h1,h2⟩ j _
  have h1':=(cH g hx' m).1 h1
  have h2':=(cH g hm x).1 h2
  rw[mG g hn hx,mG g hn (hx.trans h1'),Bool.eq_iff_iff,cH g hx',cH g hm]
  exact⟨fun h=>h2'.trans h,fun h=>h1'.trans h⟩
theorem MV (g:bD) {n:Nat} (hn:n<32) (x:Nat):decide (0<(fX g n).turn x)=cG g n x:=by
 rw[Bool.eq_iff_iff,decide_eq_true_iff,cH g hn x,←(m0 g.adj_lt hn).1 x]
 unfold fX
 omega
theorem MU (g:bD) {n x:Nat} (hn:n<32) (placed:Nat→Bool):k8 (fX g n).reach (fX g n).turn placed x=jX (cG g) (cG g n) placed x:=by
 unfold k8 jX
 rw[MV g hn]
 cases hd:cG g n x
 ·rfl
 ·have hx:=(cH g hn x).1 hd
  have hx':=hx.lt hn
  congr 1
  unfold i7
  rw[Bool.eq_iff_iff,List.all_eq_true,List.all_eq_true]
  constructor
  ·intro h m hm
   have:=h m hm
   rw[mG g hn hx,uT g hn hx (List.mem_range.1 hm)] at this
   cases hxm:cG g x m
   ·simp
   ·rw[hxm] at this
    simpa using this
  ·intro h m hm
   have:=h m hm
   rw[mG g hn hx,uT g hn hx (List.mem_range.1 hm)]
   cases hxm:cG g x m
   ·simp
   ·rw[hxm] at this
    simpa using this
theorem KG (g:bD) {n x:Nat} (hn:n<32) (hd:cG g n x=true):mY (fX g n).reach x=gO (cG g) x:=by
 unfold mY gO
 exact List.filter_congr fun m hm=>uT g hn ((cH g hn x).1 hd) (List.mem_range.1 hm)
theorem KE (g:bD) {n:Nat} (hn:n<32) (placed:Nat→Bool):gF (fX g n).reach (fX g n).turn placed=iX (cG g) (cG g n) placed:=by
 have e:k8 (fX g n).reach (fX g n).turn placed=jX (cG g) (cG g n) placed:=funext fun x=>MU g hn placed
 unfold gF oE iX
 rw[e]
 cases hq:(List.range 32).find? (jX (cG g) (cG g n) placed) with
 | none=>rfl
 | some x=>
  have:=List.find?_some hq
  exact KG g hn (jY.1 this).1
theorem DU (g:bD) {n:Nat} (hn:n<32):∀j,dI (fX g n).reach (fX g n).turn j=dV (cG g) (cG g n) j
 | 0=>rfl
 | j+1=>by
  show dI (fX g n).reach (fX g n).turn j++_=dV (cG g) (cG g n) j++_
  rw[DU g hn j,KE g hn]
theorem wJ (g:bD) {n:Nat} (hn:n<32):BL g n=dV (cG g) (cG g n) 32:=DU g hn 32
theorem wE {g:bD} {S:Nat→Bool}:iR g S 32=true↔∀i,i<32→S i=true→g.known i=true:=by
 unfold iR
 simp only[List.all_eq_true,List.mem_range,Bool.or_eq_true,Bool.not_eq_true']
 constructor
 ·intro h i hi hs
  rcases h i hi with h | h
  ·rw[hs] at h;cases h
  ·exact h
 ·intro h i hi
  cases hs:S i
  ·exact Or.inl rfl
  ·exact Or.inr (h i hi hs)
theorem OF (k:Int):(k.tmod 2 == 0)=(k % 2 == 0):=by
 have e:=Int.tmod_eq_emod (a:=k) (b:=2)
 have:k.tmod 2=0↔k % 2=0:=by rw[e];split<;>omega
 rw[Bool.eq_iff_iff];simpa using this
theorem gT (k:Int) (w:World):
  Calls Tryz.prog 82 #[.int .i64 k] w fun e w'=>e= .returned (.int .i64 (k % 2))∧w'=w:=by
 have e:=OF k
 by_cases h:k % 2=0
 ·have h1:(k.tmod 2 == 0)=true:=by rw[e];simpa using h
  clear e
  go_enter Tryz.func82,Tryz.ntmps82
  go_wp2
  go_ret
  exact⟨cV (by omega),rfl⟩
 ·have h1:(k.tmod 2 == 0)=false:=by rw[e];simpa using h
  clear e
  go_enter Tryz.func82,Tryz.ntmps82
  go_wp2
  go_ret
  exact⟨cV (by omega),rfl⟩
def ofL (k:Int):Int:=if k<3 then 0 else 1
theorem iS (k:Int) (w:World):
  Calls Tryz.prog 122 #[.int .i64 k] w fun e w'=>e= .returned (.int .i64 (ofL k))∧w'=w:=by
 by_cases h:k<3
 ·have E:Hid (ofL k=0):=by unfold ofL Hid;rw[if_pos h]
  go_enter Tryz.func122,Tryz.ntmps122
  go_wp2
  go_ret
  exact⟨cV E.out.symm,rfl⟩
 ·have E:Hid (ofL k=1):=by unfold ofL Hid;rw[if_neg h]
  go_enter Tryz.func122,Tryz.ntmps122
  go_wp2
  go_ret
  exact⟨cV E.out.symm,rfl⟩
def near (n:Int):Int:=if n < -1099511627776 then -1099511627776 else if 1099511627776<n then 1099511627776 else n
theorem tN (n:Int): -1099511627776≤near n:=by
 unfold near;split
 ·omega
 ·split<;>omega
theorem tM (n:Int):near n≤1099511627776:=by
 unfold near;split
 ·omega
 ·split<;>omega
theorem lZ (n:Int) (w:World):
  Calls Tryz.prog 63 #[.int .i64 n] w fun e w'=>e= .returned (.int .i64 (near n))∧w'=w:=by
 by_cases h1:n < -1099511627776
 ·have e:near n= -1099511627776:=by unfold near;rw[if_pos h1]
  have E:=hI9 e
  clear e
  go_enter Tryz.func63,Tryz.ntmps63
  go_wp2
  go_ret
  exact⟨cV E.out.symm,rfl⟩
 ·by_cases h2:1099511627776<n
  ·have E:Hid (near n=1099511627776):=by unfold near Hid;rw[if_neg h1,if_pos h2]
   go_enter Tryz.func63,Tryz.ntmps63
   go_wp2
   go_ret
   exact⟨cV E.out.symm,rfl⟩
  ·have E:Hid (near n=n):=by unfold near Hid;rw[if_neg h1,if_neg h2]
   go_enter Tryz.func63,Tryz.ntmps63
   go_wp2
   go_ret
   exact⟨cV E.out.symm,rfl⟩
def doL (v kind n:Int):Int:=if kind=2 then near n else if kind=3 then near (near v+near n) else near v
theorem NM (v kind key n:Int) (w:World):
  Calls Tryz.prog 30 #[.int .i64 v,.agg #[.int .i64 kind,.int .i64 key,.int .i64 n]] w fun e w'=>e= .returned (.int .i64 (doL v kind n))∧Below w.heap.size w w':=by
 by_cases h2:kind=2
 ·have E:Hid (doL v kind n=near n):=by unfold doL Hid;rw[if_pos h2]
  have h2':(kind == 2)=true:=by simpa using h2
  clear h2
  go_enter Tryz.func30,Tryz.ntmps30
  go_wp2_with (go_at_call 63;refine (lZ _ _).mono ?_;rintro e w' ⟨rfl,rfl⟩)
  go_ret
  exact⟨cV E.out.symm,(Below.refl _ _).alloc (Nat.le_refl _) _⟩
 ·by_cases h3:kind=3
  ·have E:Hid (doL v kind n=near (near v+near n)):=by unfold doL Hid;rw[if_neg h2,if_pos h3]
   have h2':(kind == 2)=false:=by simpa using h2
   have h3':(kind == 3)=true:=by simpa using h3
   have l1:=tN v
   have l2:=tM v
   have l3:=tN n
   have l4:=tM n
   clear h2 h3
   go_enter Tryz.func30,Tryz.ntmps30
   go_wp2
   go_quiet ((go_at_call 63;exact Calls.quiet_of_same (lZ _ _)))
   go_wp2
   go_ret
   exact⟨cV E.out.symm,below_drewN ((Below.refl _ _).alloc (Nat.le_refl _) _) _⟩
  ·have E:Hid (doL v kind n=near v):=by unfold doL Hid;rw[if_neg h2,if_neg h3]
   have h2':(kind == 2)=false:=by simpa using h2
   have h3':(kind == 3)=false:=by simpa using h3
   clear h2 h3
   go_enter Tryz.func30,Tryz.ntmps30
   go_wp2_with (go_at_call 63;refine (lZ _ _).mono ?_;rintro e w' ⟨rfl,rfl⟩)
   go_ret
   exact⟨cV E.out.symm,(Below.refl _ _).alloc (Nat.le_refl _) _⟩
abbrev OpL:=Int × Int × Int
def fO (w:World) (a:Option Addr) (zs:List OpL):Prop:=
 zs=[]∨∃b off,a=some ⟨b,off,none⟩∧b<w.heap.size∧∀i,i<zs.length→w.cell? ⟨b,off+i*3,none⟩=some (.int .i64 (zs.getD i (0,0,0)).1)∧
  w.cell? ⟨b,off+i*3+1,none⟩=some (.int .i64 (zs.getD i (0,0,0)).2.1)∧w.cell? ⟨b,off+i*3+2,none⟩=some (.int .i64 (zs.getD i (0,0,0)).2.2)
theorem fO.later {w w':World} {a:Option Addr} {zs:List OpL} (h:fO w a zs) (hB:Below w.heap.size w w'):fO w' a zs:=by
 rcases h with h | ⟨b,off,ha,hb,hc⟩
 ·exact Or.inl h
 ·refine Or.inr ⟨b,off,ha,Nat.lt_of_lt_of_le hb hB.size,fun i hi=>?_⟩
  rw[hB.cell (p:=⟨b,off+i*3,none⟩) hb,hB.cell (p:=⟨b,off+i*3+1,none⟩) hb,hB.cell (p:=⟨b,off+i*3+2,none⟩) hb]
  exact hc i hi
theorem fO.at {w wr:World} {B b off:Nat} {zs:List OpL} (hc:∀i,i<zs.length→w.cell? ⟨b,off+i*3,none⟩=some (.int .i64 (zs.getD i (0,0,0)).1)∧
    w.cell? ⟨b,off+i*3+1,none⟩=some (.int .i64 (zs.getD i (0,0,0)).2.1)∧w.cell? ⟨b,off+i*3+2,none⟩=some (.int .i64 (zs.getD i (0,0,0)).2.2))
    (hb:b<B) (hB:Below B w wr) {k:Nat} (hk:k<zs.length):
    ∃q0 q1 q2:Int,Hid (zs.getD k (0,0,0)=(q0,q1,q2))∧wr.cell? ⟨b,off+k*3,none⟩=some (.int .i64 q0)∧wr.cell? ⟨b,off+k*3+1,none⟩=some (.int .i64 q1)∧wr.cell? ⟨b,off+k*3+2,none⟩=some (.int .i64 q2):=by
  refine⟨_,_,_,rfl,?_⟩
  rw[hB.cell (p:=⟨b,off+k*3,none⟩) hb,hB.cell (p:=⟨b,off+k*3+1,none⟩) hb,hB.cell (p:=⟨b,off+k*3+2,none⟩) hb]
  exact hc k hk
def nQ (o p:OpL):Bool:=o.2.1 == p.2.1 && (o.1 !=1 || p.1 !=1)
def sR (o:OpL) (zs:List OpL):Bool:=zs.any (nQ o)
theorem IK (o0 o1 o2:Int) (a:Option Addr) (cap:Nat) (zs:List OpL) (w:World) (hl:zs.length≤maxLen) (hz:fO w a zs):
  Calls Tryz.prog 83 #[.agg #[.int .i64 o0,.int .i64 o1,.int .i64 o2],.slice a zs.length cap] w fun e w'=>e= .returned (.bool (sR (o0,o1,o2) zs))∧Below w.heap.size w w':=by
 unfold maxLen at hl
 rcases hz with rfl | ⟨b,off,rfl,hb,hc⟩
 ·go_enter Tryz.func83,Tryz.ntmps83
  go_wp2
  refine wp_loop_rounds 1 ?_;rw[rounds_succ]
  go_wp2
  go_ret
  exact⟨rfl,(Below.refl _ _).alloc (Nat.le_refl _) _⟩
 ·go_enter Tryz.func83,Tryz.ntmps83
  go_wp2
  go_loopw [9] (fun i wr=>∃k:Nat,k≤zs.length∧i= .int .i64 k∧(zs.take k).any (nQ (o0,o1,o2))=false∧Below (w.heap.size+1) (w.alloc (.cells #[.int .i64 o0,.int .i64 o1,.int .i64 o2] 69)) wr) (fun i _=>zs.length-(intOf i).toNat)
  case atStart=>exact⟨0,Nat.zero_le _,rfl,rfl,Below.refl _ _⟩
  case round=>
   obtain⟨k,hk,rfl,hno,hB⟩:=hrel
   have hBw:Below w.heap.size w wr:=((Below.refl _ w).alloc (Nat.le_refl _) _).trans (hB.mono (by omega))
   have hsz:=hBw.size
   have hsz1:w.heap.size<wr.heap.size:=by have:=hB.size;simp at this;omega
   have c0:=hB.cell (p:=⟨w.heap.size,0,none⟩) (by simp)
   have c1:=hB.cell (p:=⟨w.heap.size,1,none⟩) (by simp)
   simp at c0 c1
   by_cases hlt:k<zs.length
   ·obtain⟨q0,q1,q2,Hq,e0,e1,e2⟩:=fO.at hc hb hBw hlt
    have hm:Hid (nQ (o0,o1,o2) (q0,q1,q2)=(o1 == q1 && (o0 !=1 || q0 !=1))):=rfl
    clear hc
    cases t1:o1 == q1
    ·go_wp2
     go_roundw
     case rel=>exact⟨k+1,by omega,by go_num,nA hlt Hq.out hno (by rw[hm.out,t1];rfl),hB.alloc (by omega) _⟩
     case measure=>simp[intOf];omega
    ·cases t2:o0 !=1
     ·cases t3:q0 !=1
      ·go_wp2
       go_roundw
       case rel=>exact⟨k+1,by omega,by go_num,nA hlt Hq.out hno (by rw[hm.out,t1,t2,t3];rfl),hB.alloc (by omega) _⟩
       case measure=>simp[intOf];omega
      ·go_wp2
       go_ret
       exact⟨aI (pY hlt Hq.out (by rw[hm.out,t1,t2,t3];rfl)).symm,hBw.alloc hsz _⟩
     ·go_wp2
      go_ret
      exact⟨aI (pY hlt Hq.out (by rw[hm.out,t1,t2];rfl)).symm,hBw.alloc hsz _⟩
   ·go_wp2
    go_ret
    exact⟨aI (tK hlt hno).symm,hBw⟩
def fL (s:Int) (o:OpL):Bool:=o.2.1 % 2 == s
def aZ (zs:List OpL) (s:Int):Bool:=zs.any (fL s)
theorem fG (a:Option Addr) (cap:Nat) (zs:List OpL) (s:Int) (w:World) (hl:zs.length≤maxLen) (hz:fO w a zs):
  Calls Tryz.prog 121 #[.slice a zs.length cap,.int .i64 s] w fun e w'=>e= .returned (.bool (aZ zs s))∧Below w.heap.size w w':=by
 unfold maxLen at hl
 rcases hz with rfl | ⟨b,off,rfl,hb,hc⟩
 ·go_enter Tryz.func121,Tryz.ntmps121
  go_wp2
  refine wp_loop_rounds 1 ?_;rw[rounds_succ]
  go_wp2
  go_ret
  exact⟨rfl,Below.refl _ _⟩
 ·go_enter Tryz.func121,Tryz.ntmps121
  go_wp2
  go_loopw [9] (fun i wr=>∃k:Nat,k≤zs.length∧i= .int .i64 k∧(zs.take k).any (fL s)=false∧Below w.heap.size w wr) (fun i _=>zs.length-(intOf i).toNat)
  case atStart=>exact⟨0,Nat.zero_le _,rfl,rfl,Below.refl _ _⟩
  case round=>
   obtain⟨k,hk,rfl,hno,hBw⟩:=hrel
   have hsz:=hBw.size
   by_cases hlt:k<zs.length
   ·obtain⟨q0,q1,q2,Hq,e0,e1,e2⟩:=fO.at hc hb hBw hlt
    have hm:Hid (fL s (q0,q1,q2)=(q1 % 2 == s)):=rfl
    clear hc
    cases t1:q1 % 2 == s
    ·go_wp2_with (go_at_call 82;refine (gT _ _).mono ?_;rintro e w' ⟨rfl,rfl⟩)
     go_roundw
     case rel=>exact⟨k+1,by omega,by go_num,nA hlt Hq.out hno (by rw[hm.out,t1]),hBw.alloc hsz _⟩
     case measure=>simp[intOf];omega
    ·go_wp2_with (go_at_call 82;refine (gT _ _).mono ?_;rintro e w' ⟨rfl,rfl⟩)
     go_ret
     exact⟨aI (pY hlt Hq.out (by rw[hm.out,t1])).symm,hBw.alloc hsz _⟩
   ·go_wp2
    go_ret
    exact⟨aI (tK hlt hno).symm,hBw⟩
def oZ (b:List OpL) (s:Int) (o:OpL):Bool:=o.2.1 % 2 == s && sR o b
def dM (a b:List OpL) (s:Int):Bool:=a.any (oZ b s)
theorem AQ (a:Option Addr) (cap:Nat) (zs:List OpL) (a':Option Addr) (cap':Nat) (ys:List OpL) (s:Int) (w:World) (hl:zs.length≤maxLen) (hz:fO w a zs) (hl':ys.length≤maxLen) (hy:fO w a' ys):
  Calls Tryz.prog 58 #[.slice a zs.length cap,.slice a' ys.length cap',.int .i64 s] w fun e w'=>e= .returned (.bool (dM zs ys s))∧Below w.heap.size w w':=by
 have hl2:=hl
 unfold maxLen at hl
 rcases hz with rfl | ⟨b,off,rfl,hb,hc⟩
 ·go_enter Tryz.func58,Tryz.ntmps58
  go_wp2
  refine wp_loop_rounds 1 ?_;rw[rounds_succ]
  go_wp2
  go_ret
  exact⟨rfl,Below.refl _ _⟩
 ·go_enter Tryz.func58,Tryz.ntmps58
  go_wp2
  go_loopw [11] (fun i wr=>∃k:Nat,k≤zs.length∧i= .int .i64 k∧(zs.take k).any (oZ ys s)=false∧Below w.heap.size w wr) (fun i _=>zs.length-(intOf i).toNat)
  case atStart=>exact⟨0,Nat.zero_le _,rfl,rfl,Below.refl _ _⟩
  case round=>
   obtain⟨k,hk,rfl,hno,hBw⟩:=hrel
   have hsz:=hBw.size
   by_cases hlt:k<zs.length
   ·obtain⟨q0,q1,q2,Hq,e0,e1,e2⟩:=fO.at hc hb hBw hlt
    have hm:Hid (oZ ys s (q0,q1,q2)=(q1 % 2 == s && sR (q0,q1,q2) ys)):=rfl
    have hy':∀o,fO (wr.alloc o) a' ys:=fun o=>hy.later (hBw.alloc hsz o)
    clear hc
    cases t1:q1 % 2 == s
    ·go_wp2_with (go_at_call 82;refine (gT _ _).mono ?_;rintro e w' ⟨rfl,rfl⟩)
     go_roundw
     case rel=>exact⟨k+1,by omega,by go_num,nA hlt Hq.out hno (by rw[hm.out,t1];rfl),hBw.alloc hsz _⟩
     case measure=>simp[intOf];omega
    ·go_wp2_with (go_at_call 82;refine (gT _ _).mono ?_;rintro e w' ⟨rfl,rfl⟩)
     refine (IK q0 q1 q2 a' cap' ys _ hl' (hy' _)).mono ?_
     rintro e w1 ⟨rfl,hb1⟩
     have hb2:Below w.heap.size w w1:=(hBw.alloc hsz _).trans (hb1.mono (by simp;omega))
     clear hb1
     cases t2:sR (q0,q1,q2) ys
     ·go_wp2
      go_roundw
      case rel=>exact⟨k+1,by omega,by go_num,nA hlt Hq.out hno (by rw[hm.out,t1,t2];rfl),hb2⟩
      case measure=>simp[intOf];omega
     ·go_wp2
      go_ret
      exact⟨aI (pY hlt Hq.out (by rw[hm.out,t1,t2];rfl)).symm,hb2⟩
   ·go_wp2
    go_ret
    exact⟨aI (tK hlt hno).symm,hBw⟩
def fP (o:OpL):Bool:=decide (0≤o.2.1∧o.2.1<8∧(o.1=1∧o.2.2=0∨(o.1=2∨o.1=3)∧-1099511627776≤o.2.2∧o.2.2≤1099511627776))
theorem DV (n:Int):(n == near n)=decide (-1099511627776≤n∧n≤1099511627776):=by
 rw[Bool.eq_iff_iff]
 simp only[beq_iff_eq,decide_eq_true_eq]
 unfold near
 split
 ·omega
 ·split<;>omega
theorem EU (o0 o1 o2:Int) (w:World):
  Calls Tryz.prog 88 #[.agg #[.int .i64 o0,.int .i64 o1,.int .i64 o2]] w fun e w'=>e= .returned (.bool (fP (o0,o1,o2)))∧Below w.heap.size w w':=by
 by_cases h1:o1<0
 ·have E:Hid (fP (o0,o1,o2)=false):=by unfold fP Hid;simp;omega
  go_enter Tryz.func88,Tryz.ntmps88
  go_wp2
  go_ret
  exact⟨aI E.out.symm,(Below.refl _ _).alloc (Nat.le_refl _) _⟩
 ·by_cases h2:8≤o1
  ·have E:Hid (fP (o0,o1,o2)=false):=by unfold fP Hid;simp;omega
   go_enter Tryz.func88,Tryz.ntmps88
   go_wp2
   go_ret
   exact⟨aI E.out.symm,(Below.refl _ _).alloc (Nat.le_refl _) _⟩
  ·cases t1:o0 == 1
   ·cases t2:o0 == 2
    ·cases t3:o0 == 3
     ·have E:Hid (fP (o0,o1,o2)=false):=by simp at t1 t2 t3;unfold fP Hid;simp;omega
      go_enter Tryz.func88,Tryz.ntmps88
      go_wp2
      go_ret
      exact⟨aI E.out.symm,(Below.refl _ _).alloc (Nat.le_refl _) _⟩
     ·have E:Hid (fP (o0,o1,o2)=(o2 == near o2)):=by simp at t3;rw[Hid,DV,Bool.eq_iff_iff];unfold fP;simp;omega
      go_enter Tryz.func88,Tryz.ntmps88
      go_wp2
      go_quiet ((go_at_call 63;exact Calls.quiet_of_same (lZ _ _)))
      go_wp2
      go_ret
      exact⟨aI E.out.symm,below_drewN ((Below.refl _ _).alloc (Nat.le_refl _) _) _⟩
    ·have E:Hid (fP (o0,o1,o2)=(o2 == near o2)):=by simp at t2;rw[Hid,DV,Bool.eq_iff_iff];unfold fP;simp;omega
     go_enter Tryz.func88,Tryz.ntmps88
     go_wp2
     go_quiet ((go_at_call 63;exact Calls.quiet_of_same (lZ _ _)))
     go_wp2
     go_ret
     exact⟨aI E.out.symm,below_drewN ((Below.refl _ _).alloc (Nat.le_refl _) _) _⟩
   ·have E:Hid (fP (o0,o1,o2)=(o2 == 0)):=by simp at t1;rw[Hid,Bool.eq_iff_iff];unfold fP;simp;omega
    go_enter Tryz.func88,Tryz.ntmps88
    go_wp2
    go_ret
    exact⟨aI E.out.symm,(Below.refl _ _).alloc (Nat.le_refl _) _⟩
def BE (k:Int) (p:OpL):Bool:=p.2.1 == k
def jO (zs:List OpL) (k:Nat):Bool:=fP (zs.getD k (0,0,0)) && !(zs.take k).any (BE (zs.getD k (0,0,0)).2.1)
def bQ (zs:List OpL):Bool:=decide (1≤zs.length∧zs.length≤4) && (List.range zs.length).all (jO zs)
theorem wP {p:Nat→Bool} {k:Nat} (h:(List.range k).all p=true) (hk:p k=true):(List.range (k+1)).all p=true:=by
 rw[List.range_succ,List.all_append,h]
 simp[hk]
theorem wO {p:Nat→Bool} {k n:Nat} (hn:k<n) (hk:p k=false):(List.range n).all p=false:=
 List.all_eq_false.2 ⟨k,List.mem_range.2 hn,by simp[hk]⟩
theorem A7 {zs:List OpL} (h:zs.length<1∨4<zs.length):bQ zs=false:=by
 unfold bQ
 rw[decide_eq_false (by omega),Bool.false_and]
theorem A8 {zs:List OpL} (h:¬ zs.length<1) (h':¬ 4<zs.length):bQ zs=(List.range zs.length).all (jO zs):=by
 unfold bQ
 rw[decide_eq_true (by omega),Bool.true_and]
def lK (zs:List OpL) (k:Nat) (i:Nat):Bool:=(zs.take k).any (BE (i:Int))
theorem JE {zs:List OpL} {k m:Nat} {q0 q2:Int} (hk:k<zs.length) (hq:zs.getD k (0,0,0)=(q0,(m:Int),q2)) (i:Nat):(if i=m then true else lK zs k i)=lK zs (k+1) i:=by
 have:zs[k]=(q0,(m:Int),q2):=by rw[←hq];simp[List.getD,hk]
 unfold lK
 rw[List.take_succ_eq_append_getElem hk,List.any_append,this]
 by_cases e:i=m
 ·subst e
  simp[BE]
 ·rw[if_neg e]
  have:BE (i:Int) (q0,(m:Int),q2)=false:=by simp[BE];omega
  simp[this]
theorem cY.later {n:Nat} {w w':World} {c B:Nat} {S:Nat→Bool} (h:cY n w c S) (hB:Below B w w') (hc:c<B):cY n w' c S:=by
 obtain⟨t,h⟩:=h
 exact⟨t,by rw[hB.block c hc];exact h⟩
theorem OH:aL 8 (fun _=>false)=#[.bool false,.bool false,.bool false,.bool false,.bool false,.bool false,.bool false,.bool false]:=by rfl
theorem EP {zs:List OpL} {k:Nat} {q:OpL} (hq:zs.getD k (0,0,0)=q) (h:fP q=false):jO zs k=false:=by
 unfold jO
 rw[hq,h,Bool.false_and]
theorem EQ {zs:List OpL} {k m:Nat} {q0 q2:Int} (hq:zs.getD k (0,0,0)=(q0,(m:Int),q2)) (h:lK zs k m=true):jO zs k=false:=by
 unfold jO
 rw[hq]
 unfold lK at h
 simp only[h,Bool.not_true,Bool.and_false]
theorem ES {zs:List OpL} {k m:Nat} {q0 q2:Int} (hq:zs.getD k (0,0,0)=(q0,(m:Int),q2)) (h1:fP (q0,(m:Int),q2)=true) (h:lK zs k m=false):jO zs k=true:=by
 unfold jO
 rw[hq]
 unfold lK at h
 simp only[h,h1,Bool.not_false,Bool.and_true]
theorem yQ {q0 q1 q2:Int} (h:fP (q0,q1,q2)=true):0≤q1∧q1<8:=by
 unfold fP at h
 have:=of_decide_eq_true h
 exact⟨this.1,this.2.1⟩
theorem kS (a:Option Addr) (cap:Nat) (zs:List OpL) (w:World) (hl:zs.length≤maxLen) (hz:fO w a zs):
  Calls Tryz.prog 67 #[.slice a zs.length cap] w fun e w'=>e= .returned (.bool (bQ zs))∧Below w.heap.size w w':=by
 unfold maxLen at hl
 by_cases h1:zs.length<1
 ·have E:Hid (bQ zs=false):=A7 (Or.inl h1)
  go_enter Tryz.func67,Tryz.ntmps67
  go_wp2
  go_ret
  exact⟨aI E.out.symm,Below.refl _ _⟩
 by_cases h2:4<zs.length
 ·have E:Hid (bQ zs=false):=A7 (Or.inr h2)
  go_enter Tryz.func67,Tryz.ntmps67
  go_wp2
  go_ret
  exact⟨aI E.out.symm,Below.refl _ _⟩
 have E:Hid (bQ zs=(List.range zs.length).all (jO zs)):=A8 h1 h2
 rcases hz with rfl | ⟨b,off,rfl,hb,hc⟩
 ·simp at h1
 go_enter Tryz.func67,Tryz.ntmps67
 go_wp2
 rw[←OH]
 go_loopw [16] (fun i wr=>∃k:Nat,k≤zs.length∧i= .int .i64 k∧Hid ((List.range k).all (jO zs)=true)∧cY 8 wr w.heap.size (lK zs k)∧Below w.heap.size w wr) (fun i _=>zs.length-(intOf i).toNat)
 case atStart=>exact⟨0,Nat.zero_le _,rfl,rfl,⟨134,aJ _ _⟩,(Below.refl _ _).alloc (Nat.le_refl _) _⟩
 case round=>
  obtain⟨k,hk,rfl,hall,hS,hBw⟩:=hrel
  have hsz:=hBw.size
  have hcl:=hS.lt
  by_cases hlt:k<zs.length
  ·obtain⟨q0,q1,q2,Hq,e0,e1,e2⟩:=fO.at hc hb hBw hlt
   clear hc
   go_wp2_with fail
   refine (EU q0 q1 q2 _).mono ?_
   rintro e w1 ⟨rfl,hb1⟩
   have f1:=hb1.cell (p:=⟨wr.heap.size,1,none⟩) (by simp)
   simp at f1
   have hS1:cY 8 w1 w.heap.size (lK zs k):=(hS.later ((Below.refl _ _).alloc (Nat.le_refl _) _) hcl).later hb1 (by simp;omega)
   have hb2:Below w.heap.size w w1:=(hBw.alloc hsz _).trans (hb1.mono (by simp;omega))
   have hz1:wr.heap.size<w1.heap.size:=by have:=hb1.size;simp at this;omega
   clear hb1
   cases tg:fP (q0,q1,q2)
   ·have N:Hid (bQ zs=false):=by unfold Hid;rw[E.out];exact wO hlt (EP Hq.out tg)
    go_wp2
    go_ret
    exact⟨aI N.out.symm,hb2⟩
   ·obtain⟨k0,k1⟩:=yQ tg
    obtain⟨m,rfl⟩:=Int.eq_ofNat_of_zero_le k0
    have hm:m<8:=by omega
    have g1:=hS1.cell hm
    have g2:=hS1.frozen m
    cases ts:lK zs k m
    ·rw[ts] at g1
     have Y:Hid ((List.range (k+1)).all (jO zs)=true):=wP hall.out (ES Hq.out tg ts)
     have HS:cY 8 (w1.setCell ⟨w.heap.size,m,none⟩ (.bool true)) w.heap.size (lK zs (k+1)):=(hS1.put m true).congr (fun i _=>JE hlt Hq.out i)
     clear hS1 hS
     go_wp2
     go_roundw
     case rel=>exact⟨k+1,by omega,by go_num,Y,HS,hb2.setCell (by simp) _⟩
     case measure=>simp[intOf];omega
    ·rw[ts] at g1
     have N:Hid (bQ zs=false):=by unfold Hid;rw[E.out];exact wO hlt (EQ Hq.out ts)
     go_wp2
     go_ret
     exact⟨aI N.out.symm,hb2⟩
  ·have N:Hid (bQ zs=true):=by
    unfold Hid
    have:k=zs.length:=by omega
    rw[E.out,←this]
    exact hall.out
   go_wp2
   go_ret
   exact⟨aI N.out.symm,hBw⟩
def bF:Int→List Int→Bool
 | _,[]=>true
 | l,n::r=>!(decide (n≤l) || decide (32≤n)) && bF n r
theorem lQ {zs:List Int} {k:Nat} {q:Int} (hk:k<zs.length) (hq:zs.getD k 0=q):zs.drop k=q::zs.drop (k+1):=by
 rw[List.drop_eq_getElem_cons hk]
 have:zs[k]=q:=by rw[←hq];simp[List.getD,hk]
 rw[this]
theorem y9 {zs:List Int} {k:Nat} {q l m:Int} (hk:k<zs.length) (hq:zs.getD k 0=q) (h:bF m zs=bF l (zs.drop k)) (hn:q≤l∨32≤q):bF m zs=false:=by
 rw[h,lQ hk hq,bF]
 have:(decide (q≤l) || decide (32≤q))=true:=by simpa using hn
 rw[this]
 rfl
theorem F7 {zs:List Int} {k:Nat} {q l m:Int} (hk:k<zs.length) (hq:zs.getD k 0=q) (h:bF m zs=bF l (zs.drop k)) (h1:¬ q≤l) (h2:¬ 32≤q):bF m zs=bF q (zs.drop (k+1)):=by
 rw[h,lQ hk hq,bF]
 simp[h1,h2]
theorem FZ {zs:List Int} {k:Nat} {l m:Int} (hk:¬ k<zs.length) (h:bF m zs=bF l (zs.drop k)):bF m zs=true:=by
 rw[h,List.drop_of_length_le (by omega)]
 rfl
theorem oH (a:Option Addr) (cap:Nat) (zs:List Int) (w:World) (hl:zs.length≤maxLen) (hz:dB w.heap.size w a zs):
  Calls Tryz.prog 68 #[.slice a zs.length cap] w fun e w'=>e= .returned (.bool (bF (-1) zs))∧w'=w:=by
 unfold maxLen at hl
 rcases hz with rfl | ⟨b,off,rfl,hb,hc⟩
 ·go_enter Tryz.func68,Tryz.ntmps68
  go_wp2
  refine wp_loop_rounds 1 ?_;rw[rounds_succ]
  go_wp2
  go_ret
  exact⟨rfl,rfl⟩
 ·go_enter Tryz.func68,Tryz.ntmps68
  go_wp2
  go_loop [3,8] (fun l i=>∃(k:Nat) (q:Int),k≤zs.length∧i= .int .i64 k∧l= .int .i64 q∧Hid (bF (-1) zs=bF q (zs.drop k))) (fun _ i=>zs.length-(intOf i).toNat)
  case atStart=>exact⟨0,-1,Nat.zero_le _,rfl,rfl,rfl⟩
  case round=>
   obtain⟨k,l,hk,rfl,rfl,hno⟩:=hrel
   by_cases hlt:k<zs.length
   ·obtain⟨q,Hq,e0⟩:=dB.at hc hb (Below.refl _ _) hlt
    clear hc
    by_cases t1:q≤l
    ·go_wp2
     go_ret
     exact⟨aI (y9 hlt Hq.out hno.out (Or.inl t1)).symm,rfl⟩
    ·by_cases t2:32≤q
     ·go_wp2
      go_ret
      exact⟨aI (y9 hlt Hq.out hno.out (Or.inr t2)).symm,rfl⟩
     ·go_wp2
      go_round
      case rel=>exact⟨k+1,q,by omega,by go_num,rfl,F7 hlt Hq.out hno.out t1 t2⟩
      case measure=>simp[intOf];omega
   ·go_wp2
    go_ret
    exact⟨aI (FZ hlt hno.out).symm,rfl⟩
structure aC where
 kind:Int
 node:Int
 id:Int
 ops:List OpL
 deps:List Int
 ats:List Int
 vals:List Int
def byt (n:Int):UInt8:=UInt8.ofNat (n % 256).toNat
theorem gR {n:Int} (h:0≤n) (h':n<256):((byt n).toNat:Int)=n:=by
 unfold byt
 rw[UInt8.toNat_ofNat']
 omega
theorem GX (c:UInt8):byt (c.toNat:Int)=c:=by
 unfold byt
 have:=c.toNat_lt
 apply UInt8.toNat_inj.1
 rw[UInt8.toNat_ofNat']
 omega
theorem DS (n:Int):byt (n % 256)=byt n:=by unfold byt;rw[Int.emod_emod_of_dvd _ (by decide)]
def jT (m:Int):List UInt8:=[byt (m / 1099511627776),byt (m / 4294967296),byt (m / 16777216),byt (m / 65536),byt (m / 256),byt m]
def six (n:Int):List UInt8:=jT (n+140737488355328)
theorem D2 (n:Int):(six n).length=6:=rfl
def gX (zs:List OpL):List UInt8:=zs.flatMap fun o=>byt o.1::byt o.2.1::six o.2.2
def gB (zs:List Int):List UInt8:=zs.map byt
def dW:List Int→List Int→List UInt8
 | a::xs,v::vs=>byt a::six v++dW xs vs
 | _,_=>[]
def bR (f:aC):List UInt8:=
 [byt f.kind,byt f.node,byt f.id,byt f.ops.length]++gX f.ops++[byt f.deps.length]++gB f.deps++[byt f.ats.length]++dW f.ats f.vals
structure Rd where
 rest:List UInt8
 short:Bool
def Rd.one (r:Rd):Int:=match r.rest with | []=>0 | c::_=>(c.toNat:Int)
def Rd.next (r:Rd):Rd:=match r.rest with | []=>⟨[],true⟩ | _::t=>⟨t,r.short⟩
theorem Rd.one_lo (r:Rd):0≤r.one:=by unfold Rd.one;split<;>omega
theorem Rd.one_hi (r:Rd):r.one<256:=by
 unfold Rd.one
 split
 ·omega
 ·rename_i c _ _
  have:=c.toNat_lt
  omega
def Rd.after:Nat→Rd→Rd
 | 0,r=>r
 | k+1,r=>Rd.after k r.next
def Rd.num:Nat→Int→Rd→Int
 | 0,n,_=>n
 | k+1,n,r=>Rd.num k (n*256+r.one) r.next
def Rd.wide (r:Rd):Int:=Rd.num 6 0 r-140737488355328
def Rd.next6 (r:Rd):Rd:=Rd.after 6 r
def Rd.ops:Nat→Rd→List OpL × Rd
 | 0,r=>([],r)
 | k+1,r=>((r.one,r.next.one,r.next.next.wide)::(Rd.ops k r.next.next.next6).1,(Rd.ops k r.next.next.next6).2)
def Rd.nums:Nat→Rd→List Int × Rd
 | 0,r=>([],r)
 | k+1,r=>(r.one::(Rd.nums k r.next).1,(Rd.nums k r.next).2)
def Rd.told:Nat→Rd→List Int × List Int × Rd
 | 0,r=>([],[],r)
 | k+1,r=>(r.one::(Rd.told k r.next.next6).1,r.next.wide::(Rd.told k r.next.next6).2.1,(Rd.told k r.next.next6).2.2)
def Rd.r1 (r:Rd):Rd:=r.next.next.next
def Rd.o1 (r:Rd):List OpL × Rd:=Rd.ops r.r1.one.toNat r.r1.next
def Rd.d1 (r:Rd):List Int × Rd:=Rd.nums r.o1.2.one.toNat r.o1.2.next
def Rd.t1 (r:Rd):List Int × List Int × Rd:=Rd.told r.d1.2.one.toNat r.d1.2.next
def Rd.frame (r:Rd):aC:=⟨r.one,r.next.one,r.next.next.one,r.o1.1,r.d1.1,r.t1.1,r.t1.2.1⟩
def Rd.end_ (r:Rd):Rd:=r.t1.2.2
theorem Rd.next_put (c:UInt8) (t:List UInt8):(⟨c::t,false⟩:Rd).next=⟨t,false⟩:=rfl
theorem Rd.one_put {n:Int} (h:0≤n) (h':n<256) (t:List UInt8):(⟨byt n::t,false⟩:Rd).one=n:=by
 show ((byt n).toNat:Int)=n
 exact gR h h'
theorem Rd.six_put {n:Int} (h: -140737488355328≤n) (h':n<140737488355328) (t:List UInt8):(⟨six n++t,false⟩:Rd).wide=n∧(⟨six n++t,false⟩:Rd).next6=⟨t,false⟩:=by
 refine⟨?_,rfl⟩
 have one:∀(x:Int) (t:List UInt8),(⟨byt x::t,false⟩:Rd).one=x % 256:=fun x t=>by rw[←DS x];exact Rd.one_put (by omega) (by omega) t
 simp only[Rd.wide,Rd.num,six,jT,List.cons_append,List.nil_append,Rd.next_put,one]
 omega
theorem uA (o:OpL) (zs:List OpL):gX (o::zs)=byt o.1::byt o.2.1::six o.2.2++gX zs:=by simp[gX]
theorem Rd.ops_put:∀(zs:List OpL) (t:List UInt8),(∀o∈zs,fP o=true)→Rd.ops zs.length ⟨gX zs++t,false⟩=(zs,⟨t,false⟩)
 | [],t,_=>rfl
 | (k,y,n)::zs,t,h=>by
  have h0:=h (k,y,n) (by simp)
  unfold fP at h0
  simp only[decide_eq_true_eq] at h0
  have ih:=Rd.ops_put zs t (fun p hp=>h p (by simp[hp]))
  obtain⟨s1,s2⟩:=Rd.six_put (n:=n) (by omega) (by omega) (gX zs++t)
  rw[uA]
  simp only[List.length_cons,Rd.ops,List.cons_append,List.append_assoc,Rd.next_put]
  rw[Rd.one_put (by omega) (by omega),Rd.one_put (by omega) (by omega),s1,s2,ih]
theorem Rd.nums_put:∀(zs:List Int) (t:List UInt8),(∀n∈zs,0≤n∧n<256)→Rd.nums zs.length ⟨gB zs++t,false⟩=(zs,⟨t,false⟩)
 | [],t,_=>rfl
 | n::zs,t,h=>by
  have h0:=h n (by simp)
  have ih:=Rd.nums_put zs t (fun p hp=>h p (by simp[hp]))
  show Rd.nums (zs.length+1) ⟨byt n::(gB zs++t),false⟩=_
  simp only[Rd.nums,Rd.next_put]
  rw[Rd.one_put h0.1 h0.2,ih]
theorem Rd.told_put:∀(xs vs:List Int) (t:List UInt8),vs.length=xs.length→(∀n∈xs,0≤n∧n<256)→(∀n∈vs,-140737488355328≤n∧n<140737488355328)→Rd.told xs.length ⟨dW xs vs++t,false⟩=(xs,vs,⟨t,false⟩)
 | [],[],t,_,_,_=>rfl
 | [],_::_,_,h,_,_=>by simp at h
 | _::_,[],_,h,_,_=>by simp at h
 | a::xs,v::vs,t,h,ha,hv=>by
  have h0:=ha a (by simp)
  have h1:=hv v (by simp)
  have ih:=Rd.told_put xs vs t (by simpa using h) (fun p hp=>ha p (by simp[hp])) (fun p hp=>hv p (by simp[hp]))
  obtain⟨s1,s2⟩:=Rd.six_put (n:=v) h1.1 h1.2 (dW xs vs++t)
  show Rd.told (xs.length+1) ⟨byt a::six v++dW xs vs++t,false⟩=_
  simp only[Rd.told,List.cons_append,List.append_assoc,Rd.next_put]
  rw[Rd.one_put h0.1 h0.2,s1,s2,ih]
def cL:Int→List Int→List Int→Bool
 | l,a::xs,v::vs=>!(decide (a≤l) || decide (4≤a)) && decide (-1099511627776≤v∧v≤1099511627776) && cL a xs vs
 | _,_,_=>true
def eO (f:aC):Bool:=if f.kind=1∨f.kind=3 then bQ f.ops else decide (f.ops.length=0)
def dS (f:aC):Bool:=if f.kind=2∨f.kind=3 then bF (-1) f.deps && !dO f.deps f.id else decide (f.deps.length=0)
def dZ (f:aC):Bool:=decide (f.kind=5∨f.ats.length=0) && (decide (f.vals.length=f.ats.length) && cL (-1) f.ats f.vals)
def aP (f:aC):Int:=
 if f.kind<1∨5<f.kind then 3 else if f.node<0∨6≤f.node∨f.id<0∨32≤f.id then 2
 else if eO f && (dS f && dZ f) then 0 else 1
theorem s4:∀(zs:List Int) (l:Int),bF l zs=true→(∀n∈zs,l<n∧n<32)∧(zs=[]∨(zs.length:Int)≤31-l)
 | [],l,_=>⟨by simp,Or.inl rfl⟩
 | n::r,l,h=>by
  rw[bF] at h
  simp only[Bool.and_eq_true,Bool.not_eq_true',Bool.or_eq_false_iff,decide_eq_false_iff_not] at h
  obtain⟨⟨h1,h2⟩,h3⟩:=h
  obtain⟨i1,i2⟩:=s4 r n h3
  refine⟨fun m hm=>?_,Or.inr ?_⟩
  ·rcases List.mem_cons.1 hm with rfl | hm
   ·omega
   ·have:=i1 m hm
    omega
  ·rcases i2 with rfl | i2
   ·simp;omega
   ·simp;omega
theorem yC:∀(xs vs:List Int) (l:Int),vs.length=xs.length→cL l xs vs=true→(∀n∈xs,l<n∧n<4)∧(∀n∈vs,-1099511627776≤n∧n≤1099511627776)∧(xs=[]∨(xs.length:Int)≤3-l)
 | [],[],l,_,_=>⟨by simp,by simp,Or.inl rfl⟩
 | [],_::_,_,h,_=>by simp at h
 | _::_,[],_,h,_=>by simp at h
 | a::xs,v::vs,l,hl,h=>by
  rw[cL] at h
  simp only[Bool.and_eq_true,Bool.not_eq_true',Bool.or_eq_false_iff,decide_eq_false_iff_not,decide_eq_true_eq] at h
  obtain⟨⟨⟨h1,h2⟩,h3⟩,h4⟩:=h
  obtain⟨i1,i2,i3⟩:=yC xs vs a (by simpa using hl) h4
  refine⟨fun m hm=>?_,fun m hm=>?_,Or.inr ?_⟩
  ·rcases List.mem_cons.1 hm with rfl | hm
   ·omega
   ·have:=i1 m hm
    omega
  ·rcases List.mem_cons.1 hm with rfl | hm
   ·omega
   ·exact i2 m hm
  ·rcases i3 with rfl | i3
   ·simp;omega
   ·simp;omega
theorem IS {zs:List OpL} (h:bQ zs=true):zs.length≤4∧∀o∈zs,fP o=true:=by
 unfold bQ at h
 simp only[Bool.and_eq_true,decide_eq_true_eq] at h
 refine⟨h.1.2,fun o ho=>?_⟩
 obtain⟨i,hi,rfl⟩:=List.mem_iff_getElem.1 ho
 have:=List.all_eq_true.1 h.2 i (List.mem_range.2 hi)
 unfold jO at this
 simp only[Bool.and_eq_true] at this
 have e:zs.getD i (0,0,0)=zs[i]:=by simp[List.getD,hi]
 rw[e] at this
 exact this.1
theorem mH {f:aC} (h:aP f=0):(1≤f.kind∧f.kind≤5)∧(0≤f.node∧f.node<6)∧(0≤f.id∧f.id<32)∧(f.ops.length≤4∧∀o∈f.ops,fP o=true)∧
  (f.deps.length≤32∧∀n∈f.deps,0≤n∧n<256)∧(f.ats.length≤4∧∀n∈f.ats,0≤n∧n<256)∧f.vals.length=f.ats.length∧∀n∈f.vals,-140737488355328≤n∧n<140737488355328:=by
 unfold aP at h
 by_cases h1:f.kind<1∨5<f.kind
 ·rw[if_pos h1] at h
  omega
 rw[if_neg h1] at h
 by_cases h2:f.node<0∨6≤f.node∨f.id<0∨32≤f.id
 ·rw[if_pos h2] at h
  omega
 rw[if_neg h2] at h
 by_cases h3:(eO f && (dS f && dZ f))=true
 ·simp only[Bool.and_eq_true] at h3
  obtain⟨g1,g2,g3⟩:=h3
  refine⟨by omega,by omega,by omega,?_,?_,?_⟩
  ·unfold eO at g1
   split at g1
   ·exact IS g1
   ·have:f.ops=[]:=by simpa using g1
    rw[this]
    simp
  ·unfold dS at g2
   split at g2
   ·simp only[Bool.and_eq_true] at g2
    obtain⟨i1,i2⟩:=s4 _ _ g2.1
    refine⟨?_,fun n hn=>by have:=i1 n hn;omega⟩
    rcases i2 with i2 | i2
    ·rw[i2]
     simp
    ·omega
   ·have:f.deps=[]:=by simpa using g2
    rw[this]
    simp
  ·unfold dZ at g3
   simp only[Bool.and_eq_true,decide_eq_true_eq] at g3
   obtain⟨_,g4,g5⟩:=g3
   obtain⟨i1,i2,i3⟩:=yC _ _ _ g4 g5
   refine⟨⟨?_,fun n hn=>by have:=i1 n hn;omega⟩,g4,fun n hn=>by have:=i2 n hn;omega⟩
   rcases i3 with i3 | i3
   ·rw[i3]
    simp
   ·omega
 ·rw[if_neg h3] at h
  omega
theorem G9 {f:aC} (h:aP f=0) (t:List UInt8):(⟨bR f++t,false⟩:Rd).frame=f∧(⟨bR f++t,false⟩:Rd).end_=⟨t,false⟩:=by
 obtain⟨hk,hn,hi,⟨ho1,ho2⟩,⟨hd1,hd2⟩,⟨ha1,ha2⟩,hv1,hv2⟩:=mH h
 obtain⟨kind,node,id,ops,deps,ats,vals⟩:=f
 simp only at *
 have e:bR ⟨kind,node,id,ops,deps,ats,vals⟩++t=byt kind::byt node::byt id::byt ops.length::(gX ops++(byt deps.length::(gB deps++(byt ats.length::(dW ats vals++t))))):=by simp[bR]
 rw[e]
 generalize hr:(⟨byt kind::byt node::byt id::byt ops.length::(gX ops++(byt deps.length::(gB deps++(byt ats.length::(dW ats vals++t))))),false⟩:Rd)=r
 have q1:r.r1=⟨byt ops.length::(gX ops++(byt deps.length::(gB deps++(byt ats.length::(dW ats vals++t))))),false⟩:=by rw[←hr];rfl
 have q2:r.o1=(ops,⟨byt deps.length::(gB deps++(byt ats.length::(dW ats vals++t))),false⟩):=by
  unfold Rd.o1
  rw[q1,Rd.one_put (by omega) (by omega),Rd.next_put,Int.toNat_natCast,Rd.ops_put _ _ ho2]
 have q3:r.d1=(deps,⟨byt ats.length::(dW ats vals++t),false⟩):=by
  unfold Rd.d1
  rw[q2,Rd.one_put (by omega) (by omega),Rd.next_put,Int.toNat_natCast,Rd.nums_put _ _ hd2]
 have q4:r.t1=(ats,vals,⟨t,false⟩):=by
  unfold Rd.t1
  rw[q3,Rd.one_put (by omega) (by omega),Rd.next_put,Int.toNat_natCast,Rd.told_put _ _ _ hv1 ha2 hv2]
 refine⟨?_,by unfold Rd.end_;rw[q4]⟩
 unfold Rd.frame
 rw[q2,q3,q4,←hr]
 simp only[Rd.next_put]
 rw[Rd.one_put (by omega) (by omega),Rd.one_put (by omega) (by omega),Rd.one_put (by omega) (by omega)]
def okL (s:List UInt8):Bool:=!((⟨s,false⟩:Rd).end_.short || !(⟨s,false⟩:Rd).end_.rest.isEmpty) && (aP (⟨s,false⟩:Rd).frame == 0)
def nU:aC:=⟨0,0,0,[],[],[],[]⟩
def eM (s:List UInt8):aC:=if okL s=true then (⟨s,false⟩:Rd).frame else nU
def iW (s:List UInt8):Int:=if okL s=true then 0 else 1
theorem lG {f:aC} (h:aP f=0):okL (bR f)=true∧eM (bR f)=f:=by
 obtain⟨e1,e2⟩:=G9 h []
 rw[List.append_nil] at e1 e2
 have ho:okL (bR f)=true:=by unfold okL;rw[e1,e2,h];rfl
 exact⟨ho,by unfold eM;rw[if_pos ho,e1]⟩
theorem EI (zs:List OpL):(gX zs).length=8*zs.length:=by
 induction zs with
 | nil=>rfl
 | cons o zs ih=>rw[uA,List.length_append,ih];simp[D2];omega
theorem uC:∀(xs vs:List Int),vs.length=xs.length→(dW xs vs).length=7*xs.length
 | [],[],_=>rfl
 | [],_::_,h=>by simp at h
 | _::_,[],h=>by simp at h
 | a::xs,v::vs,h=>by
  have:=uC xs vs (by simpa using h)
  simp[dW,D2,this]
  omega
theorem p9 {f:aC} (h:aP f=0):(bR f).length≤98∧6≤(bR f).length:=by
 obtain⟨hk,hn,hi,⟨ho1,ho2⟩,⟨hd1,hd2⟩,⟨ha1,ha2⟩,hv1,hv2⟩:=mH h
 unfold bR
 have e1:=EI f.ops
 have e2:=uC f.ats f.vals hv1
 simp[gB,e1,e2]
 omega
structure cZ where
 state:Int
 ops:List OpL
 first:List Int
 deps:List Int
 ats:List Int
 vals:List Int
def kJ:cZ:=⟨0,[],[],[],[],[]⟩
structure aA where
 ent:Nat→cZ
 order:List Int
 vals:Nat→Int
def dU:aA:=⟨fun _=>kJ,[],fun _=>0⟩
def dQ:Int→Nat→List Int→Bool
 | _,_,[]=>true
 | l,n,k::r=>decide (l<k) && decide (k<(n:Int)) && dQ k n r
structure D7 (e:cZ) (n:Nat):Prop where
 st:1≤e.state∧e.state≤3
 ops:bQ e.ops=true
 first:bF (-1) e.first=true∧dO e.first n=false
 deps:bF (-1) e.deps=true∧dO e.deps n=false
 asked:e.state=1→e.deps=[]
 told:e.state≠3→e.ats=[]
 ats:dQ (-1) e.ops.length e.ats=true
 vals:e.vals.length=e.ats.length
structure bT (s:aA):Prop where
 ent:∀n:Nat,n<32→s.ent n=kJ∨D7 (s.ent n) n
 cnt:∀n:Nat,n<32→s.order.count (n:Int)=if (s.ent n).state=3 then 1 else 0
 lt:∀x∈s.order,0≤x∧x<32
def aA.ahead (s:aA) (id:Nat) (ops:List OpL) (sh:Int):List Int:=cR (fun n=>n !=id && decide (0<(s.ent n).state) && dM (s.ent n).ops ops sh) 32
def cD (sh:Int):Nat→List OpL→(Nat→Int)→(Nat→Int) × List Int × List Int
  | _,[],v=>(v,[],[])
  | i,o::r,v=>
    if o.2.1 % 2 == sh then ((cD sh (i+1) r (upd v o.2.1.toNat (doL (v o.2.1.toNat) o.1 o.2.2))).1,(i:Int)::(cD sh (i+1) r (upd v o.2.1.toNat (doL (v o.2.1.toNat) o.1 o.2.2))).2.1,
      doL (v o.2.1.toNat) o.1 o.2.2::(cD sh (i+1) r (upd v o.2.1.toNat (doL (v o.2.1.toNat) o.1 o.2.2))).2.2)
    else cD sh (i+1) r v
def aA.exec (s:aA) (sh:Int) (n:Nat):aA:=
 ⟨upd s.ent n ⟨3,(s.ent n).ops,(s.ent n).first,(s.ent n).deps,(cD sh 0 (s.ent n).ops s.vals).2.1,(cD sh 0 (s.ent n).ops s.vals).2.2⟩,s.order++[(n:Int)],(cD sh 0 (s.ent n).ops s.vals).1⟩
def aA.execIf (sh:Int) (s:aA) (m:Nat):aA:=if (s.ent m).state=2 then s.exec sh m else s
def aA.execs (s:aA) (sh:Int) (l:List Nat):aA:=l.foldl (aA.execIf sh) s
def aA.graph (s:aA):bD:=⟨fun i=>decide (2≤(s.ent i).state),fun i=>(s.ent i).deps⟩
def aA.round (g:bD) (sh:Int) (t:aA) (n:Nat):aA:=if (t.ent n).state=2 then t.execs sh (eE g n) else t
def aA.settle (s:aA) (sh:Int):aA:=(List.range 32).foldl (aA.round s.graph sh) s
def aA.heard (s:aA) (sh:Int) (f:aC):aA:={ s with ent:=upd s.ent f.id.toNat ⟨1,f.ops,s.ahead f.id.toNat f.ops sh,[],[],[]⟩ }
def aA.asked (s:aA) (sh:Int) (f:aC):aA:=if (s.ent f.id.toNat).state=0 then s.heard sh f else s
def aA.placed (s:aA) (sh:Int) (f:aC):aA:=
 { s with ent:=upd s.ent f.id.toNat ⟨2,f.ops,if (s.ent f.id.toNat).state=0 then s.ahead f.id.toNat f.ops sh else (s.ent f.id.toNat).first,f.deps,(s.ent f.id.toNat).ats,(s.ent f.id.toNat).vals⟩ }
def aA.commit (s:aA) (sh:Int) (f:aC):aA:=if (s.ent f.id.toNat).state<2 then (s.placed sh f).settle sh else s
def aA.answers (s:aA) (sh who id:Int):List aC:=
 ⟨4,who,id,[],[],[],[]⟩::(if (s.ent id.toNat).state=3∧aZ (s.ent id.toNat).ops sh=true then [⟨5,who,id,[],[],(s.ent id.toNat).ats,(s.ent id.toNat).vals⟩] else [])
structure gE (s t:aA):Prop where
 state:∀n,(s.ent n).state≤(t.ent n).state
 first:∀n,(s.ent n).state≠0→(t.ent n).first=(s.ent n).first
 fixed:∀n,2≤(s.ent n).state→(t.ent n).deps=(s.ent n).deps∧(t.ent n).ops=(s.ent n).ops
 done:∀n,(s.ent n).state=3→t.ent n=s.ent n
 order:∃l,t.order=s.order++l
theorem gE.refl (s:aA):gE s s:=⟨fun _=>Int.le_refl _,fun _ _=>rfl,fun _ _=>⟨rfl,rfl⟩,fun _ _=>rfl,[],by simp⟩
theorem gE.trans {s t u:aA} (h:gE s t) (k:gE t u) (h0:∀n,0≤(s.ent n).state):gE s u:=by
 refine⟨fun n=>Int.le_trans (h.state n) (k.state n),fun n hn=>?_,fun n hn=>?_,fun n hn=>?_,?_⟩
 ·rw[k.first n (by have:=h.state n;have:=h0 n;omega),h.first n hn]
 ·obtain⟨a,b⟩:=h.fixed n hn
  obtain⟨c,d⟩:=k.fixed n (by have:=h.state n;omega)
  exact⟨c.trans a,d.trans b⟩
 ·rw[k.done n (by rw[h.done n hn];exact hn),h.done n hn]
 ·obtain⟨l,hl⟩:=h.order
  obtain⟨m,hm⟩:=k.order
  exact⟨l++m,by rw[hm,hl,List.append_assoc]⟩
theorem FB (s:aA) (sh:Int) (n:Nat) (h:(s.ent n).state=2):gE s (s.exec sh n):=by
 have same:(s.exec sh n).ent n=⟨3,(s.ent n).ops,(s.ent n).first,(s.ent n).deps,_,_⟩:=aR _ _ _
 have other:∀m,m≠n→(s.exec sh n).ent m=s.ent m:=fun m hm=>aM _ _ hm
 refine⟨fun m=>?_,fun m hm=>?_,fun m hm=>?_,fun m hm=>?_,[(n:Int)],rfl⟩
 ·by_cases e:m=n
  ·rw[e,same,h];show (2:Int)≤3;decide
  ·rw[other m e];exact Int.le_refl _
 ·by_cases e:m=n
  ·rw[e,same]
  ·rw[other m e]
 ·by_cases e:m=n
  ·rw[e,same];exact⟨rfl,rfl⟩
  ·rw[other m e];exact⟨rfl,rfl⟩
 ·by_cases e:m=n
  ·rw[e,h] at hm;cases hm
  ·exact other m e
theorem sO (s:aA) (sh:Int) (n:Nat):gE s (aA.execIf sh s n):=by
 unfold aA.execIf
 split
 ·rename_i h;exact FB s sh n h
 ·exact gE.refl s
theorem uK {α:Type} (f:aA→α→aA) (hf:∀s a,gE s (f s a)):∀(l:List α) (s:aA),(∀n,0≤(s.ent n).state)→gE s (l.foldl f s)
 | [],s,_=>gE.refl s
 | a::l,s,h0=>by
  have h1:=hf s a
  exact h1.trans (uK f hf l (f s a) (fun n=>Int.le_trans (h0 n) (h1.state n))) h0
theorem BD (s:aA) (sh:Int) (h0:∀n,0≤(s.ent n).state):gE s (s.settle sh):=by
 have:∀(l:List Nat) (t:aA),(∀n,0≤(t.ent n).state)→gE t (l.foldl (aA.round s.graph sh) t):=by
  intro l
  induction l with
  | nil=>exact fun t _=>gE.refl t
  | cons a l ih=>
   intro t ht
   have h1:gE t (aA.round s.graph sh t a):=by
    unfold aA.round
    split
    ·exact uK _ (fun s a=>sO s sh a) _ _ ht
    ·exact gE.refl t
   exact h1.trans (ih _ (fun n=>Int.le_trans (ht n) (h1.state n))) ht
 exact this _ s h0
theorem jQ (s:aA) (sh:Int) (f:aC):(s.heard sh f).ent f.id.toNat=⟨1,f.ops,s.ahead f.id.toNat f.ops sh,[],[],[]⟩:=aR _ _ _
theorem fE (s:aA) (sh:Int) (f:aC) {m:Nat} (h:m≠f.id.toNat):(s.heard sh f).ent m=s.ent m:=aM _ _ h
theorem uJ (s:aA) (sh:Int) (f:aC):gE s (s.asked sh f):=by
 unfold aA.asked
 split
 ·rename_i h
  refine⟨fun m=>?_,fun m hm=>?_,fun m hm=>?_,fun m hm=>?_,[],by simp[aA.heard]⟩
  ·by_cases e:m=f.id.toNat
   ·subst e;rw[jQ,h];show (0:Int)≤1;decide
   ·rw[fE s sh f e];exact Int.le_refl _
  ·by_cases e:m=f.id.toNat
   ·subst e;exact absurd h hm
   ·rw[fE s sh f e]
  ·by_cases e:m=f.id.toNat
   ·subst e;omega
   ·rw[fE s sh f e];exact⟨rfl,rfl⟩
  ·by_cases e:m=f.id.toNat
   ·subst e;omega
   ·exact fE s sh f e
 ·exact gE.refl s
theorem kW (s:aA) (sh:Int) (f:aC):(s.placed sh f).ent f.id.toNat=⟨2,f.ops,if (s.ent f.id.toNat).state=0 then s.ahead f.id.toNat f.ops sh else (s.ent f.id.toNat).first,f.deps,(s.ent f.id.toNat).ats,(s.ent f.id.toNat).vals⟩:=aR _ _ _
theorem sP (s:aA) (sh:Int) (f:aC) (h:(s.ent f.id.toNat).state<2):gE s (s.placed sh f):=by
 have same:(s.placed sh f).ent f.id.toNat=⟨2,f.ops,if (s.ent f.id.toNat).state=0 then s.ahead f.id.toNat f.ops sh else (s.ent f.id.toNat).first,f.deps,(s.ent f.id.toNat).ats,(s.ent f.id.toNat).vals⟩:=aR _ _ _
 have other:∀m,m≠f.id.toNat→(s.placed sh f).ent m=s.ent m:=fun m hm=>aM _ _ hm
 refine⟨fun m=>?_,fun m hm=>?_,fun m hm=>?_,fun m hm=>?_,[],by simp[aA.placed]⟩
 ·by_cases e:m=f.id.toNat
  ·subst e;rw[same];show _≤(2:Int);omega
  ·rw[other m e];exact Int.le_refl _
 ·by_cases e:m=f.id.toNat
  ·subst e;rw[same];show (if _ then _ else _)=_;rw[if_neg hm]
  ·rw[other m e]
 ·by_cases e:m=f.id.toNat
  ·subst e;omega
  ·rw[other m e];exact⟨rfl,rfl⟩
 ·by_cases e:m=f.id.toNat
  ·subst e;omega
  ·exact other m e
theorem BC (s:aA) (sh:Int) (f:aC) (h0:∀n,0≤(s.ent n).state):gE s (s.commit sh f):=by
 unfold aA.commit
 split
 ·rename_i h
  have h1:=sP s sh f h
  exact h1.trans (BD _ sh (fun n=>Int.le_trans (h0 n) (h1.state n))) h0
 ·exact gE.refl s
theorem JB (xs:List Nat):∀(l:Int),(∀x∈xs,l<(x:Int)∧x<32)→xs.Pairwise (· < ·)→bF l (xs.map Int.ofNat)=true:=by
 induction xs with
 | nil=>intros;rfl
 | cons x r ih=>
  intro l h hp
  have hx:=h x (by simp)
  obtain⟨h1,h2⟩:=List.pairwise_cons.1 hp
  rw[List.map_cons,bF,ih (Int.ofNat x) (fun y hy=>⟨by have:=h1 y hy;simp;omega,(h y (by simp[hy])).2⟩) h2]
  have e1:decide (Int.ofNat x≤l)=false:=by simp;omega
  have e2:decide (32≤Int.ofNat x)=false:=by simp;omega
  rw[e1,e2]
  rfl
theorem tU (s:aA) (id:Nat) (ops:List OpL) (sh:Int):bF (-1) (s.ahead id ops sh)=true:=by
 unfold aA.ahead cR
 refine JB _ _ (fun x hx=>?_) (List.Pairwise.filter _ List.pairwise_lt_range)
 have:=List.mem_range.1 (List.mem_filter.1 hx).1
 omega
theorem yF (s:aA) (id:Nat) (ops:List OpL) (sh:Int):dO (s.ahead id ops sh) id=false:=by
 unfold dO
 rw[List.any_eq_false]
 intro x hx he
 unfold aA.ahead cR at hx
 rw[List.mem_map] at hx
 obtain⟨y,hy,rfl⟩:=hx
 have h1:=(List.mem_filter.1 hy).2
 unfold eqB at he
 have:y=id:=by
  have h2:((y:Nat):Int)=(id:Int):=by simpa using he
  omega
 subst this
 simp at h1
theorem xV (sh:Int):∀(ops:List OpL) (i:Nat) (v:Nat→Int) (l:Int) (N:Nat),l<(i:Int)→i+ops.length≤N→dQ l N (cD sh i ops v).2.1=true
 | [],_,_,_,_,_,_=>rfl
 | o::r,i,v,l,N,h1,h2=>by
  simp only[List.length_cons] at h2
  unfold cD
  split
  ·show (decide (l<(i:Int)) && decide ((i:Int)<(N:Int)) && dQ (i:Int) N _)=true
   rw[decide_eq_true h1,decide_eq_true (show (i:Int)<(N:Int) by omega),xV sh r (i+1) _ (i:Int) N (by omega) (by omega)]
   rfl
  ·exact xV sh r (i+1) v l N (by omega) (by omega)
theorem xX (sh:Int):∀(ops:List OpL) (i:Nat) (v:Nat→Int),(cD sh i ops v).2.2.length=(cD sh i ops v).2.1.length
 | [],_,_=>rfl
 | o::r,i,v=>by
  unfold cD
  split
  ·simp only[List.length_cons,xX sh r (i+1)]
  ·exact xX sh r (i+1) v
theorem L0:(1:Int)≤3∧(3:Int)≤3:=by decide
theorem NC:(1:Int)≤2∧(2:Int)≤3:=by decide
theorem NQ:(1:Int)≤1∧(1:Int)≤3:=by decide
theorem bT.fine {s:aA} (h:bT s) {n:Nat} (hn:n<32) (hs:(s.ent n).state≠0):D7 (s.ent n) n:=by
 rcases h.ent n hn with e | e
 ·rw[e] at hs;exact absurd rfl hs
 ·exact e
theorem bT.state {s:aA} (h:bT s) {n:Nat} (hn:n<32):0≤(s.ent n).state∧(s.ent n).state≤3:=by
 rcases h.ent n hn with e | e
 ·rw[e];decide
 ·have:=e.st;omega
theorem yR {s:aA} (h:bT s) (sh:Int) {n:Nat} (hn:n<32) (hs:(s.ent n).state=2):bT (s.exec sh n):=by
 have F:=h.fine hn (by rw[hs];decide)
 have same:(s.exec sh n).ent n=⟨3,(s.ent n).ops,(s.ent n).first,(s.ent n).deps,(cD sh 0 (s.ent n).ops s.vals).2.1,(cD sh 0 (s.ent n).ops s.vals).2.2⟩:=aR _ _ _
 have other:∀m,m≠n→(s.exec sh n).ent m=s.ent m:=fun m hm=>aM _ _ hm
 refine⟨fun m hm=>?_,fun m hm=>?_,fun x hx=>?_⟩
 ·by_cases e:m=n
  ·subst e
   right
   rw[same]
   exact⟨L0,F.ops,F.first,F.deps,fun h=>absurd (show (3:Int)=1 from h) (by decide),fun h=>absurd rfl h,xV sh (s.ent m).ops 0 s.vals (-1) (s.ent m).ops.length (by omega) (by omega),xX sh _ _ _⟩
  ·rw[other m e];exact h.ent m hm
 ·have h1:=h.cnt m hm
  show (s.order++[(n:Int)]).count (m:Int)=_
  rw[List.count_append,h1]
  by_cases e:m=n
  ·subst e
   rw[same,hs]
   simp
  ·rw[other m e]
   have:List.count (m:Int) [(n:Int)]=0:=by
    rw[List.count_eq_zero]
    simp
    omega
   rw[this]
   rfl
 ·rcases List.mem_append.1 hx with hx | hx
  ·exact h.lt x hx
  ·simp at hx
   omega
theorem lR (sh:Int):∀(l:List Nat) {s:aA},(∀x∈l,x<32)→bT s→bT (s.execs sh l)
 | [],_,_,h=>h
 | a::l,s,hl,h=>by
  have h1:bT (aA.execIf sh s a):=by
   unfold aA.execIf
   split
   ·rename_i e;exact yR h sh (hl a (by simp)) e
   ·exact h
  exact lR (s:=aA.execIf sh s a) sh l (fun x hx=>hl x (by simp[hx])) h1
theorem kU (g:bD) (n:Int):∀x∈eE g n,x<32:=by
 intro x hx
 unfold eE at hx
 split at hx
 ·exact (mM _ _ 32).lt x hx
 ·simp at hx
theorem CP {s:aA} (h:bT s) (sh:Int):bT (s.settle sh):=by
 have:∀(l:List Nat) (t:aA),bT t→bT (l.foldl (aA.round s.graph sh) t):=by
  intro l
  induction l with
  | nil=>exact fun t ht=>ht
  | cons a l ih=>
   intro t ht
   refine ih _ ?_
   unfold aA.round
   split
   ·exact lR (s:=t) sh _ (kU _ _) ht
   ·exact ht
 exact this _ s h
theorem kD {f:aC} (h:aP f=0):0≤f.id∧f.id<32∧((f.kind=1∨f.kind=3)→bQ f.ops=true)∧(f.kind=3→bF (-1) f.deps=true∧dO f.deps f.id=false):=by
 unfold aP at h
 split at h
 ·cases h
 ·split at h
  ·cases h
  ·rename_i h2
   split at h
   ·rename_i h3
    rw[Bool.and_eq_true,Bool.and_eq_true] at h3
    refine⟨by omega,by omega,fun hk=>?_,fun hk=>?_⟩
    ·have:=h3.1
     unfold eO at this
     rw[if_pos hk] at this
     exact this
    ·have:=h3.2.1
     unfold dS at this
     rw[if_pos (Or.inr hk),Bool.and_eq_true] at this
     exact⟨this.1,by simpa using this.2⟩
   ·cases h
theorem EW {s:aA} (h:bT s) (sh:Int) {f:aC} (hf:aP f=0) (hk:f.kind=1):bT (s.asked sh f):=by
 obtain⟨i1,i2,i3,_⟩:=kD hf
 unfold aA.asked
 split
 ·rename_i e0
  refine⟨fun m hm=>?_,fun m hm=>?_,h.lt⟩
  ·by_cases e:m=f.id.toNat
   ·subst e
    right
    rw[jQ]
    exact⟨NQ,i3 (Or.inl hk),⟨tU _ _ _ _,yF _ _ _ _⟩,⟨rfl,rfl⟩,fun _=>rfl,fun _=>rfl,rfl,rfl⟩
   ·rw[fE s sh f e];exact h.ent m hm
  ·have h1:=h.cnt m hm
   show s.order.count (m:Int)=_
   rw[h1]
   by_cases e:m=f.id.toNat
   ·subst e
    rw[jQ,e0]
    rfl
   ·rw[fE s sh f e]
 ·exact h
theorem lY {s:aA} (h:bT s) (sh:Int) {f:aC} (hf:aP f=0) (hk:f.kind=3) (hs:(s.ent f.id.toNat).state<2):bT (s.placed sh f):=by
 obtain⟨i1,i2,i3,i4⟩:=kD hf
 have hid:((f.id.toNat:Nat):Int)=f.id:=by omega
 have hlt:f.id.toNat<32:=by omega
 have other:∀m,m≠f.id.toNat→(s.placed sh f).ent m=s.ent m:=fun m hm=>aM _ _ hm
 have hats:(s.ent f.id.toNat).ats=[]∧(s.ent f.id.toNat).vals=[]:=by
  rcases h.ent _ hlt with e | e
  ·rw[e];exact⟨rfl,rfl⟩
  ·have h1:=e.told (by omega)
   exact⟨h1,List.eq_nil_of_length_eq_zero (by rw[e.vals,h1];rfl)⟩
 refine⟨fun m hm=>?_,fun m hm=>?_,h.lt⟩
 ·by_cases e:m=f.id.toNat
  ·subst e
   right
   rw[kW,hats.1,hats.2]
   have hfi:bF (-1) (if (s.ent f.id.toNat).state=0 then s.ahead f.id.toNat f.ops sh else (s.ent f.id.toNat).first)=true∧dO (if (s.ent f.id.toNat).state=0 then s.ahead f.id.toNat f.ops sh else (s.ent f.id.toNat).first) ((f.id.toNat:Nat):Int)=false:=by
    split
    ·exact⟨tU _ _ _ _,yF _ _ _ _⟩
    ·rename_i e0
     exact (h.fine hlt e0).first
   have hdp:bF (-1) f.deps=true∧dO f.deps ((f.id.toNat:Nat):Int)=false:=by rw[hid];exact i4 hk
   exact⟨NC,i3 (Or.inr hk),hfi,hdp,fun h=>absurd (show (2:Int)=1 from h) (by decide),fun _=>rfl,rfl,rfl⟩
  ·rw[other m e];exact h.ent m hm
 ·have h1:=h.cnt m hm
  show s.order.count (m:Int)=_
  rw[h1]
  by_cases e:m=f.id.toNat
  ·subst e
   rw[kW,if_neg (by omega)]
   rfl
  ·rw[other m e]
theorem uF {s:aA} (h:bT s) (sh:Int) {f:aC} (hf:aP f=0) (hk:f.kind=3):bT (s.commit sh f):=by
 unfold aA.commit
 split
 ·rename_i e;exact CP (lY h sh hf hk e) sh
 ·exact h
theorem H9:bT dU:=⟨fun _ _=>Or.inl rfl,fun _ _=>rfl,by simp[dU]⟩
def bD.learn (g:bD) (m:Nat) (zs:List Int):bD:=⟨upd g.known m true,upd g.deps m zs⟩
theorem yU {g:bD} {m:Nat} {zs:List Int} {x:Nat} (hx:x≠m) (y:Nat):(g.learn m zs).adj x y=g.adj x y:=by
 unfold bD.adj bD.learn
 simp only[aM _ _ hx]
theorem CQ {g:bD} {m:Nat} {zs:List Int} {x y:Nat} (h:cE g.adj x y) (hm:¬ cE g.adj x m):cE (g.learn m zs).adj x y:=by
 induction h using cE.ind with
 | refl=>exact .refl _
 | step a h ih=>
  rename_i x z y
  have hx:x≠m:=fun e=>hm (e ▸ .refl _)
  exact .step (by rw[yU hx];exact a) (ih (fun h=>hm (.step a h)))
theorem zS {g:bD} {m:Nat} {zs:List Int} {x y:Nat} (h:cE (g.learn m zs).adj x y) (hm:¬ cE g.adj x m):cE g.adj x y:=by
 induction h using cE.ind with
 | refl=>exact .refl _
 | step a h ih=>
  rename_i x z y
  have hx:x≠m:=fun e=>hm (e ▸ .refl _)
  rw[yU hx] at a
  exact .step a (ih (fun h=>hm (.step a h)))
theorem II {g:bD} {m:Nat} {zs:List Int} {x:Nat} (hx:x<32) (hm:cG g x m=false) (y:Nat):cG g x y=cG (g.learn m zs) x y:=by
 have hm':¬ cE g.adj x m:=fun h=>by rw[(cH g hx m).2 h] at hm;cases hm
 rw[Bool.eq_iff_iff,cH g hx y,cH (g.learn m zs) hx y]
 exact⟨fun h=>CQ h hm',fun h=>zS h hm'⟩
def aA.did (s:aA):List Nat:=s.order.map Int.toNat
theorem j5 {s:aA} (h:bT s) {n:Nat} (hn:n<32):n∈s.did↔(s.ent n).state=3:=by
 have h1:=h.cnt n hn
 unfold aA.did
 rw[List.mem_map]
 constructor
 ·rintro⟨x,hx,e⟩
  have:=h.lt x hx
  have ex:x=(n:Int):=by omega
  subst ex
  have:0<s.order.count (n:Int):=List.count_pos_iff.2 hx
  split at h1
  ·assumption
  ·omega
 ·intro hs
  rw[if_pos hs] at h1
  exact⟨(n:Int),List.count_pos_iff.1 (by omega),by simp⟩
structure iI (s:aA):Prop where
 sorted:j1 (cG s.graph) s.did
 ready:∀x∈s.did,∀d,d<32→cG s.graph x d=true→s.graph.known d=true
theorem vZ (s:aA) (sh:Int) (n:Nat) (h:(s.ent n).state=2):(s.exec sh n).graph=s.graph:=by
 have same:(s.exec sh n).ent n=⟨3,(s.ent n).ops,(s.ent n).first,(s.ent n).deps,_,_⟩:=aR _ _ _
 have other:∀m,m≠n→(s.exec sh n).ent m=s.ent m:=fun m hm=>aM _ _ hm
 have e1:(fun i=>decide (2≤((s.exec sh n).ent i).state))=fun i=>decide (2≤(s.ent i).state):=by
  funext i
  by_cases e:i=n
  ·rw[e,same,h];rfl
  ·rw[other i e]
 have e2:(fun i=>((s.exec sh n).ent i).deps)=fun i=>(s.ent i).deps:=by
  funext i
  by_cases e:i=n
  ·rw[e,same]
  ·rw[other i e]
 unfold aA.graph
 rw[e1,e2]
theorem yK (sh:Int):∀(l:List Nat) (s:aA),l.Nodup→(s.execs sh l).did=s.did++l.filter (fun x=>decide ((s.ent x).state=2))∧(s.execs sh l).graph=s.graph∧∀x,x ∉ l→(s.execs sh l).ent x=s.ent x
 | [],s,_=>⟨by simp[aA.execs],rfl,fun _ _=>rfl⟩
 | a::l,s,hd=>by
  rw[List.nodup_cons] at hd
  obtain⟨i1,i2,i3⟩:=yK sh l (aA.execIf sh s a) hd.2
  have e0:s.execs sh (a::l)=(aA.execIf sh s a).execs sh l:=rfl
  rw[e0,i1,i2]
  by_cases h:(s.ent a).state=2
  ·have e1:aA.execIf sh s a=s.exec sh a:=by unfold aA.execIf;rw[if_pos h]
   have other:∀m,m≠a→(s.exec sh a).ent m=s.ent m:=fun m hm=>aM _ _ hm
   rw[e1] at i3 ⊢
   refine⟨?_,vZ s sh a h,fun x hx=>?_⟩
   ·have hf:l.filter (fun x=>decide (((s.exec sh a).ent x).state=2))=l.filter (fun x=>decide ((s.ent x).state=2)):=List.filter_congr fun x hx=>by rw[other x (fun e=>hd.1 (e ▸ hx))]
    rw[hf,List.filter_cons_of_pos (by simpa using h)]
    unfold aA.did aA.exec
    simp
   ·rw[i3 x (fun h=>hx (by simp[h])),other x (fun e=>hx (by simp[e]))]
  ·have e1:aA.execIf sh s a=s:=by unfold aA.execIf;rw[if_neg h]
   rw[e1] at i3 ⊢
   refine⟨by rw[List.filter_cons_of_neg (by simpa using h)],rfl,fun x hx=>i3 x (fun h=>hx (by simp[h]))⟩
theorem GD {s:aA} (h:bT s) (S:iI s) (sh:Int) {n:Nat} (hn:n<32):iI (s.execs sh (eE s.graph n))∧(s.execs sh (eE s.graph n)).graph=s.graph:=by
 cases hr:jB s.graph (n:Int)
 ·have:eE s.graph (n:Int)=[]:=by unfold eE;rw[hr];rfl
  rw[this]
  exact⟨S,rfl⟩
 ·have hc:=AO s.graph hn
  have eo:eE s.graph (n:Int)=dV (cG s.graph) (cG s.graph n) 32:=by unfold eE;rw[hr,←wJ s.graph hn];rfl
  have hk:∀i,i<32→cG s.graph n i=true→s.graph.known i=true:=by
   have h1:=hr
   unfold jB at h1
   rw[Bool.and_eq_true] at h1
   exact wE.1 h1.2
  have L:=nE hc 32
  obtain⟨e1,e2,_⟩:=yK sh (eE s.graph (n:Int)) s (by rw[eo];exact L.nodup)
  refine⟨?_,e2⟩
  have hf:(eE s.graph (n:Int)).filter (fun x=>decide ((s.ent x).state=2))=(dV (cG s.graph) (cG s.graph n) 32).filter fun x=>!s.did.contains x:=by
   rw[eo]
   refine List.filter_congr fun x hx=>?_
   have hd:=L.inD x hx
   have hx32:=hc.lt x hd
   have h2:2≤(s.ent x).state:=by simpa [aA.graph] using hk x hx32 hd
   have h3:=(h.state hx32).2
   have h4:=j5 h hx32
   rw[Bool.eq_iff_iff]
   simp only[decide_eq_true_iff,Bool.not_eq_true',List.contains_eq_mem,decide_eq_false_iff_not]
   constructor
   ·intro h5 h6
    have:=h4.1 h6
    omega
   ·intro h5
    have:(s.ent x).state≠3:=fun e=>h5 (h4.2 e)
    omega
  rw[hf] at e1
  refine⟨by rw[e1,e2];exact DJ hc S.sorted,fun x hx d hd hxd=>?_⟩
  rw[e2] at hxd ⊢
  rw[e1] at hx
  rcases List.mem_append.1 hx with hx | hx
  ·exact S.ready x hx d hd hxd
  ·have hdx:=L.inD x (List.mem_filter.1 hx).1
   exact hk d hd (hc.closed x d hdx hxd)
theorem DI {s:aA} (h:bT s) (S:iI s) (sh:Int):iI (s.settle sh):=by
 have:∀(l:List Nat) (t:aA),(∀x∈l,x<32)→bT t→iI t→t.graph=s.graph→iI (l.foldl (aA.round s.graph sh) t):=by
  intro l
  induction l with
  | nil=>exact fun t _ _ ht _=>ht
  | cons a l ih=>
   intro t hl hg hS he
   have ha:=hl a (by simp)
   have h1:bT (aA.round s.graph sh t a)∧iI (aA.round s.graph sh t a)∧(aA.round s.graph sh t a).graph=s.graph:=by
    unfold aA.round
    split
    ·rw[←he]
     obtain⟨k1,k2⟩:=GD hg hS sh ha
     exact⟨lR sh _ (kU _ _) hg,k1,k2⟩
    ·exact⟨hg,hS,he⟩
   exact ih _ (fun x hx=>hl x (by simp[hx])) h1.1 h1.2.1 h1.2.2
 exact this _ s (fun x hx=>List.mem_range.1 hx) h S rfl
theorem pO {s:aA} (h:bT s) (sh:Int) {f:aC} (hf:aP f=0):(s.asked sh f).graph=s.graph:=by
 obtain⟨i1,i2,_,_⟩:=kD hf
 unfold aA.asked
 split
 ·rename_i e0
  have hz:s.ent f.id.toNat=kJ:=by
   rcases h.ent f.id.toNat (by omega) with e | e
   ·exact e
   ·have:=e.st;omega
  have e1:(fun i=>decide (2≤((s.heard sh f).ent i).state))=fun i=>decide (2≤(s.ent i).state):=by
   funext i
   by_cases e:i=f.id.toNat
   ·rw[e,jQ,hz];rfl
   ·rw[fE s sh f e]
  have e2:(fun i=>((s.heard sh f).ent i).deps)=fun i=>(s.ent i).deps:=by
   funext i
   by_cases e:i=f.id.toNat
   ·rw[e,jQ,hz];rfl
   ·rw[fE s sh f e]
  unfold aA.graph
  rw[e1,e2]
 ·rfl
theorem yJ (s:aA) (sh:Int) (f:aC):(s.asked sh f).did=s.did:=by
 unfold aA.asked
 split<;>rfl
theorem GC {s:aA} (h:bT s) (S:iI s) (sh:Int) {f:aC} (hf:aP f=0):iI (s.asked sh f):=by
 refine⟨?_,?_⟩
 ·rw[pO h sh hf,yJ];exact S.sorted
 ·rw[pO h sh hf,yJ];exact S.ready
theorem sM (s:aA) (sh:Int) (f:aC):(s.placed sh f).graph=s.graph.learn f.id.toNat f.deps:=by
 have other:∀m,m≠f.id.toNat→(s.placed sh f).ent m=s.ent m:=fun m hm=>aM _ _ hm
 have e1:(fun i=>decide (2≤((s.placed sh f).ent i).state))=upd (fun i=>decide (2≤(s.ent i).state)) f.id.toNat true:=by
  funext i
  by_cases e:i=f.id.toNat
  ·rw[e,kW,aR];rfl
  ·rw[other i e,aM _ _ e]
 have e2:(fun i=>((s.placed sh f).ent i).deps)=upd (fun i=>(s.ent i).deps) f.id.toNat f.deps:=by
  funext i
  by_cases e:i=f.id.toNat
  ·rw[e,kW,aR]
  ·rw[other i e,aM _ _ e]
 unfold aA.graph bD.learn
 rw[e1,e2]
theorem DH {s:aA} (S:iI s) (sh:Int) {f:aC} (hf:aP f=0) (hs:(s.ent f.id.toNat).state<2):iI (s.placed sh f):=by
 obtain⟨i1,i2,_,_⟩:=kD hf
 have hid:f.id.toNat<32:=by omega
 have hunk:s.graph.known f.id.toNat=false:=by
  show decide (2≤(s.ent f.id.toNat).state)=false
  exact decide_eq_false (by omega)
 have hno:∀x∈s.did,cG s.graph x f.id.toNat=false:=by
  intro x hx
  cases hh:cG s.graph x f.id.toNat
  ·rfl
  ·rw[S.ready x hx _ hid hh] at hunk;cases hunk
 have hrow:∀x∈s.did,∀y,y<32→cG s.graph x y=cG (s.graph.learn f.id.toNat f.deps) x y:=fun x hx y _=>II (S.sorted.lt x hx) (hno x hx) y
 have ed:(s.placed sh f).did=s.did:=rfl
 refine⟨by rw[sM,ed];exact S.sorted.later hrow,fun x hx d hd hxd=>?_⟩
 rw[sM] at hxd ⊢
 rw[ed] at hx
 rw[←hrow x hx d hd] at hxd
 have:=S.ready x hx d hd hxd
 show upd s.graph.known f.id.toNat true d=true
 unfold upd
 split
 ·rfl
 ·exact this
theorem DG {s:aA} (h:bT s) (S:iI s) (sh:Int) {f:aC} (hf:aP f=0) (hk:f.kind=3):iI (s.commit sh f):=by
 unfold aA.commit
 split
 ·rename_i e;exact DI (lY h sh hf hk e) (DH S sh hf e) sh
 ·exact S
theorem JG:iI dU:=⟨GE _,by simp[dU,aA.did]⟩
def gH (e:cZ) (n:Nat):Bool:=
 if e.state=0 then e.ops.isEmpty && e.first.isEmpty && e.deps.isEmpty && e.ats.isEmpty && e.vals.isEmpty
 else decide (1≤e.state∧e.state≤3) && bQ e.ops && (bF (-1) e.first && !dO e.first n) && (bF (-1) e.deps && !dO e.deps n) && (decide (e.state≠1) || e.deps.isEmpty) &&
  (decide (e.state=3) || e.ats.isEmpty) && dQ (-1) e.ops.length e.ats && decide (e.vals.length=e.ats.length)
def h9 (s:aA):Bool:=((List.range 32).all fun n=>gH (s.ent n) n && decide (s.order.count (n:Int)=if (s.ent n).state=3 then 1 else 0)) && s.order.all fun x=>decide (0≤x∧x<32)
theorem KI {e:cZ} {n:Nat}:gH e n=true↔e=kJ∨D7 e n:=by
 obtain⟨st,ops,fi,de,ats,vals⟩:=e
 unfold gH
 by_cases h:st=0
 ·subst h
  rw[if_pos rfl]
  constructor
  ·intro h
   simp at h
   obtain⟨⟨⟨⟨rfl,rfl⟩,rfl⟩,rfl⟩,rfl⟩:=h
   exact Or.inl rfl
  ·rintro (h | h)
   ·cases h;rfl
   ·have h1:(1:Int)≤0:=h.st.1
    omega
 ·rw[if_neg h]
  simp only[Bool.and_eq_true,Bool.or_eq_true,decide_eq_true_iff,Bool.not_eq_true',List.isEmpty_iff]
  constructor
  ·rintro⟨⟨⟨⟨⟨⟨⟨h1,h2⟩,h3⟩,h4⟩,h5⟩,h6⟩,h7⟩,h8⟩
   exact Or.inr ⟨h1,h2,h3,h4,fun e=>h5.resolve_left (fun h=>h e),fun e=>h6.resolve_left e,h7,h8⟩
  ·rintro (e | F)
   ·cases e;exact absurd rfl h
   ·refine⟨⟨⟨⟨⟨⟨⟨F.st,F.ops⟩,F.first⟩,F.deps⟩,?_⟩,?_⟩,F.ats⟩,F.vals⟩
    ·by_cases e:st=1
     ·exact Or.inr (F.asked e)
     ·exact Or.inl e
    ·by_cases e:st=3
     ·exact Or.inl e
     ·exact Or.inr (F.told e)
theorem vX {s:aA}:h9 s=true↔bT s:=by
 unfold h9
 simp only[Bool.and_eq_true,List.all_eq_true,List.mem_range,decide_eq_true_iff,KI]
 exact⟨fun h=>⟨fun n hn=>(h.1 n hn).1,fun n hn=>(h.1 n hn).2,h.2⟩,fun h=>⟨fun n hn=>⟨h.ent n hn,h.cnt n hn⟩,h.lt⟩⟩
def aO (s:aA) (who:Int) (f:aC):aA × List aC × Int:=
 if h9 s=false∨who<0∨5<who∨f.node≠who then (s,[],2)
 else if aP f≠0 then (s,[],aP f)
 else if f.kind=1 then
  if aZ f.ops (ofL who)=false then (s,[],4)
  else (s.asked (ofL who) f,[⟨2,who,f.id,[],((s.asked (ofL who) f).ent f.id.toNat).first,[],[]⟩],0)
 else if f.kind=3 then (s.commit (ofL who) f,(s.commit (ofL who) f).answers (ofL who) who f.id,0)
 else (s,[],3)
theorem dE (s:aA) (who:Int) (f:aC):
    ((aO s who f).2.2≠0∧(aO s who f).1=s∧(aO s who f).2.1=[])∨
    (bT s∧aP f=0∧(aO s who f).2.2=0∧f.node=who∧0≤who∧who≤5∧
      ((f.kind=1∧aZ f.ops (ofL who)=true∧aO s who f=(s.asked (ofL who) f,[⟨2,who,f.id,[],((s.asked (ofL who) f).ent f.id.toNat).first,[],[]⟩],0))∨
       (f.kind=3∧aO s who f=(s.commit (ofL who) f,(s.commit (ofL who) f).answers (ofL who) who f.id,0)))):=by
  by_cases h1:h9 s=false∨who<0∨5<who∨f.node≠who
  ·left
   have e:aO s who f=(s,[],2):=by unfold aO;rw[if_pos h1]
   rw[e]
   exact⟨(show (2:Int)≠0 by decide),rfl,rfl⟩
  ·by_cases h2:aP f≠0
   ·left
    have e:aO s who f=(s,[],aP f):=by unfold aO;rw[if_neg h1,if_pos h2]
    rw[e]
    exact⟨h2,rfl,rfl⟩
   ·have hg:bT s:=vX.1 (by
       cases h:h9 s
       ·exact absurd (Or.inl h) h1
       ·rfl)
    have hn:f.node=who∧0≤who∧who≤5:=by
      refine⟨?_,?_,?_⟩
      ·by_cases e:f.node=who
       ·exact e
       ·exact absurd (Or.inr (Or.inr (Or.inr e))) h1
      ·by_cases e:who<0
       ·exact absurd (Or.inr (Or.inl e)) h1
       ·omega
      ·by_cases e:5<who
       ·exact absurd (Or.inr (Or.inr (Or.inl e))) h1
       ·omega
    have h2':aP f=0:=by omega
    by_cases h3:f.kind=1
    ·by_cases h4:aZ f.ops (ofL who)=false
     ·left
      have e:aO s who f=(s,[],4):=by unfold aO;rw[if_neg h1,if_neg h2,if_pos h3,if_pos h4]
      rw[e]
      exact⟨(show (4:Int)≠0 by decide),rfl,rfl⟩
     ·right
      have e:aO s who f=(s.asked (ofL who) f,[⟨2,who,f.id,[],((s.asked (ofL who) f).ent f.id.toNat).first,[],[]⟩],0):=by unfold aO;rw[if_neg h1,if_neg h2,if_pos h3,if_neg h4]
      exact⟨hg,h2',by rw[e],hn.1,hn.2.1,hn.2.2,Or.inl ⟨h3,by simpa using h4,e⟩⟩
    ·by_cases h5:f.kind=3
     ·right
      have e:aO s who f=(s.commit (ofL who) f,(s.commit (ofL who) f).answers (ofL who) who f.id,0):=by unfold aO;rw[if_neg h1,if_neg h2,if_neg h3,if_pos h5]
      exact⟨hg,h2',by rw[e],hn.1,hn.2.1,hn.2.2,Or.inr ⟨h5,e⟩⟩
     ·left
      have e:aO s who f=(s,[],3):=by unfold aO;rw[if_neg h1,if_neg h2,if_neg h3,if_neg h5]
      rw[e]
      exact⟨(show (3:Int)≠0 by decide),rfl,rfl⟩
theorem zH {s:aA} {who:Int} {f:aC} (h:(aO s who f).2.2=0):bT (aO s who f).1:=by
 rcases dE s who f with ⟨h1,_⟩ | ⟨hg,hf,_,_,_,_,⟨hk,_,e⟩ | ⟨hk,e⟩⟩
 ·exact absurd h h1
 ·rw[e];exact EW hg _ hf hk
 ·rw[e];exact uF hg _ hf hk
theorem JM {s:aA} {who:Int} {f:aC} (S:iI s):iI (aO s who f).1:=by
 rcases dE s who f with ⟨_,h1,_⟩ | ⟨hg,hf,_,_,_,_,⟨hk,_,e⟩ | ⟨hk,e⟩⟩
 ·rw[h1];exact S
 ·rw[e];exact GC hg S _ hf
 ·rw[e];exact DG hg S _ hf hk
theorem m6 (s:aA) (who:Int) (f:aC) (h0:∀n,0≤(s.ent n).state):gE s (aO s who f).1:=by
 rcases dE s who f with ⟨_,h1,_⟩ | ⟨_,_,_,_,_,_,⟨_,_,e⟩ | ⟨_,e⟩⟩
 ·rw[h1];exact gE.refl s
 ·rw[e];exact uJ s _ f
 ·rw[e];exact BC s _ f h0
structure aF where
 begun:Bool
 fixed:Bool
 ops:List OpL
 told:Nat→Bool
 known:Nat→Bool
 deps:List Int
 has:Nat→Bool
 vals:Nat→Int
def cF:aF:=⟨false,false,[],fun _=>false,fun _=>false,[],fun _=>false,fun _=>0⟩
def AE (n:Nat) (p:Nat→Bool):Bool:=(List.range n).all fun i=>!p i
def dK (c:aF):Bool:=
 if c.begun then bQ c.ops && bF (-1) c.deps
 else !c.fixed && c.ops.isEmpty && AE 6 c.told && AE 6 c.known && c.deps.isEmpty && AE 4 c.has && (List.range 4).all fun i=>c.vals i == 0
def hJ (a b:List Int):List Int:=cR (fun i=>a.contains (i:Int) || b.contains (i:Int)) 32
def aF.lacks (c:aF) (sh:Int):Bool:=(List.range c.ops.length).any fun i=>fL sh (c.ops.getD i (0,0,0)) && !c.has i
def aF.send (c:aF) (id:Int) (n:Nat):List aC:=
 if c.fixed then (if !c.known n || c.lacks (ofL n) then [⟨3,n,id,c.ops,c.deps,[],[]⟩] else [])
 else if aZ c.ops (ofL n) && !c.told n then [⟨1,n,id,c.ops,[],[],[]⟩] else []
def bU (c:aF) (id:Int):List aC:=
 if dK c=false∨c.begun=false∨id<0∨32≤id∨dO c.deps id=true then [] else (List.range 6).flatMap (c.send id)
def bK (id:Int) (ops:List OpL):aF × List aC × Int:=
 if id<0∨32≤id then (cF,[],2) else if bQ ops=false then (cF,[],1)
 else ({ cF with begun:=true,ops:=ops },bU { cF with begun:=true,ops:=ops } id,0)
def kA (t:Nat→Bool) (sh:Nat):Nat:=((List.range 3).filter fun k=>t (sh*3+k)).length
def dT (ops:List OpL) (t:Nat→Bool):Bool:=(!aZ ops 0 || decide (2≤kA t 0)) && (!aZ ops 1 || decide (2≤kA t 1))
def aF.hear (c:aF) (f:aC):aF:=
 { c with told:=upd c.told f.node.toNat true,deps:=hJ c.deps f.deps,fixed:=dT c.ops (upd c.told f.node.toNat true) }
def aF.done1 (sh:Int) (c:aF) (p:Int × Int):aF:=
 if p.1<c.ops.length∧fL sh (c.ops.getD p.1.toNat (0,0,0))=true∧c.has p.1.toNat=false then { c with has:=upd c.has p.1.toNat true,vals:=upd c.vals p.1.toNat p.2 } else c
def aF.dones (c:aF) (sh:Int) (l:List (Int × Int)):aF:=l.foldl (aF.done1 sh) c
def aN (c:aF) (id:Int) (f:aC):aF × List aC × Int:=
 if dK c=false∨c.begun=false∨f.id≠id∨dO c.deps id=true then (c,[],2)
 else if aP f≠0 then (c,[],aP f)
 else if f.kind=1∨f.kind=3 then (c,[],3)
 else if f.kind=2 then
  if c.fixed=true∨c.told f.node.toNat=true∨aZ c.ops (ofL f.node)=false then (c,[],0)
  else (c.hear f,if (c.hear f).fixed then bU (c.hear f) id else [],0)
 else if c.fixed=false then (c,[],0)
 else if f.kind=4 then ({ c with known:=upd c.known f.node.toNat true },[],0)
 else (c.dones (ofL f.node) (f.ats.zip f.vals),[],0)
def cN (c:aF):List Int × Bool:=
 if c.begun=false∨dK c=false∨c.lacks 0=true∨c.lacks 1=true then ([],false) else ((List.range c.ops.length).map c.vals,true)
structure lN (c d:aF):Prop where
 begun:d.begun=c.begun
 fixed:d.fixed=c.fixed
 ops:d.ops=c.ops
 told:d.told=c.told
 deps:d.deps=c.deps
theorem lN.refl (c:aF):lN c c:=⟨rfl,rfl,rfl,rfl,rfl⟩
theorem lN.trans {a b c:aF} (h:lN a b) (k:lN b c):lN a c:=⟨k.begun.trans h.begun,k.fixed.trans h.fixed,k.ops.trans h.ops,k.told.trans h.told,k.deps.trans h.deps⟩
def j0 (c d:aF):Prop:=∀i,c.has i=true→d.has i=true∧d.vals i=c.vals i
theorem j0.refl (c:aF):j0 c c:=fun _ h=>⟨h,rfl⟩
theorem j0.trans {a b c:aF} (h:j0 a b) (k:j0 b c):j0 a c:=fun i hi=>⟨(k i (h i hi).1).1,((k i (h i hi).1).2).trans (h i hi).2⟩
theorem t8 (sh:Int) (c:aF) (p:Int × Int):lN c (aF.done1 sh c p)∧j0 c (aF.done1 sh c p):=by
 unfold aF.done1
 split
 ·rename_i h
  refine⟨⟨rfl,rfl,rfl,rfl,rfl⟩,fun i hi=>?_⟩
  have hne:i≠p.1.toNat:=fun e=>by rw[e,h.2.2] at hi;cases hi
  exact⟨by show upd _ _ _ i=true;rw[aM _ _ hne];exact hi,aM _ _ hne⟩
 ·exact⟨lN.refl c,j0.refl c⟩
theorem nP (sh:Int):∀(l:List (Int × Int)) (c:aF),lN c (c.dones sh l)∧j0 c (c.dones sh l)
 | [],c=>⟨lN.refl c,j0.refl c⟩
 | p::l,c=>by
  have h1:=t8 sh c p
  have h2:=nP sh l (aF.done1 sh c p)
  exact⟨h1.1.trans h2.1,h1.2.trans h2.2⟩
theorem fF (c:aF) (id:Int) (f:aC):
  ((aN c id f).2.2≠0∧(aN c id f).1=c∧(aN c id f).2.1=[])∨
  ((aN c id f).2.2=0∧aP f=0∧f.kind=2∧c.fixed=false∧c.told f.node.toNat=false∧aZ c.ops (ofL f.node)=true∧(aN c id f).1=c.hear f∧((aN c id f).2.1≠[]→(c.hear f).fixed=true))∨
  ((aN c id f).2.2=0∧(aN c id f).2.1=[]∧(f.kind=2→c.fixed=true∨c.told f.node.toNat=true∨aZ c.ops (ofL f.node)=false)∧lN c (aN c id f).1∧j0 c (aN c id f).1∧(c.fixed=false→(aN c id f).1=c)):=by
 unfold aN
 split
 ·left;exact⟨(show (2:Int)≠0 by decide),rfl,rfl⟩
 ·split
  ·rename_i h;left;exact⟨h,rfl,rfl⟩
  ·rename_i hg
   have hg:aP f=0:=by
    by_cases e:aP f=0
    ·exact e
    ·exact absurd e hg
   split
   ·left;exact⟨(show (3:Int)≠0 by decide),rfl,rfl⟩
   ·split
    ·rename_i hk
     split
     ·rename_i h
      right;right
      exact⟨rfl,rfl,fun _=>h,lN.refl c,j0.refl c,fun _=>rfl⟩
     ·rename_i h
      right;left
      have h1:c.fixed=false:=by cases e:c.fixed;rfl;exact absurd (Or.inl e) h
      have h2:c.told f.node.toNat=false:=by cases e:c.told f.node.toNat;rfl;exact absurd (Or.inr (Or.inl e)) h
      have h3:aZ c.ops (ofL f.node)=true:=by cases e:aZ c.ops (ofL f.node);exact absurd (Or.inr (Or.inr e)) h;rfl
      refine⟨rfl,hg,hk,h1,h2,h3,rfl,fun hn=>?_⟩
      cases e:(c.hear f).fixed
      ·exact absurd (by show (if (c.hear f).fixed=true then _ else _)=_;rw[e];rfl) hn
      ·rfl
    ·rename_i hk
     split
     ·right;right
      exact⟨rfl,rfl,fun e=>absurd e hk,lN.refl c,j0.refl c,fun _=>rfl⟩
     ·rename_i hf
      split
      ·right;right
       exact⟨rfl,rfl,fun e=>absurd e hk,⟨rfl,rfl,rfl,rfl,rfl⟩,j0.refl c,fun e=>absurd e hf⟩
      ·right;right
       have h1:=nP (ofL f.node) (f.ats.zip f.vals) c
       exact⟨rfl,rfl,fun e=>absurd e hk,h1.1,h1.2,fun e=>absurd e hf⟩
structure NI (ops:List OpL) (c:aF) (t:Nat→Bool) (d:List Int):Prop where
 begun:c.begun=true
 eops:c.ops=ops
 told:c.told=t
 deps:c.deps=d
 most:c.fixed=true→dT ops t=true
theorem yO {id:Int} {ops:List OpL} (h:(bK id ops).2.2=0):NI ops (bK id ops).1 (fun _=>false) []∧bQ ops=true∧0≤id∧id<32:=by
 unfold bK at *
 split at h
 ·exact absurd h (show (2:Int)≠0 by decide)
 ·rename_i h1
  split at h
  ·exact absurd h (show (1:Int)≠0 by decide)
  ·rename_i h2
   rw[if_neg h1,if_neg h2]
   refine⟨⟨rfl,rfl,rfl,rfl,fun e=>(by cases e)⟩,?_,?_,?_⟩
   ·cases e:bQ ops
    ·exact absurd e h2
    ·rfl
   ·by_cases e:id<0
    ·exact absurd (Or.inl e) h1
    ·omega
   ·by_cases e:32≤id
    ·exact absurd (Or.inr e) h1
    ·omega
structure oL (ops:List OpL) (c:aF):Prop where
 begun:c.begun=true
 eops:c.ops=ops
 good:dK c=true
 none:c.fixed=false→∀i,c.has i=false
theorem yT {c:aF} (h0:c.lacks 0=false) (h1:c.lacks 1=false) {i:Nat} (hi:i<c.ops.length):c.has i=true:=by
 unfold aF.lacks at h0 h1
 rw[List.any_eq_false] at h0 h1
 have g0:=h0 i (List.mem_range.2 hi)
 have g1:=h1 i (List.mem_range.2 hi)
 cases e:c.has i
 ·rw[e] at g0 g1
  simp[fL] at g0 g1
  omega
 ·rfl
theorem sN {c:aF} (h:∀i,i<c.ops.length→c.has i=true) (sh:Int):c.lacks sh=false:=by
 unfold aF.lacks
 rw[List.any_eq_false]
 intro i hi
 rw[h i (List.mem_range.1 hi)]
 simp
theorem N0 {ops:List OpL} {c:aF} (h:oL ops c) (hr:(cN c).2=true):(∀i,i<ops.length→c.has i=true)∧(cN c).1=(List.range ops.length).map c.vals:=by
 unfold cN at *
 split at hr
 ·cases hr
 ·rename_i hn
  rw[if_neg hn,h.eops]
  refine⟨fun i hi=>yT ?_ ?_ (by rw[h.eops];exact hi),rfl⟩
  ·cases e:c.lacks 0
   ·rfl
   ·exact absurd (Or.inr (Or.inr (Or.inl e))) hn
  ·cases e:c.lacks 1
   ·rfl
   ·exact absurd (Or.inr (Or.inr (Or.inr e))) hn
theorem LR (xs:List Nat):∀(l:Int),(∀x∈xs,l<(x:Int)∧x<32)→xs.Pairwise (· < ·)→bF l (xs.map Int.ofNat)=true:=by
 induction xs with
 | nil=>intros;rfl
 | cons x r ih=>
  intro l h hp
  have hx:=h x (by simp)
  obtain⟨h1,h2⟩:=List.pairwise_cons.1 hp
  rw[List.map_cons,bF,ih (Int.ofNat x) (fun y hy=>⟨by have:=h1 y hy;simp;omega,(h y (by simp[hy])).2⟩) h2]
  have e1:decide (Int.ofNat x≤l)=false:=by simp;omega
  have e2:decide (32≤Int.ofNat x)=false:=by simp;omega
  rw[e1,e2]
  rfl
theorem E9 (a b:List Int):bF (-1) (hJ a b)=true:=by
 refine LR _ _ (fun x hx=>?_) (List.Pairwise.filter _ List.pairwise_lt_range)
 have:=List.mem_range.1 (List.mem_filter.1 hx).1
 omega
theorem y8 {id:Int} {ops:List OpL} (h:(bK id ops).2.2=0):oL ops (bK id ops).1:=by
 obtain⟨hf,hg,_⟩:=yO h
 have e:(bK id ops).1={ cF with begun:=true,ops:=ops }:=by
  unfold bK at *
  split at h
  ·exact absurd h (show (2:Int)≠0 by decide)
  ·rename_i h1
   split at h
   ·exact absurd h (show (1:Int)≠0 by decide)
   ·rename_i h2
    rw[if_neg h1,if_neg h2]
 rw[e]
 refine⟨rfl,rfl,?_,fun _ _=>rfl⟩
 unfold dK
 rw[if_pos rfl]
 show (bQ ops && bF (-1) [])=true
 rw[hg]
 rfl
theorem kI {c:aF} (hb:c.begun=true):dK c=(bQ c.ops && bF (-1) c.deps):=by unfold dK;rw[if_pos hb]
theorem vE {ops:List OpL} {c:aF} {id:Int} {f:aC} (h:oL ops c):oL ops (aN c id f).1∧j0 c (aN c id f).1:=by
 have hg:=h.good
 rw[kI h.begun,Bool.and_eq_true] at hg
 rcases fF c id f with ⟨_,h1,_⟩ | ⟨_,_,_,hf,_,_,he,_⟩ | ⟨_,_,_,hs,hk,hc⟩
 ·rw[h1];exact⟨h,j0.refl c⟩
 ·rw[he]
  refine⟨⟨h.begun,h.eops,?_,fun _ i=>h.none hf i⟩,fun i hi=>⟨hi,rfl⟩⟩
  rw[kI (c:=c.hear f) h.begun,Bool.and_eq_true]
  exact⟨hg.1,E9 _ _⟩
 ·refine⟨⟨hs.begun.trans h.begun,hs.ops.trans h.eops,?_,fun e i=>?_⟩,hk⟩
  ·rw[kI (hs.begun.trans h.begun),hs.ops,hs.deps,Bool.and_eq_true];exact hg
  ·have e1:c.fixed=false:=by rw[←hs.fixed];exact e
   rw[hc e1];exact h.none e1 i
end Go.Proofs.YtkoefoccbjhoiacGreat
