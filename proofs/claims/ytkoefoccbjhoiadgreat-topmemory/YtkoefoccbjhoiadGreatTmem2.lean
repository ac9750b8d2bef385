/-
squeezed by tools/squeeze.py from: Codec Reader OpenB Open RState IsIO NClone FrV Soft GSmall GIncl GAhead
-/
import Derived.Test.YtkoefoccbjhoiadGreatTmem1
import Derived.Lib.Strings
import Derived.Laws.BitsLemmas
import Derived.ProofKit
import Derived.OpenShut
import Derived.ShutString
import Derived.ChangeOld
import Derived.Below
import Derived.Deep.Slices
import Derived.Deep.AppendLies
import Derived.OwnWalk
import Derived.ArgAppend
import Derived.Lib.SliceRun
import Derived.Deep.Cut
import Derived.Deep.CutRange
set_option linter.unusedVariables false
set_option linter.unusedSimpArgs false
set_option maxRecDepth 100000
set_option maxHeartbeats 16000000
namespace Go.Proofs.YtkoefoccbjhoiadGreat
open Go.RowKit
structure aD where
 kind:Int
 node:Int
 id:Int
 ops:List OpL
 deps:List Int
 ats:List Int
 vals:List Int
def byt (n:Int):UInt8:=UInt8.ofNat (n % 256).toNat
theorem gN {n:Int} (h:0≤n) (h':n<256):((byt n).toNat:Int)=n:=by
 unfold byt
 rw[UInt8.toNat_ofNat']
 omega
theorem FF (c:UInt8):byt (c.toNat:Int)=c:=by
 unfold byt
 have:=c.toNat_lt
 apply UInt8.toNat_inj.1
 rw[UInt8.toNat_ofNat']
 omega
theorem CK (n:Int):byt (n % 256)=byt n:=by unfold byt;rw[Int.emod_emod_of_dvd _ (by decide)]
def jM (m:Int):List UInt8:=[byt (m / 1099511627776),byt (m / 4294967296),byt (m / 16777216),byt (m / 65536),byt (m / 256),byt m]
def six (n:Int):List UInt8:=jM (n+140737488355328)
theorem CT (n:Int):(six n).length=6:=rfl
def gR (zs:List OpL):List UInt8:=zs.flatMap fun o=>byt o.1::byt o.2.1::six o.2.2
def fU (zs:List Int):List UInt8:=zs.map byt
def dR:List Int→List Int→List UInt8
 | a::xs,v::vs=>byt a::six v++dR xs vs
 | _,_=>[]
def bS (f:aD):List UInt8:=
 [byt f.kind,byt f.node,byt f.id,byt f.ops.length]++gR f.ops++[byt f.deps.length]++fU f.deps++[byt f.ats.length]++dR f.ats f.vals
structure Rd where
 rest:List UInt8
 short:Bool
def Rd.one (r:Rd):Int:=match r.rest with | []=>0 | c::_=>(c.toNat:Int)
def Rd.next (r:Rd):Rd:=match r.rest with | []=>⟨[],true⟩ | _::t=>⟨t,r.short⟩
theorem Rd.one_lo (r:Rd):0≤r.one:=by unfold Rd.one;split<;>omega
theorem Rd.one_hi (r:Rd):r.one<256:=by
 unfold Rd.one
 split
 ·omega
 ·rename_i c _ _
  have:=c.toNat_lt
  omega
def Rd.after:Nat→Rd→Rd
 | 0,r=>r
 | k+1,r=>Rd.after k r.next
def Rd.num:Nat→Int→Rd→Int
 | 0,n,_=>n
 | k+1,n,r=>Rd.num k (n*256+r.one) r.next
def Rd.wide (r:Rd):Int:=Rd.num 6 0 r-140737488355328
def Rd.next6 (r:Rd):Rd:=Rd.after 6 r
def Rd.ops:Nat→Rd→List OpL × Rd
 | 0,r=>([],r)
 | k+1,r=>((r.one,r.next.one,r.next.next.wide)::(Rd.ops k r.next.next.next6).1,(Rd.ops k r.next.next.next6).2)
def Rd.nums:Nat→Rd→List Int × Rd
 | 0,r=>([],r)
 | k+1,r=>(r.one::(Rd.nums k r.next).1,(Rd.nums k r.next).2)
def Rd.told:Nat→Rd→List Int × List Int × Rd
 | 0,r=>([],[],r)
 | k+1,r=>(r.one::(Rd.told k r.next.next6).1,r.next.wide::(Rd.told k r.next.next6).2.1,(Rd.told k r.next.next6).2.2)
def Rd.r1 (r:Rd):Rd:=r.next.next.next
def Rd.o1 (r:Rd):List OpL × Rd:=Rd.ops r.r1.one.toNat r.r1.next
def Rd.d1 (r:Rd):List Int × Rd:=Rd.nums r.o1.2.one.toNat r.o1.2.next
def Rd.t1 (r:Rd):List Int × List Int × Rd:=Rd.told r.d1.2.one.toNat r.d1.2.next
def Rd.frame (r:Rd):aD:=⟨r.one,r.next.one,r.next.next.one,r.o1.1,r.d1.1,r.t1.1,r.t1.2.1⟩
def Rd.end_ (r:Rd):Rd:=r.t1.2.2
theorem Rd.next_put (c:UInt8) (t:List UInt8):(⟨c::t,false⟩:Rd).next=⟨t,false⟩:=rfl
theorem Rd.one_put {n:Int} (h:0≤n) (h':n<256) (t:List UInt8):(⟨byt n::t,false⟩:Rd).one=n:=by
 show ((byt n).toNat:Int)=n
 exact gN h h'
theorem Rd.six_put {n:Int} (h: -140737488355328≤n) (h':n<140737488355328) (t:List UInt8):(⟨six n++t,false⟩:Rd).wide=n∧(⟨six n++t,false⟩:Rd).next6=⟨t,false⟩:=by
 refine⟨?_,rfl⟩
 have one:∀(x:Int) (t:List UInt8),(⟨byt x::t,false⟩:Rd).one=x % 256:=fun x t=>by rw[←CK x];exact Rd.one_put (by omega) (by omega) t
 simp only[Rd.wide,Rd.num,six,jM,List.cons_append,List.nil_append,Rd.next_put,one]
 omega
theorem sW (o:OpL) (zs:List OpL):gR (o::zs)=byt o.1::byt o.2.1::six o.2.2++gR zs:=by simp[gR]
theorem Rd.ops_put:∀(zs:List OpL) (t:List UInt8),(∀o∈zs,fF o=true)→Rd.ops zs.length ⟨gR zs++t,false⟩=(zs,⟨t,false⟩)
 | [],t,_=>rfl
 | (k,y,n)::zs,t,h=>by
  have h0:=h (k,y,n) (by simp)
  unfold fF at h0
  simp only[decide_eq_true_eq] at h0
  have ih:=Rd.ops_put zs t (fun p hp=>h p (by simp[hp]))
  obtain⟨s1,s2⟩:=Rd.six_put (n:=n) (by omega) (by omega) (gR zs++t)
  rw[sW]
  simp only[List.length_cons,Rd.ops,List.cons_append,List.append_assoc,Rd.next_put]
  rw[Rd.one_put (by omega) (by omega),Rd.one_put (by omega) (by omega),s1,s2,ih]
theorem Rd.nums_put:∀(zs:List Int) (t:List UInt8),(∀n∈zs,0≤n∧n<256)→Rd.nums zs.length ⟨fU zs++t,false⟩=(zs,⟨t,false⟩)
 | [],t,_=>rfl
 | n::zs,t,h=>by
  have h0:=h n (by simp)
  have ih:=Rd.nums_put zs t (fun p hp=>h p (by simp[hp]))
  show Rd.nums (zs.length+1) ⟨byt n::(fU zs++t),false⟩=_
  simp only[Rd.nums,Rd.next_put]
  rw[Rd.one_put h0.1 h0.2,ih]
theorem Rd.told_put:∀(xs vs:List Int) (t:List UInt8),vs.length=xs.length→(∀n∈xs,0≤n∧n<256)→(∀n∈vs,-140737488355328≤n∧n<140737488355328)→Rd.told xs.length ⟨dR xs vs++t,false⟩=(xs,vs,⟨t,false⟩)
 | [],[],t,_,_,_=>rfl
 | [],_::_,_,h,_,_=>by simp at h
 | _::_,[],_,h,_,_=>by simp at h
 | a::xs,v::vs,t,h,ha,hv=>by
  have h0:=ha a (by simp)
  have h1:=hv v (by simp)
  have ih:=Rd.told_put xs vs t (by simpa using h) (fun p hp=>ha p (by simp[hp])) (fun p hp=>hv p (by simp[hp]))
  obtain⟨s1,s2⟩:=Rd.six_put (n:=v) h1.1 h1.2 (dR xs vs++t)
  show Rd.told (xs.length+1) ⟨byt a::six v++dR xs vs++t,false⟩=_
  simp only[Rd.told,List.cons_append,List.append_assoc,Rd.next_put]
  rw[Rd.one_put h0.1 h0.2,s1,s2,ih]
def cC:Int→List Int→List Int→Bool
 | l,a::xs,v::vs=>!(decide (a≤l) || decide (4≤a)) && decide (-1099511627776≤v∧v≤1099511627776) && cC a xs vs
 | _,_,_=>true
def eF (f:aD):Bool:=if f.kind=1∨f.kind=3 then bN f.ops else decide (f.ops.length=0)
def dO (f:aD):Bool:=if f.kind=2∨f.kind=3 then bC (-1) f.deps && !d9 f.deps f.id else decide (f.deps.length=0)
def dT (f:aD):Bool:=decide (f.kind=5∨f.ats.length=0) && (decide (f.vals.length=f.ats.length) && cC (-1) f.ats f.vals)
def aL (f:aD):Int:=
 if f.kind<1∨5<f.kind then 3 else if f.node<0∨6≤f.node∨f.id<0∨32≤f.id then 2
 else if eF f && (dO f && dT f) then 0 else 1
theorem rT:∀(zs:List Int) (l:Int),bC l zs=true→(∀n∈zs,l<n∧n<32)∧(zs=[]∨(zs.length:Int)≤31-l)
 | [],l,_=>⟨by simp,Or.inl rfl⟩
 | n::r,l,h=>by
  rw[bC] at h
  simp only[Bool.and_eq_true,Bool.not_eq_true',Bool.or_eq_false_iff,decide_eq_false_iff_not] at h
  obtain⟨⟨h1,h2⟩,h3⟩:=h
  obtain⟨i1,i2⟩:=rT r n h3
  refine⟨fun m hm=>?_,Or.inr ?_⟩
  ·rcases List.mem_cons.1 hm with rfl | hm
   ·omega
   ·have:=i1 m hm
    omega
  ·rcases i2 with rfl | i2
   ·simp;omega
   ·simp;omega
theorem wQ:∀(xs vs:List Int) (l:Int),vs.length=xs.length→cC l xs vs=true→(∀n∈xs,l<n∧n<4)∧(∀n∈vs,-1099511627776≤n∧n≤1099511627776)∧(xs=[]∨(xs.length:Int)≤3-l)
 | [],[],l,_,_=>⟨by simp,by simp,Or.inl rfl⟩
 | [],_::_,_,h,_=>by simp at h
 | _::_,[],_,h,_=>by simp at h
 | a::xs,v::vs,l,hl,h=>by
  rw[cC] at h
  simp only[Bool.and_eq_true,Bool.not_eq_true',Bool.or_eq_false_iff,decide_eq_false_iff_not,decide_eq_true_eq] at h
  obtain⟨⟨⟨h1,h2⟩,h3⟩,h4⟩:=h
  obtain⟨i1,i2,i3⟩:=wQ xs vs a (by simpa using hl) h4
  refine⟨fun m hm=>?_,fun m hm=>?_,Or.inr ?_⟩
  ·rcases List.mem_cons.1 hm with rfl | hm
   ·omega
   ·have:=i1 m hm
    omega
  ·rcases List.mem_cons.1 hm with rfl | hm
   ·omega
   ·exact i2 m hm
  ·rcases i3 with rfl | i3
   ·simp;omega
   ·simp;omega
theorem GM {zs:List OpL} (h:bN zs=true):zs.length≤4∧∀o∈zs,fF o=true:=by
 unfold bN at h
 simp only[Bool.and_eq_true,decide_eq_true_eq] at h
 refine⟨h.1.2,fun o ho=>?_⟩
 obtain⟨i,hi,rfl⟩:=List.mem_iff_getElem.1 ho
 have:=List.all_eq_true.1 h.2 i (List.mem_range.2 hi)
 unfold jG at this
 simp only[Bool.and_eq_true] at this
 have e:zs.getD i (0,0,0)=zs[i]:=by simp[List.getD,hi]
 rw[e] at this
 exact this.1
theorem mA {f:aD} (h:aL f=0):(1≤f.kind∧f.kind≤5)∧(0≤f.node∧f.node<6)∧(0≤f.id∧f.id<32)∧(f.ops.length≤4∧∀o∈f.ops,fF o=true)∧
  (f.deps.length≤32∧∀n∈f.deps,0≤n∧n<256)∧(f.ats.length≤4∧∀n∈f.ats,0≤n∧n<256)∧f.vals.length=f.ats.length∧∀n∈f.vals,-140737488355328≤n∧n<140737488355328:=by
 unfold aL at h
 by_cases h1:f.kind<1∨5<f.kind
 ·rw[if_pos h1] at h
  omega
 rw[if_neg h1] at h
 by_cases h2:f.node<0∨6≤f.node∨f.id<0∨32≤f.id
 ·rw[if_pos h2] at h
  omega
 rw[if_neg h2] at h
 by_cases h3:(eF f && (dO f && dT f))=true
 ·simp only[Bool.and_eq_true] at h3
  obtain⟨g1,g2,g3⟩:=h3
  refine⟨by omega,by omega,by omega,?_,?_,?_⟩
  ·unfold eF at g1
   split at g1
   ·exact GM g1
   ·have:f.ops=[]:=by simpa using g1
    rw[this]
    simp
  ·unfold dO at g2
   split at g2
   ·simp only[Bool.and_eq_true] at g2
    obtain⟨i1,i2⟩:=rT _ _ g2.1
    refine⟨?_,fun n hn=>by have:=i1 n hn;omega⟩
    rcases i2 with i2 | i2
    ·rw[i2]
     simp
    ·omega
   ·have:f.deps=[]:=by simpa using g2
    rw[this]
    simp
  ·unfold dT at g3
   simp only[Bool.and_eq_true,decide_eq_true_eq] at g3
   obtain⟨_,g4,g5⟩:=g3
   obtain⟨i1,i2,i3⟩:=wQ _ _ _ g4 g5
   refine⟨⟨?_,fun n hn=>by have:=i1 n hn;omega⟩,g4,fun n hn=>by have:=i2 n hn;omega⟩
   rcases i3 with i3 | i3
   ·rw[i3]
    simp
   ·omega
 ·rw[if_neg h3] at h
  omega
theorem FT {f:aD} (h:aL f=0) (t:List UInt8):(⟨bS f++t,false⟩:Rd).frame=f∧(⟨bS f++t,false⟩:Rd).end_=⟨t,false⟩:=by
 obtain⟨hk,hn,hi,⟨ho1,ho2⟩,⟨hd1,hd2⟩,⟨ha1,ha2⟩,hv1,hv2⟩:=mA h
 obtain⟨kind,node,id,ops,deps,ats,vals⟩:=f
 simp only at *
 have e:bS ⟨kind,node,id,ops,deps,ats,vals⟩++t=byt kind::byt node::byt id::byt ops.length::(gR ops++(byt deps.length::(fU deps++(byt ats.length::(dR ats vals++t))))):=by simp[bS]
 rw[e]
 generalize hr:(⟨byt kind::byt node::byt id::byt ops.length::(gR ops++(byt deps.length::(fU deps++(byt ats.length::(dR ats vals++t))))),false⟩:Rd)=r
 have q1:r.r1=⟨byt ops.length::(gR ops++(byt deps.length::(fU deps++(byt ats.length::(dR ats vals++t))))),false⟩:=by rw[←hr];rfl
 have q2:r.o1=(ops,⟨byt deps.length::(fU deps++(byt ats.length::(dR ats vals++t))),false⟩):=by
  unfold Rd.o1
  rw[q1,Rd.one_put (by omega) (by omega),Rd.next_put,Int.toNat_natCast,Rd.ops_put _ _ ho2]
 have q3:r.d1=(deps,⟨byt ats.length::(dR ats vals++t),false⟩):=by
  unfold Rd.d1
  rw[q2,Rd.one_put (by omega) (by omega),Rd.next_put,Int.toNat_natCast,Rd.nums_put _ _ hd2]
 have q4:r.t1=(ats,vals,⟨t,false⟩):=by
  unfold Rd.t1
  rw[q3,Rd.one_put (by omega) (by omega),Rd.next_put,Int.toNat_natCast,Rd.told_put _ _ _ hv1 ha2 hv2]
 refine⟨?_,by unfold Rd.end_;rw[q4]⟩
 unfold Rd.frame
 rw[q2,q3,q4,←hr]
 simp only[Rd.next_put]
 rw[Rd.one_put (by omega) (by omega),Rd.one_put (by omega) (by omega),Rd.one_put (by omega) (by omega)]
def okL (s:List UInt8):Bool:=!((⟨s,false⟩:Rd).end_.short || !(⟨s,false⟩:Rd).end_.rest.isEmpty) && (aL (⟨s,false⟩:Rd).frame == 0)
def nE:aD:=⟨0,0,0,[],[],[],[]⟩
def eU (s:List UInt8):aD:=if okL s=true then (⟨s,false⟩:Rd).frame else nE
def iS (s:List UInt8):Int:=if okL s=true then 0 else 1
theorem mM {f:aD} (h:aL f=0):okL (bS f)=true∧eU (bS f)=f:=by
 obtain⟨e1,e2⟩:=FT h []
 rw[List.append_nil] at e1 e2
 have ho:okL (bS f)=true:=by unfold okL;rw[e1,e2,h];rfl
 exact⟨ho,by unfold eU;rw[if_pos ho,e1]⟩
theorem C7 (zs:List OpL):(gR zs).length=8*zs.length:=by
 induction zs with
 | nil=>rfl
 | cons o zs ih=>rw[sW,List.length_append,ih];simp[CT];omega
theorem sY:∀(xs vs:List Int),vs.length=xs.length→(dR xs vs).length=7*xs.length
 | [],[],_=>rfl
 | [],_::_,h=>by simp at h
 | _::_,[],h=>by simp at h
 | a::xs,v::vs,h=>by
  have:=sY xs vs (by simpa using h)
  simp[dR,CT,this]
  omega
theorem sI {f:aD} (h:aL f=0):(bS f).length≤98∧6≤(bS f).length:=by
 obtain⟨hk,hn,hi,⟨ho1,ho2⟩,⟨hd1,hd2⟩,⟨ha1,ha2⟩,hv1,hv2⟩:=mA h
 unfold bS
 have e1:=C7 f.ops
 have e2:=sY f.ats f.vals hv1
 simp[fU,e1,e2]
 omega
structure fI (c:Nat) (w w':World):Prop where
 os:w'.os=w.os
 tape:w'.tape=w.tape
 output:w'.output=w.output
 size:w'.heap.size=w.heap.size
 block:∀k,k≠c→w'.heap[k]? =w.heap[k]?
theorem fI.refl (c:Nat) (w:World):fI c w w:=⟨rfl,rfl,rfl,rfl,fun _ _=>rfl⟩
theorem fI.trans {c:Nat} {a b d:World} (h:fI c a b) (k:fI c b d):fI c a d:=
 ⟨k.os.trans h.os,k.tape.trans h.tape,k.output.trans h.output,k.size.trans h.size,fun i hi=>(k.block i hi).trans (h.block i hi)⟩
theorem fI.setCell {c:Nat} {a w:World} (h:fI c a w) (o:Nat) (u:Value):fI c a (w.setCell ⟨c,o,none⟩ u):=
 h.trans ⟨rfl,rfl,rfl,by simp[World.setCell],fun k hk=>Below.heap_setCell _ _ _ _ hk⟩
theorem fI.grown {c:Nat} {w w':World} (h:fI c w w'):w.grownBy w' (some c):=⟨h.os,h.tape,h.output,by rw[h.size];exact Nat.le_refl _,fun k _ hk=>h.block k (by intro e;exact hk (by rw[e]))⟩
def str (l:List UInt8):ByteArray:=⟨l.toArray⟩
theorem fS (l:List UInt8):(str l).size=l.length:=by show l.toArray.size=_;simp
theorem AS (l:List UInt8):(str l).data.toList=l:=rfl
theorem oQ (l:List UInt8):(str l).toList.isEmpty=l.isEmpty:=by
 rw[show (str l).toList=l from by rw[Lib.toList_data];rfl]
theorem LY (c:UInt8) (t:List UInt8):(str (c::t)).extract 1 (t.length+1)=str t:=by
 apply ByteArray.ext
 apply Array.toList_inj.1
 rw[Lib.extract_data]
 simp[str]
theorem IP (c:UInt8):wrap64 (c.toNat:Int)=(c.toNat:Int):=by
 have:=c.toNat_lt
 unfold wrap64
 omega
def fA (w:World) (c:Nat) (r:Rd):Prop:=∃t,w.heap[c]? =some (.cells #[.string (str r.rest),.bool r.short] t (0,0))
theorem fA.rest {w:World} {c:Nat} {r:Rd} (h:fA w c r):w.cell? ⟨c,0,none⟩=some (.string (str r.rest)):=by
 obtain⟨t,h⟩:=h
 rw[cell_of_row w c 0 _ t _ h]
 rfl
theorem fA.short {w:World} {c:Nat} {r:Rd} (h:fA w c r):w.cell? ⟨c,1,none⟩=some (.bool r.short):=by
 obtain⟨t,h⟩:=h
 rw[cell_of_row w c 1 _ t _ h]
 rfl
theorem fA.frozen {w:World} {c:Nat} {r:Rd} (h:fA w c r) (i:Nat):w.frozen? ⟨c,i,none⟩=false:=by
 obtain⟨t,h⟩:=h
 exact frozen_of_row w c i _ t h
theorem fA.putShort {w:World} {c:Nat} {r:Rd} (h:fA w c r) (b:Bool):fA (w.setCell ⟨c,1,none⟩ (.bool b)) c ⟨r.rest,b⟩:=by
 obtain⟨t,h⟩:=h
 exact⟨t,by rw[heap_setCell_same w c 1 _ t _ h];rfl⟩
theorem fA.putRest {w:World} {c:Nat} {r:Rd} (h:fA w c r) (l:List UInt8):fA (w.setCell ⟨c,0,none⟩ (.string (str l))) c ⟨l,r.short⟩:=by
 obtain⟨t,h⟩:=h
 exact⟨t,by rw[heap_setCell_same w c 0 _ t _ h];rfl⟩
theorem iB (c:Nat) (r:Rd) (w:World) (hr:fA w c r):
  Calls Tryz.prog 109 #[.pointer (some ⟨c,0,none⟩)] w fun e w'=>e= .returned (.int .i64 r.one)∧fA w' c r.next∧fI c w w':=by
 obtain⟨l,b⟩:=r
 have c0:=hr.rest
 have f0:=hr.frozen 0
 have f1:=hr.frozen 1
 have c1:=hr.short
 cases l with
 | nil=>
  have H:Hid (fA w c ⟨[],b⟩):=hr
  have e0:=oQ []
  clear hr
  go_enter Tryz.func109,Tryz.ntmps109
  go_wp2
  go_ret
  exact⟨rfl,H.out.putShort true,(fI.refl _ _).setCell _ _⟩
 | cons x t=>
  have H:Hid (fA w c ⟨x::t,b⟩):=hr
  have e0:=oQ (x::t)
  have e1:=fS (x::t)
  clear hr
  go_enter Tryz.func109,Tryz.ntmps109
  go_wp2
  go_ret
  rw[LY]
  exact⟨cS (IP x),H.out.putRest t,(fI.refl _ _).setCell _ _⟩
theorem fG (n:Int) (h₀:0≤n) (h₁:n<2 ^ 63):IntKind.i64.wrap n=n:=by rw[IntKind.wrap_i64];omega
theorem CN {n c:Int} (h:0≤n) (h':n<1099511627776) (h0:0≤c) (h1:c<256):bits .or .i64 (n*256) c=n*256+c:=
 bits_join .i64 63 (by decide) fG 8 (n*256) c (by omega) (by omega) (by omega) h0 (by omega) (by omega)
theorem JW:∀k:Nat,k<6→(256:Int) ^ k≤1099511627776:=by decide
theorem AX (c:Nat) (r:Rd) (w:World) (hr:fA w c r):
  Calls Tryz.prog 110 #[.pointer (some ⟨c,0,none⟩)] w fun e w'=>e= .returned (.int .i64 r.wide)∧fA w' c r.next6∧fI c w w':=by
 go_enter Tryz.func110,Tryz.ntmps110
 go_wp2
 go_loopw [3,4] (fun v i wr=>∃(k:Nat) (n:Int) (rk:Rd),k≤6∧i= .int .i64 k∧v= .int .i64 n∧0≤n∧n<256 ^ k∧Hid (Rd.num 6 0 r=Rd.num (6-k) n rk)∧Hid (Rd.after 6 r=Rd.after (6-k) rk)∧fA wr c rk∧fI c w wr) (fun _ i _=>6-(intOf i).toNat)
 case atStart=>exact⟨0,0,r,by omega,rfl,rfl,by omega,by omega,rfl,rfl,hr,fI.refl _ _⟩
 case round=>
  obtain⟨k,n,rk,hk,rfl,rfl,hn0,hn1,H1,H2,hrk,hB⟩:=hrel
  by_cases hlt:k<6
  ·have hp:=JW k hlt
   go_wp2_with fail
   refine (iB c rk wr hrk).mono ?_
   rintro e w1 ⟨rfl,hr1,hb1⟩
   go_wp2
   go_roundw
   case rel=>
    rw[CN hn0 (by omega) rk.one_lo rk.one_hi]
    have o1:=rk.one_lo
    have o2:=rk.one_hi
    refine⟨k+1,n*256+rk.one,rk.next,by omega,by go_num,rfl,by omega,by rw[Int.pow_succ];omega,?_,?_,hr1,hB.trans hb1⟩
    ·obtain⟨j,hj⟩:∃j,6-k=j+1:=⟨5-k,by omega⟩
     have hj':6-(k+1)=j:=by omega
     unfold Hid at *
     rw[hj',H1,hj]
     rfl
    ·obtain⟨j,hj⟩:∃j,6-k=j+1:=⟨5-k,by omega⟩
     have hj':6-(k+1)=j:=by omega
     unfold Hid at *
     rw[hj',H2,hj]
     rfl
   case measure=>simp[intOf];omega
  ·go_wp2
   go_ret
   obtain rfl:k=6:=by omega
   have e1:Rd.num 6 0 r=n:=H1.out
   have e2:Rd.after 6 r=rk:=H2.out
   refine⟨cS ?_,by unfold Rd.next6;rw[e2];exact hrk,hB⟩
   unfold Rd.wide wrap64
   rw[e1]
   omega
open Go.ChangeShapes Go.WideShapes Go.ChangeAt Go.RowKit Go.Deep
theorem own:ownKnob Tryz.prog.godebug=none:=by kernel_rfl
theorem LN:laidOutB Tryz.prog=true:=by kernel_rfl
theorem Tryz.cellsInt:Tryz.prog.cellsOf 3=1:=by kernel_rfl
def IR (x:Int):Prop:=(Lit.int .i64 x).wf=true
theorem iX {b off j:Nat}:(⟨b,off,none⟩:Addr).add j=⟨b,off+j,none⟩:=by
 unfold Addr.add
 split
 ·subst_vars;simp
 ·simp
theorem vB {w:World} {a:Addr} {v:Value} (h:w.cell? a=some v):a.block<w.heap.size:=by
 by_cases hq:a.block<w.heap.size
 ·exact hq
 ·have hn:w.heap[a.block]? =none:=Array.getElem?_eq_none (by omega)
  simp[World.cell?,hn] at h
section
variable {H:Type} {enc:TypeId × Value→H} {P:Program} {w:World} {base:Nat} {spare:Nat→Bool} {held:Bool}
end
theorem Tryz.cellsOp:Tryz.prog.cellsOf 46=3:=by kernel_rfl
def EY (o:OpL):Prop:=IR o.1∧IR o.2.1∧IR o.2.2
section
variable {H:Type} {enc:TypeId × Value→H} {P:Program} {w:World} {base:Nat} {spare:Nat→Bool} {held:Bool}
theorem DW {t e f:TypeId} {fuel:Nat} {a:Option Addr} {len cap:Nat} {x:DataW H × List MemPlace} {f0 f1 f2:Field} (ht:P.underlying t=some (.slice e)) (he:P.underlying e=some (.struct #[f0,f1,f2])) (hf:P.underlying f=some (.int .i64))
  (hc:P.cellsOf e=3) (hcf:P.cellsOf f=1) (y0:f0.type=f) (y1:f1.type=f) (y2:f2.type=f) (o0:f0.offset=0) (o1:f1.offset=1) (o2:f2.offset=2)
  (h:DataW.trod enc P w base spare held fuel t [.slice a len cap]=some x):
  len≤maxLen∧∃zs:List OpL,zs.length=len∧eM w a zs∧(∀o∈zs,EY o)∧(a=none→len=0∧cap=0)∧len≤cap:=by
 rcases open_slice ht h with ⟨hcs,_⟩ | ⟨x,l,c,m,n,D,Pl,hcs,hb,hl,hm,hmm,_,hx⟩
 ·simp at hcs
  obtain⟨rfl,rfl,rfl⟩:=hcs
  exact⟨Nat.zero_le _,[],rfl,Or.inl rfl,by simp,fun _=>⟨rfl,rfl⟩,Nat.le_refl _⟩
 ·simp at hcs
  obtain⟨rfl,rfl,rfl⟩:=hcs
  have hlm:len≤m:=by rw[hmm];split<;>omega
  have each:∀i,i<len→∃q:OpL,w.cell? (x.add (i*3))=some (.int .i64 q.1)∧w.cell? (x.add (i*3+1))=some (.int .i64 q.2.1)∧w.cell? (x.add (i*3+2))=some (.int .i64 q.2.2)∧EY q:=by
   intro i hi
   obtain⟨cs',h1,h2⟩:=hx i (by omega)
   rw[hc] at h1
   obtain⟨_,hlen,hcell⟩:=World.cells?_some h1
   obtain⟨xs,k,hk,hxy,_,hxl,hfs⟩:=DataW.trod_struct he h2
   match xs,hxl,cs',hlen with
   | [z0,z1,z2],_,[v0,v1,v2],_=>
    have g0:=hfs 0 f0 rfl
    have g1:=hfs 1 f1 rfl
    have g2:=hfs 2 f2 rfl
    simp[y0,y1,y2,o0,o1,o2,hcf] at g0 g1 g2
    obtain⟨n0,r0,_,q0⟩:=DataW.trod_int hf g0
    obtain⟨n1,r1,_,q1⟩:=DataW.trod_int hf g1
    obtain⟨n2,r2,_,q2⟩:=DataW.trod_int hf g2
    simp at r0 r1 r2
    subst r0 r1 r2
    have e0:=hcell 0 (by omega)
    have e1:=hcell 1 (by omega)
    have e2:=hcell 2 (by omega)
    rw[add_add] at e0 e1 e2
    exact⟨(n0,n1,n2),by simpa using e0,by simpa using e1,by simpa using e2,q0,q1,q2⟩
  obtain⟨Q,hQ⟩:=choose_lt each
  refine⟨by omega,(List.range len).map Q,by simp,?_,?_,fun h=>by simp at h,hl⟩
  ·by_cases h0:len=0
   ·left
    simp[h0]
   ·right
    obtain⟨b,off,spot⟩:=x
    have hc0:=(hQ 0 (by omega)).1
    have hs:spot=none:=by simpa [Addr.add] using World.cell?_spot hc0
    subst hs
    refine⟨b,off,rfl,by simpa [Addr.add] using vB hc0,fun i hi=>?_⟩
    have hi':i<len:=by simpa using hi
    obtain⟨t0,t1,t2,_⟩:=hQ i hi'
    rw[iX] at t0 t1 t2
    have hg:((List.range len).map Q).getD i (0,0,0)=Q i:=by simp[List.getD,hi']
    rw[hg]
    exact⟨t0,t1,t2⟩
  ·intro o ho
   obtain⟨i,hi,rfl⟩:=List.mem_map.1 ho
   exact (hQ i (List.mem_range.1 hi)).2.2.2
end
theorem Tryz.infoOp:(Tryz.prog.info? 46).map (fun i=>(i.zero,i.size,i.bytes))=some (some (.agg #[.int .i64 0,.int .i64 0,.int .i64 0]),3,24):=by kernel_rfl
def FAt (w:World) (b:Nat) (a0 a1 a2:Int) (v3 v4 v5 v6:Value):Prop:=∃t,w.heap[b]? =some (.cells #[.int .i64 a0,.int .i64 a1,.int .i64 a2,v3,v4,v5,v6] t (0,0))
section
variable {w w':World} {b:Nat} {a0 a1 a2:Int} {v3 v4 v5 v6:Value}
theorem FAt.cell (h:FAt w b a0 a1 a2 v3 v4 v5 v6):
  w.cell? ⟨b,0,none⟩=some (.int .i64 a0)∧w.cell? ⟨b,1,none⟩=some (.int .i64 a1)∧w.cell? ⟨b,2,none⟩=some (.int .i64 a2)∧
  w.cell? ⟨b,3,none⟩=some v3∧w.cell? ⟨b,4,none⟩=some v4∧w.cell? ⟨b,5,none⟩=some v5∧w.cell? ⟨b,6,none⟩=some v6:=by
 obtain⟨t,h⟩:=h
 refine⟨?_,?_,?_,?_,?_,?_,?_⟩<;>(rw[cell_of_row w b _ _ t _ h];rfl)
theorem FAt.frozen (h:FAt w b a0 a1 a2 v3 v4 v5 v6) (i:Nat):w.frozen? ⟨b,i,none⟩=false:=by
 obtain⟨t,h⟩:=h
 exact frozen_of_row w b i _ t h
theorem FAt.block (h:FAt w b a0 a1 a2 v3 v4 v5 v6) (e:w'.heap[b]? =w.heap[b]?):FAt w' b a0 a1 a2 v3 v4 v5 v6:=by
 obtain⟨t,h⟩:=h
 exact⟨t,by rw[e];exact h⟩
theorem FAt.lt (h:FAt w b a0 a1 a2 v3 v4 v5 v6):b<w.heap.size:=by
 obtain⟨t,h⟩:=h
 exact (Array.getElem?_eq_some_iff.1 h).1
theorem FAt.put3 (h:FAt w b a0 a1 a2 v3 v4 v5 v6) (v:Value):FAt (w.setCell ⟨b,3,none⟩ v) b a0 a1 a2 v v4 v5 v6:=by
 obtain⟨t,h⟩:=h
 exact⟨t,by rw[heap_setCell_same w b 3 _ t _ h];rfl⟩
theorem FAt.put4 (h:FAt w b a0 a1 a2 v3 v4 v5 v6) (v:Value):FAt (w.setCell ⟨b,4,none⟩ v) b a0 a1 a2 v3 v v5 v6:=by
 obtain⟨t,h⟩:=h
 exact⟨t,by rw[heap_setCell_same w b 4 _ t _ h];rfl⟩
theorem FAt.put5 (h:FAt w b a0 a1 a2 v3 v4 v5 v6) (v:Value):FAt (w.setCell ⟨b,5,none⟩ v) b a0 a1 a2 v3 v4 v v6:=by
 obtain⟨t,h⟩:=h
 exact⟨t,by rw[heap_setCell_same w b 5 _ t _ h];rfl⟩
theorem FAt.put6 (h:FAt w b a0 a1 a2 v3 v4 v5 v6) (v:Value):FAt (w.setCell ⟨b,6,none⟩ v) b a0 a1 a2 v3 v4 v5 v:=by
 obtain⟨t,h⟩:=h
 exact⟨t,by rw[heap_setCell_same w b 6 _ t _ h];rfl⟩
end
theorem fA.block {w w':World} {c:Nat} {r:Rd} (h:fA w c r) (e:w'.heap[c]? =w.heap[c]?):fA w' c r:=by
 obtain⟨t,h⟩:=h
 exact⟨t,by rw[e];exact h⟩
theorem fA.lt {w:World} {c:Nat} {r:Rd} (h:fA w c r):c<w.heap.size:=by
 obtain⟨t,h⟩:=h
 exact (Array.getElem?_eq_some_iff.1 h).1
theorem fA.alloc {w:World} {c:Nat} {r:Rd} (h:fA w c r) (o:Obj):fA (w.alloc o) c r:=h.block (Below.heap_alloc _ _ _ h.lt)
theorem gH {w w1 w2:World} {c:Nat} (h:w.grownBy w1 (some c)) (k:w1.grownBy w2 (some c)):w.grownBy w2 (some c):=
 ⟨k.os.trans h.os,k.tape.trans h.tape,k.output.trans h.output,Nat.le_trans h.size k.size,fun i hi hn=>(k.block i (Nat.lt_of_lt_of_le hi h.size) hn).trans (h.block i hi hn)⟩
theorem FZ {w w1 w2:World} {c:Nat} {row:Option Nat} (h:w.grownBy w1 (some c)) (k:w1.grownBy w2 row) (hr:∀g,row=some g→w.heap.size≤g):w.grownBy w2 (some c):=
 ⟨k.os.trans h.os,k.tape.trans h.tape,k.output.trans h.output,Nat.le_trans h.size k.size,fun i hi hn=>(k.block i (Nat.lt_of_lt_of_le hi h.size) (fun e=>by have:=hr i e.symm;omega)).trans (h.block i hi hn)⟩
theorem gZ {w w1:World} {c b:Nat} (h:w.grownBy w1 (some c)) (hb:w.heap.size≤b) (o:Nat) (v:Value):w.grownBy (w1.setCell ⟨b,o,none⟩ v) (some c):=
 ⟨h.os,h.tape,h.output,by simp[World.setCell];exact h.size,fun i hi hn=>(Below.heap_setCell _ _ _ _ (by simp;omega)).trans (h.block i hi hn)⟩
structure Fr (w:World) (c B2 B3:Nat) (a0 a1 a2:Int) (wr:World) (rk:Rd) (v3 v4 v5 v6:Value):Prop where
 rd:fA wr c rk
 f:FAt wr B3 a0 a1 a2 v3 v4 v5 v6
 z:FAt wr B2 0 0 0 (.slice none 0 0) (.slice none 0 0) (.slice none 0 0) (.slice none 0 0)
 g:w.grownBy wr (some c)
 l1:c<w.heap.size
 l2:w.heap.size≤B2
 l3:B2<B3
section
variable {w wr w1:World} {c B2 B3:Nat} {a0 a1 a2:Int} {rk rj:Rd} {v3 v4 v5 v6:Value}
theorem Fr.small (h:Fr w c B2 B3 a0 a1 a2 wr rk v3 v4 v5 v6) (k:fA w1 c rj) (hb:fI c wr w1):Fr w c B2 B3 a0 a1 a2 w1 rj v3 v4 v5 v6:=
 have h1:=h.l1
 have h2:=h.l2
 have h3:=h.l3
 ⟨k,h.f.block (hb.block _ (by omega)),h.z.block (hb.block _ (by omega)),gH h.g hb.grown,h1,h2,h3⟩
theorem Fr.grown (h:Fr w c B2 B3 a0 a1 a2 wr rk v3 v4 v5 v6) {row:Option Nat} (hg:wr.grownBy w1 row) (hr:∀g,row=some g→B3<g):Fr w c B2 B3 a0 a1 a2 w1 rk v3 v4 v5 v6:=
 have h1:=h.l1
 have h2:=h.l2
 have h3:=h.l3
 have n:∀k,k≤B3→some k≠row:=fun k hk e=>by have:=hr k e.symm;omega
 ⟨h.rd.block (hg.block _ h.rd.lt (n _ (by omega))),h.f.block (hg.block _ h.f.lt (n _ (by omega))),h.z.block (hg.block _ h.z.lt (n _ (by omega))),FZ h.g hg (fun g e=>by have:=hr g e;omega),h1,h2,h3⟩
theorem Fr.alloc (h:Fr w c B2 B3 a0 a1 a2 wr rk v3 v4 v5 v6) (o:Obj):Fr w c B2 B3 a0 a1 a2 (wr.alloc o) rk v3 v4 v5 v6:=
 h.grown (World.grownBy_alloc wr o none) (by simp)
theorem Fr.drew (h:Fr w c B2 B3 a0 a1 a2 wr rk v3 v4 v5 v6):Fr w c B2 B3 a0 a1 a2 wr.drew rk v3 v4 v5 v6:=
 ⟨h.rd,h.f,h.z,⟨h.g.os,h.g.tape,h.g.output,h.g.size,h.g.block⟩,h.l1,h.l2,h.l3⟩
theorem Fr.put3 (h:Fr w c B2 B3 a0 a1 a2 wr rk v3 v4 v5 v6) (v:Value):Fr w c B2 B3 a0 a1 a2 (wr.setCell ⟨B3,3,none⟩ v) rk v v4 v5 v6:=
 have h1:=h.l1
 have h2:=h.l2
 have h3:=h.l3
 ⟨h.rd.block (Below.heap_setCell _ _ _ _ (by simp;omega)),h.f.put3 v,h.z.block (Below.heap_setCell _ _ _ _ (by simp;omega)),gZ h.g (by omega) _ _,h1,h2,h3⟩
theorem Fr.put4 (h:Fr w c B2 B3 a0 a1 a2 wr rk v3 v4 v5 v6) (v:Value):Fr w c B2 B3 a0 a1 a2 (wr.setCell ⟨B3,4,none⟩ v) rk v3 v v5 v6:=
 have h1:=h.l1
 have h2:=h.l2
 have h3:=h.l3
 ⟨h.rd.block (Below.heap_setCell _ _ _ _ (by simp;omega)),h.f.put4 v,h.z.block (Below.heap_setCell _ _ _ _ (by simp;omega)),gZ h.g (by omega) _ _,h1,h2,h3⟩
theorem Fr.put5 (h:Fr w c B2 B3 a0 a1 a2 wr rk v3 v4 v5 v6) (v:Value):Fr w c B2 B3 a0 a1 a2 (wr.setCell ⟨B3,5,none⟩ v) rk v3 v4 v v6:=
 have h1:=h.l1
 have h2:=h.l2
 have h3:=h.l3
 ⟨h.rd.block (Below.heap_setCell _ _ _ _ (by simp;omega)),h.f.put5 v,h.z.block (Below.heap_setCell _ _ _ _ (by simp;omega)),gZ h.g (by omega) _ _,h1,h2,h3⟩
theorem Fr.put6 (h:Fr w c B2 B3 a0 a1 a2 wr rk v3 v4 v5 v6) (v:Value):Fr w c B2 B3 a0 a1 a2 (wr.setCell ⟨B3,6,none⟩ v) rk v3 v4 v5 v:=
 have h1:=h.l1
 have h2:=h.l2
 have h3:=h.l3
 ⟨h.rd.block (Below.heap_setCell _ _ _ _ (by simp;omega)),h.f.put6 v,h.z.block (Below.heap_setCell _ _ _ _ (by simp;omega)),gZ h.g (by omega) _ _,h1,h2,h3⟩
theorem Fr.start (hr:fA w1 c rk) (hb:fI c (w.alloc (.cells #[.int .i64 0,.int .i64 0,.int .i64 0,.slice none 0 0,.slice none 0 0,.slice none 0 0,.slice none 0 0] 104)) w1) (hc:c<w.heap.size) (a0 a1 a2:Int):
  Fr w c w.heap.size w1.heap.size a0 a1 a2 (w1.alloc (.cells #[.int .i64 a0,.int .i64 a1,.int .i64 a2,.slice none 0 0,.slice none 0 0,.slice none 0 0,.slice none 0 0] 104)) rk (.slice none 0 0) (.slice none 0 0) (.slice none 0 0) (.slice none 0 0):=by
 have hs:w1.heap.size=w.heap.size+1:=by have:=hb.size;simpa using this
 refine⟨hr.alloc _,⟨_,aR _ _⟩,⟨104,?_⟩,?_,hc,Nat.le_refl _,by omega⟩
 ·rw[Below.heap_alloc _ _ _ (by omega),hb.block _ (by omega),aR]
 ·exact gH (World.grownBy_alloc w _ _) (gH hb.grown (World.grownBy_alloc _ _ _))
end
def lP (o:OpL):List Value:=[.int .i64 o.1,.int .i64 o.2.1,.int .i64 o.2.2]
def cE (zs:List OpL):List Value:=zs.flatMap lP
theorem yE (zs:List OpL) (o:OpL):cE (zs++[o])=cE zs++lP o:=by simp[cE]
theorem eQ {w w1:World} {c base:Nat} {e:TypeId} {size:Nat} {v:Value} {n:Nat} {xs:List Value} (h:w.ownsRow base e size v n xs) (hb:fI c w w1) (hc:c<base):w1.ownsRow base e size v n xs:=
 h.kept hb.grown (by
  cases hv:v.ownBlock with
  | none=>exact Or.inl rfl
  | some k=>right;intro e;have:=(h.lt k hv).1;simp at e;omega)
theorem aW (w:World) (o:Obj):(w.alloc o).heap.size=w.heap.size+1:=by simp
theorem MC (o:OpL):∀u∈lP o,u.oneCell'=true:=by simp[lP,Value.oneCell']
theorem vA {k n:Nat} (h:k<n) (h':n<256):k+1≤maxLen:=by unfold maxLen;omega
theorem JO {k n:Nat} (h:k<n) (h':n<256):(k+1)*24≤140737488355328:=by omega
theorem vY {k n:Nat} (h:k<n) (h':n<256):(k+1)*8≤140737488355328:=by omega
theorem MW {w:World} {b:Nat} {o:Obj} (h:b<w.heap.size):b+1≤(w.alloc o).heap.size:=by rw[aW];omega
theorem Fr.after {w x4 x5:World} {c B2 B3:Nat} {a0 a1 a2:Int} {rk:Rd} {v3 v4 v5 v6 v:Value} {o:Obj} {e:TypeId} {size n:Nat} {xs:List Value} (F:Fr w c B2 B3 a0 a1 a2 x4 rk v3 v4 v5 v6)
  (hown:x4.ownsRow (B3+1) e size v n xs) (hg:(x4.alloc o).grownBy x5 v.ownBlock):Fr w c B2 B3 a0 a1 a2 x5 rk v3 v4 v5 v6:=
 (F.alloc o).grown hg (fun g h=>by have:=(hown.lt g h).1;omega)
theorem tV {w w1:World} {b c:Nat} (h:b≤w.heap.size) (hb:fI c w.drew w1):b≤w1.heap.size:=by rw[hb.size];exact h
theorem tT {w:World} {b:Nat} {o:Obj} (h:b≤w.heap.size):b≤(w.alloc o).heap.size:=by rw[aW];omega
theorem tU {w w1:World} {b:Nat} {o:Obj} {row:Option Nat} (h:b≤w.heap.size) (hg:(w.alloc o).grownBy w1 row):b≤w1.heap.size:=by have:=hg.size;rw[aW] at this;omega
theorem zU {w:World} {b:Nat} {a:Addr} {v:Value} (h:b≤w.heap.size):b≤(w.setCell a v).heap.size:=by simpa [World.setCell] using h
theorem pJ {x y:World} {o:Obj} {b base:Nat} {e e':TypeId} {size size':Nat} {v v':Value} {n n':Nat} {xs xs':List Value} (h:x.ownsRow b e size v n xs) (hl:∀k,v.ownBlock=some k→k<base)
  (h':x.ownsRow base e' size' v' n' xs') (hg:(x.alloc o).grownBy y v'.ownBlock):y.ownsRow b e size v n xs:=
 (h.alloc o).kept hg (by
  cases hv:v.ownBlock with
  | none=>exact Or.inl rfl
  | some k=>right;intro e;have h1:=hl k hv;have h2:=(h'.lt k e.symm).1;omega)
theorem xK {x y:World} {o:Obj} {b:Nat} {e:TypeId} {size:Nat} {v v':Value} {n:Nat} {xs:List Value} (h:x.ownsRow b e size v n xs) (ha:∀k,v'.ownBlock=some k→v.ownBlock≠some k)
  (hg:(x.alloc o).grownBy y v'.ownBlock):y.ownsRow b e size v n xs:=
 (h.alloc o).kept hg (by
  cases hv:v.ownBlock with
  | none=>exact Or.inl rfl
  | some k=>right;intro e;exact ha k e.symm hv)
theorem FA {x:World} {b g:Nat} {e:TypeId} {size:Nat} {v v':Value} {n:Nat} {xs:List Value} (ha:∀k,v'.ownBlock=some k→v.ownBlock≠some k) (h:x.ownsRow b e size v n xs)
  (hat:v'.ownBlock=some g∨g=x.heap.size+1):v.ownBlock≠some g:=by
 rcases hat with h1 | rfl
 ·exact ha g h1
 ·intro e
  have:=(h.lt _ e).2
  omega
theorem C2 {v:Value} {g n cap:Nat} (h:v.ownBlock≠some g):∀k,v.ownBlock=some k→(Value.slice (some ⟨g,0,none⟩) n cap).ownBlock≠some k:=by
 intro k hk e
 simp[Value.ownBlock] at e
 exact h (by rw[hk,e])
theorem C1 {x:World} {b g g' n n' cap cap':Nat} {e:TypeId} {size:Nat} {v:Value} {m:Nat} {xs:List Value} (h:v.ownBlock≠some g) (ho:x.ownsRow b e size (.slice (some ⟨g,0,none⟩) n cap) m xs) (hat:v.ownBlock=some g'∨g'=x.heap.size+1):
  ∀k,(Value.slice (some ⟨g,0,none⟩) n cap).ownBlock=some k→(Value.slice (some ⟨g',0,none⟩) n' cap').ownBlock≠some k:=by
 intro k hk e
 have hg:g<x.heap.size:=(ho.lt g rfl).2
 simp[Value.ownBlock] at hk e
 rcases hat with h1 | h1
 ·exact h (by rw[h1];congr 1;omega)
 ·omega
theorem c8 {x:World} {b c o:Nat} {e:TypeId} {size:Nat} {v u:Value} {n:Nat} {xs:List Value} (h:x.ownsRow b e size v n xs) (hc:c<b):(x.setCell ⟨c,o,none⟩ u).ownsRow b e size v n xs:=
 ownsRow_setCell_below h hc u
theorem LQ {r:List OpL × Rd} {n k:Nat} {zs:List OpL} {rk:Rd} (h:¬ k<n) (HR:Hid (r=(zs++(Rd.ops (n-k) rk).1,(Rd.ops (n-k) rk).2))):r=(zs,rk):=by
 have:n-k=0:=by omega
 unfold Hid at HR
 rw[HR,this]
 simp[Rd.ops]
theorem JS {r:List Int × Rd} {n k:Nat} {zs:List Int} {rk:Rd} (h:¬ k<n) (HR:Hid (r=(zs++(Rd.nums (n-k) rk).1,(Rd.nums (n-k) rk).2))):r=(zs,rk):=by
 have:n-k=0:=by omega
 unfold Hid at HR
 rw[HR,this]
 simp[Rd.nums]
theorem KJ {r:List Int × List Int × Rd} {n k:Nat} {xs ys:List Int} {rk:Rd} (h:¬ k<n) (HR:Hid (r=(xs++(Rd.told (n-k) rk).1,ys++(Rd.told (n-k) rk).2.1,(Rd.told (n-k) rk).2.2))):r=(xs,ys,rk):=by
 have:n-k=0:=by omega
 unfold Hid at HR
 rw[HR,this]
 simp[Rd.told]
theorem IY {r:Rd} {zs:List OpL} {rk:Rd} (h:r.o1=(zs,rk)):r.d1=Rd.nums rk.one.toNat rk.next:=by unfold Rd.d1;rw[h]
theorem KA {r:Rd} {zs:List Int} {rk:Rd} (h:r.d1=(zs,rk)):r.t1=Rd.told rk.one.toNat rk.next:=by unfold Rd.t1;rw[h]
theorem MD {r:List OpL × Rd} {n k:Nat} {zs:List OpL} {rk:Rd} (h:k<n) (HR:Hid (r=(zs++(Rd.ops (n-k) rk).1,(Rd.ops (n-k) rk).2))):
  Hid (r=(zs++[(rk.one,rk.next.one,rk.next.next.wide)]++(Rd.ops (n-(k+1)) rk.next.next.next6).1,(Rd.ops (n-(k+1)) rk.next.next.next6).2)):=by
 obtain⟨j,hj⟩:∃j,n-k=j+1:=⟨n-k-1,by omega⟩
 have hj':n-(k+1)=j:=by omega
 unfold Hid at *
 rw[HR,hj',hj]
 simp[Rd.ops]
theorem LP {r:List Int × Rd} {n k:Nat} {zs:List Int} {rk:Rd} (h:k<n) (HR:Hid (r=(zs++(Rd.nums (n-k) rk).1,(Rd.nums (n-k) rk).2))):
  Hid (r=(zs++[rk.one]++(Rd.nums (n-(k+1)) rk.next).1,(Rd.nums (n-(k+1)) rk.next).2)):=by
 obtain⟨j,hj⟩:∃j,n-k=j+1:=⟨n-k-1,by omega⟩
 have hj':n-(k+1)=j:=by omega
 unfold Hid at *
 rw[HR,hj',hj]
 simp[Rd.nums]
theorem LZ {r:List Int × List Int × Rd} {n k:Nat} {xs ys:List Int} {rk:Rd} (h:k<n) (HR:Hid (r=(xs++(Rd.told (n-k) rk).1,ys++(Rd.told (n-k) rk).2.1,(Rd.told (n-k) rk).2.2))):
  Hid (r=(xs++[rk.one]++(Rd.told (n-(k+1)) rk.next.next6).1,ys++[rk.next.wide]++(Rd.told (n-(k+1)) rk.next.next6).2.1,(Rd.told (n-(k+1)) rk.next.next6).2.2)):=by
 obtain⟨j,hj⟩:∃j,n-k=j+1:=⟨n-k-1,by omega⟩
 have hj':n-(k+1)=j:=by omega
 unfold Hid at *
 rw[HR,hj',hj]
 simp[Rd.told]
def bR (w:World) (a:Option Addr) (cap:Nat) (zs:List OpL):Prop:=eM w a zs∧zs.length≤maxLen∧zs.length≤cap∧(a=none→zs.length=0∧cap=0)
def bP (w:World) (v:Value) (f:aD):Prop:=∃a3 c3 a4 c4 a5 c5 a6 c6,
 v= .agg #[.int .i64 f.kind,.int .i64 f.node,.int .i64 f.id,.slice a3 f.ops.length c3,.slice a4 f.deps.length c4,.slice a5 f.ats.length c5,.slice a6 f.vals.length c6]∧
 bR w a3 c3 f.ops∧bM w a4 c4 f.deps∧bM w a5 c5 f.ats∧bM w a6 c6 f.vals
theorem bR.later {w w':World} {a:Option Addr} {cap:Nat} {zs:List OpL} (h:bR w a cap zs) (hb:Below w.heap.size w w'):bR w' a cap zs:=
 ⟨h.1.later hb,h.2⟩
theorem bP.later {w w':World} {v:Value} {f:aD} (h:bP w v f) (hb:Below w.heap.size w w'):bP w' v f:=by
 obtain⟨a3,c3,a4,c4,a5,c5,a6,c6,e,h3,h4,h5,h6⟩:=h
 exact⟨a3,c3,a4,c4,a5,c5,a6,c6,e,h3.later hb,h4.later hb,h5.later hb,h6.later hb⟩
theorem rL (zs:List OpL):(cE zs).length=zs.length*3:=by
 induction zs with
 | nil=>rfl
 | cons o zs ih=>simp[cE,lP] at *;omega
theorem oA:∀(zs:List OpL) (i:Nat),i<zs.length→(cE zs)[i*3]? =some (.int .i64 (zs.getD i (0,0,0)).1)∧(cE zs)[i*3+1]? =some (.int .i64 (zs.getD i (0,0,0)).2.1)∧(cE zs)[i*3+2]? =some (.int .i64 (zs.getD i (0,0,0)).2.2)
 | [],i,h=>by simp at h
 | o::zs,0,_=>by simp[cE,lP]
 | o::zs,i+1,h=>by
  have ih:=oA zs i (by simpa using h)
  have e:cE (o::zs)= .int .i64 o.1:: .int .i64 o.2.1:: .int .i64 o.2.2::cE zs:=by simp[cE,lP]
  have n0:(i+1)*3=i*3+1+1+1:=by omega
  have n1:(i+1)*3+1=(i*3+1)+1+1+1:=by omega
  have n2:(i+1)*3+2=(i*3+2)+1+1+1:=by omega
  rw[e,n1,n2,n0]
  simpa using ih
theorem bR.of_owns {w:World} {b:Nat} {e:TypeId} {a:Option Addr} {cap:Nat} {zs:List OpL} (h:w.ownsRow b e 3 (.slice a zs.length cap) zs.length (cE zs)):bR w a cap zs:=by
 obtain⟨a2,c2,h1,h2,h3⟩:=bD h
 simp at h1
 obtain⟨rfl,rfl⟩:=h1
 rcases h.2 with ⟨_,h0⟩ | ⟨g,c,cur,hs,hg,hh,h5,h6,h7,h8⟩
 ·exact⟨Or.inl (List.eq_nil_of_length_eq_zero h0),by rw[h0];exact Nat.zero_le _,h2,h3⟩
 ·simp at hs
  obtain⟨rfl,rfl⟩:=hs
  refine⟨Or.inr ⟨g,0,rfl,(Array.getElem?_eq_some_iff.1 hh).1,fun i hi=>?_⟩,by omega,h2,h3⟩
  have key:∀j,j<zs.length*3→w.cell? ⟨g,0+j,none⟩=(cE zs)[j]? :=fun j hj=>by
   rw[cell_of_row w g (0+j) cur e _ hh,←h8,List.getElem?_take_of_lt hj,Nat.zero_add]
   simp
  have:=oA zs i hi
  rw[←key _ (by omega),←key _ (by omega),←key _ (by omega)] at this
  simpa [Nat.add_assoc] using this
def oZ (w:World) (b:Nat) (x0 x1 x2 x3 x4 x5 x6:Value):World:=
 ((((((w.setCell ⟨b,0,none⟩ x0).setCell ⟨b,1,none⟩ x1).setCell ⟨b,2,none⟩ x2).setCell ⟨b,3,none⟩ x3).setCell ⟨b,4,none⟩ x4).setCell ⟨b,5,none⟩ x5).setCell ⟨b,6,none⟩ x6
theorem qA {w:World} {b:Nat} {x0 x1 x2 x3 x4 x5 x6:Value} {base:Nat} {e:TypeId} {size:Nat} {v:Value} {n:Nat} {xs:List Value} (h:w.ownsRow base e size v n xs) (hb:b<base):(oZ w b x0 x1 x2 x3 x4 x5 x6).ownsRow base e size v n xs:=
 c8 (c8 (c8 (c8 (c8 (c8 (c8 h hb) hb) hb) hb) hb) hb) hb
theorem vG {w:World} {b:Nat} {x0 x1 x2 x3 x4 x5 x6:Value} {k:Nat} (h:k≠b):(oZ w b x0 x1 x2 x3 x4 x5 x6).heap[k]? =w.heap[k]? :=by
 unfold oZ
 rw[Below.heap_setCell _ _ _ _ h,Below.heap_setCell _ _ _ _ h,Below.heap_setCell _ _ _ _ h,Below.heap_setCell _ _ _ _ h,Below.heap_setCell _ _ _ _ h,Below.heap_setCell _ _ _ _ h,Below.heap_setCell _ _ _ _ h]
theorem D2 {w w1:World} {b c:Nat} {x0 x1 x2 x3 x4 x5 x6:Value} (h:w.grownBy w1 (some c)) (hb:w.heap.size≤b):w.grownBy (oZ w1 b x0 x1 x2 x3 x4 x5 x6) (some c):=
 gZ (gZ (gZ (gZ (gZ (gZ (gZ h hb _ _) hb _ _) hb _ _) hb _ _) hb _ _) hb _ _) hb _ _
def CV (b:Nat) (v:Value):Prop:=∀(cs:Array Value),v= .agg cs→∀(i:Nat) (x:Addr) (n c:Nat),cs[i]? =some (Value.slice (some x) n c)→b≤x.block
theorem uQ {w:World} {base b:Nat} {e:TypeId} {size n m:Nat} {a:Option Addr} {cap:Nat} {xs:List Value} (h:w.ownsRow base e size (.slice a n cap) m xs) (hb:b≤base) {x:Addr} (hx:a=some x):b≤x.block:=by
 subst hx
 have:=(h.lt x.block rfl).1
 omega
theorem FR {w wr:World} {c B3 b4 b5:Nat} {r rk rk2 rk3:Rd} {v3 v4 v5 v6:Option Addr} {c3 c4 c5 c6:Nat} {zs:List OpL} {ds xs ys:List Int} {k3:Nat} {e3 e4 e5 e6:TypeId}
  (F:Fr w c w.heap.size B3 r.one r.next.one r.next.next.one wr rk3 (.slice v3 zs.length c3) (.slice v4 ds.length c4) (.slice v5 k3 c5) (.slice v6 k3 c6)) (h3:wr.ownsRow (B3+1) e3 3 (.slice v3 zs.length c3) zs.length (cE zs))
  (h4:wr.ownsRow b4 e4 1 (.slice v4 ds.length c4) ds.length (aS ds)) (h5:wr.ownsRow b5 e5 1 (.slice v5 k3 c5) k3 (aS xs)) (h6:wr.ownsRow b5 e6 1 (.slice v6 k3 c6) k3 (aS ys))
  (l4:w.heap.size<b4) (l5:w.heap.size<b5) (lx:xs.length=k3) (ly:ys.length=k3) (E1:r.o1=(zs,rk)) (E3:r.d1=(ds,rk2)) (E5:r.t1=(xs,ys,rk3)) {x0 x1 x2 x3 x4 x5 x6:Value}:
  bP (oZ wr w.heap.size x0 x1 x2 x3 x4 x5 x6) (.agg #[.int .i64 r.one,.int .i64 r.next.one,.int .i64 r.next.next.one,.slice v3 zs.length c3,.slice v4 ds.length c4,.slice v5 k3 c5,.slice v6 k3 c6]) r.frame∧
   fA (oZ wr w.heap.size x0 x1 x2 x3 x4 x5 x6) c r.end_∧w.grownBy (oZ wr w.heap.size x0 x1 x2 x3 x4 x5 x6) (some c)∧
   CV w.heap.size (.agg #[.int .i64 r.one,.int .i64 r.next.one,.int .i64 r.next.next.one,.slice v3 zs.length c3,.slice v4 ds.length c4,.slice v5 k3 c5,.slice v6 k3 c6]):=by
 have l1:=F.l1
 have l3:=F.l3
 subst lx
 refine⟨?_,?_,D2 F.g (Nat.le_refl _),?_⟩
 rotate_left 2
 ·intro cs hcs i x n cc hi
  cases hcs
  match i,hi with
  | 0,hi=>simp at hi
  | 1,hi=>simp at hi
  | 2,hi=>simp at hi
  | 3,hi=>simp at hi;exact uQ h3 (by omega) hi.1
  | 4,hi=>simp at hi;exact uQ h4 (by omega) hi.1
  | 5,hi=>simp at hi;exact uQ h5 (by omega) hi.1
  | 6,hi=>simp at hi;exact uQ h6 (by omega) hi.1
  | n+7,hi=>simp at hi
 ·unfold Rd.frame bP
  rw[E1,E3,E5]
  refine⟨v3,c3,v4,c4,v5,c5,v6,c6,by simp[ly],bR.of_owns (qA h3 (by omega)),bM.of_owns (qA h4 l4),bM.of_owns (qA h5 l5),?_⟩
  rw[←ly] at h6
  exact bM.of_owns (qA h6 l5)
 ·unfold Rd.end_
  rw[E5]
  exact F.rd.block (vG (by omega))
def cU (ok:Nat→Prop) (w:World) (a:Option Addr) (zs:List Int):Prop:=
 zs=[]∨∃b off,a=some ⟨b,off,none⟩∧ok b∧∀i,i<zs.length→w.cell? ⟨b,off+i,none⟩=some (.int .i64 (zs.getD i 0))
def eO (ok:Nat→Prop) (w:World) (a:Option Addr) (zs:List OpL):Prop:=
 zs=[]∨∃b off,a=some ⟨b,off,none⟩∧ok b∧∀i,i<zs.length→w.cell? ⟨b,off+i*3,none⟩=some (.int .i64 (zs.getD i (0,0,0)).1)∧
  w.cell? ⟨b,off+i*3+1,none⟩=some (.int .i64 (zs.getD i (0,0,0)).2.1)∧w.cell? ⟨b,off+i*3+2,none⟩=some (.int .i64 (zs.getD i (0,0,0)).2.2)
def bI (ok:Nat→Prop) (w w':World):Prop:=∀k,k<w.heap.size→ok k→w'.heap[k]? =w.heap[k]?
theorem bI.cell {ok:Nat→Prop} {w w':World} (h:bI ok w w') {p:Addr} {v:Value} (hc:w.cell? p=some v) (hk:ok p.block):w'.cell? p=some v:=
 (World.cell?_of_block (h p.block (World.block_lt_of_cell? w p hc) hk)).trans hc
theorem bI.of_size {ok:Nat→Prop} {w w':World} (h:Below w.heap.size w w'):bI ok w w':=fun k h1 _=>h.block k h1
theorem cU.later {ok:Nat→Prop} {w w':World} {a:Option Addr} {zs:List Int} (h:cU ok w a zs) (hB:bI ok w w'):cU ok w' a zs:=by
 rcases h with h | ⟨b,off,ha,hb,hc⟩
 ·exact Or.inl h
 ·exact Or.inr ⟨b,off,ha,hb,fun i hi=>hB.cell (hc i hi) hb⟩
theorem cU.mono {ok ok':Nat→Prop} {w:World} {a:Option Addr} {zs:List Int} (h:cU ok w a zs) (hk:∀k,k<w.heap.size→ok k→ok' k):cU ok' w a zs:=by
 rcases h with h | ⟨b,off,ha,hb,hc⟩
 ·exact Or.inl h
 ·cases zs with
  | nil=>exact Or.inl rfl
  | cons z r=>
   have:=World.block_lt_of_cell? w _ (hc 0 (by simp))
   exact Or.inr ⟨b,off,ha,hk b this hb,hc⟩
theorem cU.at {ok:Nat→Prop} {w:World} {a:Option Addr} {zs:List Int} (h:cU ok w a zs):cD w.heap.size w a zs:=by
 rcases h with h | ⟨b,off,ha,hb,hc⟩
 ·exact Or.inl h
 ·cases zs with
  | nil=>exact Or.inl rfl
  | cons z r=>exact Or.inr ⟨b,off,ha,World.block_lt_of_cell? w _ (hc 0 (by simp)),hc⟩
theorem eO.later {ok:Nat→Prop} {w w':World} {a:Option Addr} {zs:List OpL} (h:eO ok w a zs) (hB:bI ok w w'):eO ok w' a zs:=by
 rcases h with h | ⟨b,off,ha,hb,hc⟩
 ·exact Or.inl h
 ·exact Or.inr ⟨b,off,ha,hb,fun i hi=>⟨hB.cell (hc i hi).1 hb,hB.cell (hc i hi).2.1 hb,hB.cell (hc i hi).2.2 hb⟩⟩
theorem eO.mono {ok ok':Nat→Prop} {w:World} {a:Option Addr} {zs:List OpL} (h:eO ok w a zs) (hk:∀k,k<w.heap.size→ok k→ok' k):eO ok' w a zs:=by
 rcases h with h | ⟨b,off,ha,hb,hc⟩
 ·exact Or.inl h
 ·cases zs with
  | nil=>exact Or.inl rfl
  | cons z r=>
   have:=World.block_lt_of_cell? w _ (hc 0 (by simp)).1
   exact Or.inr ⟨b,off,ha,hk b this hb,hc⟩
theorem eO.at {ok:Nat→Prop} {w:World} {a:Option Addr} {zs:List OpL} (h:eO ok w a zs):eM w a zs:=by
 rcases h with h | ⟨b,off,ha,hb,hc⟩
 ·exact Or.inl h
 ·cases zs with
  | nil=>exact Or.inl rfl
  | cons z r=>exact Or.inr ⟨b,off,ha,World.block_lt_of_cell? w _ (hc 0 (by simp)).1,hc⟩
def IsI (ok:Nat→Prop) (w:World) (v:Value) (zs:List Int):Prop:=∃a cap,v= .slice a zs.length cap∧cU ok w a zs∧zs.length*8≤140737488355328∧zs.length≤cap∧(a=none→zs.length=0∧cap=0)
def IsO (ok:Nat→Prop) (w:World) (v:Value) (zs:List OpL):Prop:=∃a cap,v= .slice a zs.length cap∧eO ok w a zs∧zs.length*24≤140737488355328∧zs.length≤cap∧(a=none→zs.length=0∧cap=0)
theorem IsI.later {ok:Nat→Prop} {w w':World} {v:Value} {zs:List Int} (h:IsI ok w v zs) (hB:bI ok w w'):IsI ok w' v zs:=by
 obtain⟨a,cap,h1,h2,h3⟩:=h
 exact⟨a,cap,h1,h2.later hB,h3⟩
theorem IsI.mono {ok ok':Nat→Prop} {w:World} {v:Value} {zs:List Int} (h:IsI ok w v zs) (hk:∀k,k<w.heap.size→ok k→ok' k):IsI ok' w v zs:=by
 obtain⟨a,cap,h1,h2,h3⟩:=h
 exact⟨a,cap,h1,h2.mono hk,h3⟩
theorem IsI.sl {ok:Nat→Prop} {w:World} {v:Value} {zs:List Int} (h:IsI ok w v zs):∃a cap,v= .slice a zs.length cap∧bM w a cap zs:=by
 obtain⟨a,cap,h1,h2,h3,h4,h5⟩:=h
 exact⟨a,cap,h1,h2.at,by unfold maxLen;omega,h4,h5⟩
theorem IsI.nil (ok:Nat→Prop) (w:World):IsI ok w (.slice none 0 0) []:=⟨none,0,rfl,Or.inl rfl,by decide,Nat.le_refl _,fun _=>⟨rfl,rfl⟩⟩
theorem IsI.one {ok:Nat→Prop} {w:World} {v:Value} {zs:List Int} (h:IsI ok w v zs):v.oneCell'=true:=by
 obtain⟨a,cap,rfl,_⟩:=h
 rfl
theorem IsO.later {ok:Nat→Prop} {w w':World} {v:Value} {zs:List OpL} (h:IsO ok w v zs) (hB:bI ok w w'):IsO ok w' v zs:=by
 obtain⟨a,cap,h1,h2,h3⟩:=h
 exact⟨a,cap,h1,h2.later hB,h3⟩
theorem IsO.mono {ok ok':Nat→Prop} {w:World} {v:Value} {zs:List OpL} (h:IsO ok w v zs) (hk:∀k,k<w.heap.size→ok k→ok' k):IsO ok' w v zs:=by
 obtain⟨a,cap,h1,h2,h3⟩:=h
 exact⟨a,cap,h1,h2.mono hk,h3⟩
theorem IsO.sl {ok:Nat→Prop} {w:World} {v:Value} {zs:List OpL} (h:IsO ok w v zs):∃a cap,v= .slice a zs.length cap∧bR w a cap zs:=by
 obtain⟨a,cap,h1,h2,h3,h4,h5⟩:=h
 exact⟨a,cap,h1,h2.at,by unfold maxLen;omega,h4,h5⟩
theorem IsO.nil (ok:Nat→Prop) (w:World):IsO ok w (.slice none 0 0) []:=⟨none,0,rfl,Or.inl rfl,by decide,Nat.le_refl _,fun _=>⟨rfl,rfl⟩⟩
theorem IsO.one {ok:Nat→Prop} {w:World} {v:Value} {zs:List OpL} (h:IsO ok w v zs):v.oneCell'=true:=by
 obtain⟨a,cap,rfl,_⟩:=h
 rfl
theorem IsI.of_owns {w:World} {base:Nat} {e:TypeId} {v:Value} {zs:List Int} (h:w.ownsRow base e 1 v zs.length (aS zs)) (hl:zs.length*8≤140737488355328):IsI (fun b=>base≤b∧v.ownBlock=some b) w v zs:=by
 obtain⟨a,cap,rfl,h1,h2⟩:=bD h
 refine⟨a,cap,rfl,?_,hl,h1,h2⟩
 obtain⟨a',cap',he,hi⟩:=cD.of_owns h
 simp at he
 obtain⟨rfl,rfl⟩:=he
 rcases hi with hi | ⟨b,off,rfl,hb,hc⟩
 ·exact Or.inl hi
 ·exact Or.inr ⟨b,off,rfl,⟨(World.ownsRow.lt h b rfl).1,rfl⟩,hc⟩
theorem IsO.of_owns {w:World} {base:Nat} {e:TypeId} {v:Value} {zs:List OpL} (h:w.ownsRow base e 3 v zs.length (cE zs)) (hl:zs.length*24≤140737488355328):IsO (fun b=>base≤b∧v.ownBlock=some b) w v zs:=by
 obtain⟨a,cap,rfl,h1,h2⟩:=bD h
 refine⟨a,cap,rfl,?_,hl,h1,h2⟩
 obtain⟨hi,_⟩:=bR.of_owns h
 rcases hi with hi | ⟨b,off,rfl,hb,hc⟩
 ·exact Or.inl hi
 ·exact Or.inr ⟨b,off,rfl,⟨(World.ownsRow.lt h b rfl).1,rfl⟩,hc⟩
theorem b8 {N:Nat} {f:Nat→Value} (h:∀i,i<N→(f i).oneCell'=true):(aB N f).all (·.oneCell')=true:=by
 refine Array.all_eq_true_iff_forall_mem.2 (fun v hv=>?_)
 simp[aB] at hv
 obtain⟨i,hi,rfl⟩:=hv
 exact h i hi
def nF (w w':World) (v:Value) (zs:List Int):Prop:=w'.ownsRow w.heap.size 3 1 v zs.length (aS zs)∧(zs.length=0→∃a,v= .slice a 0 0)∧Below w.heap.size w w'
def pE (w w':World) (v:Value) (zs:List OpL):Prop:=w'.ownsRow w.heap.size 46 3 v zs.length (cE zs)∧(zs.length=0→∃a,v= .slice a 0 0)∧Below w.heap.size w w'
theorem zP (zs:List Int):∀u∈aS zs,u.oneCell'=true:=by
 intro u hu
 obtain⟨n,_,rfl⟩:=List.mem_map.1 hu
 rfl
theorem z9 (zs:List OpL):∀u∈cE zs,u.oneCell'=true:=by
 intro u hu
 obtain⟨o,_,h⟩:=List.mem_flatMap.1 hu
 simp[lP] at h
 rcases h with rfl | rfl | rfl<;>rfl
theorem cD.news {w w1:World} {ad:Addr} {zs:List Int} (h:cD w.heap.size w (some ad) zs) (hb:Below w.heap.size w w1):∀j u,(aS zs)[j]? =some u→w1.cell? (ad.add j)=some u:=by
 intro j u hu
 rcases h with rfl | ⟨b,off,hb',hlt,hc⟩
 ·simp[aS] at hu
 ·obtain rfl:ad=⟨b,off,none⟩:=by simpa using hb'
  have hj:j<zs.length:=by
   obtain⟨hj,_⟩:=List.getElem?_eq_some_iff.1 hu
   simpa [aS] using hj
  rw[iX,hb.cell (p:=⟨b,off+j,none⟩) hlt,hc j hj]
  simp[aS,hj] at hu
  simp[List.getD,hj,hu]
theorem eM.news {w w1:World} {ad:Addr} {zs:List OpL} (h:eM w (some ad) zs) (hb:Below w.heap.size w w1):∀j u,(cE zs)[j]? =some u→w1.cell? (ad.add j)=some u:=by
 intro j u hu
 rcases h with rfl | ⟨b,off,hb',hlt,hc⟩
 ·simp[cE] at hu
 ·obtain rfl:ad=⟨b,off,none⟩:=by simpa using hb'
  have hj:j<zs.length*3:=by
   obtain⟨hj,_⟩:=List.getElem?_eq_some_iff.1 hu
   rw[rL] at hj
   exact hj
  obtain⟨g0,g1,g2⟩:=oA zs (j / 3) (by omega)
  obtain⟨c0,c1,c2⟩:=hc (j / 3) (by omega)
  rw[iX,hb.cell (p:=⟨b,off+j,none⟩) hlt]
  have h3:j=j / 3*3∨j=j / 3*3+1∨j=j / 3*3+2:=by omega
  rcases h3 with e | e | e
  ·rw[e] at hu ⊢;rw[c0];rw[g0] at hu;exact hu
  ·rw[e] at hu ⊢;rw[←Nat.add_assoc,c1];rw[g1] at hu;exact hu
  ·rw[e] at hu ⊢;rw[←Nat.add_assoc,c2];rw[g2] at hu;exact hu
theorem cY (a:Option Addr) (cap:Nat) (zs:List Int) (w:World) (h:bM w a cap zs) (hl:zs.length*8≤140737488355328):
  Calls Tryz.prog 36 #[.slice a zs.length cap] w fun e w'=>∃v,e= .returned v∧nF w w' v zs:=by
 obtain⟨i0,hi,hz0,hz1,hz2⟩:=info_parts Tryz.infoInt
 have he:=fun w=>Go.Lib.run_eql_slice_nil (P:=Tryz.prog) w 31 3 a zs.length cap 0 0 Tryz.underlying31
 cases a with
 | none=>
  obtain⟨h1,rfl⟩:=h.2.2.2 rfl
  obtain rfl:=List.eq_nil_of_length_eq_zero h1
  simp only[Option.isNone_none,List.length_nil] at he
  go_enter Tryz.func36,Tryz.ntmps36
  go_wp2
  go_ret
  exact⟨_,rfl,World.ownsRow_nil _ _ _ _,fun _=>⟨_,rfl⟩,Below.refl _ _⟩
 | some ad=>
  simp only[Option.isNone_some] at he
  obtain⟨hz,hm,hc,_⟩:=h
  have HB:Hid (Below w.heap.size w (w.alloc (.cells #[] 3))):=(Below.refl _ _).alloc (Nat.le_refl _) _
  have HZ:Hid (cD w.heap.size w (some ad) zs):=hz
  clear hz
  by_cases h0:zs.length=0
  ·obtain rfl:=List.eq_nil_of_length_eq_zero h0
   simp only[List.length_nil] at he
   go_enter Tryz.func36,Tryz.ntmps36
   go_wp2_with (first
    | (at_builtin;refine wpList_append_fits_any _ rfl _ _ 31 rfl w.heap.size 3 i0 1 Tryz.underlying31 hi hz1 w.heap.size 0 0 [] rfl (World.ownsRow_made (e:=3) (size:=1) w #[] 0 (Nat.le_refl _) (by decide) rfl) (some ad) 0 cap [] rfl rfl (fun h=>by cases h) (fun _ _ j u hj=>by simp at hj) (by simp) (Nat.le_refl _) ?_;intro w2 hown hg)
    | go_in)
   go_wp2
   go_ret
   exact⟨_,rfl,hown,fun _=>⟨_,rfl⟩,HB.out.grown hg (by rw[size_push];omega) (by intro k hk;cases hk;exact Nat.le_refl _)⟩
  ·go_enter Tryz.func36,Tryz.ntmps36
   go_wp2_with (first
    | (at_builtin;refine wpList_append_own _ rfl _ _ 31 rfl w.heap.size 3 i0 (.int .i64 0) 1 8 Tryz.underlying31 hi hz0 hz1 hz2 rfl (by decide) _ _ _ rfl (World.ownsRow_made (e:=3) (size:=1) w #[] 0 (Nat.le_refl _) (by decide) rfl) ad zs.length cap (aS zs) rfl ?c1 ?c2 ?c3 ?c4 ?c5 ?c6 ?_)
    | go_in)
   case c1=>simp[aS]
   case c2=>exact HZ.out.news HB.out
   case c3=>exact zP zs
   case c4=>unfold maxLen;omega
   case c5=>omega
   case c6=>rw[size_push];omega
   ·intro v' w2 hown hg _
    go_wp2
    go_ret
    refine⟨_,rfl,?_,fun h=>absurd h h0,HB.out.grown hg (by rw[size_push];omega) (by intro k hk;cases hk;exact Nat.le_refl _)⟩
    simpa using hown
theorem gG (a:Option Addr) (cap:Nat) (zs:List OpL) (w:World) (h:bR w a cap zs) (hl:zs.length*24≤140737488355328):
  Calls Tryz.prog 35 #[.slice a zs.length cap] w fun e w'=>∃v,e= .returned v∧pE w w' v zs:=by
 obtain⟨i0,hi,hz0,hz1,hz2⟩:=info_parts Tryz.infoOp
 have he:=fun w=>Go.Lib.run_eql_slice_nil (P:=Tryz.prog) w 27 46 a zs.length cap 0 0 Tryz.underlying27
 cases a with
 | none=>
  obtain⟨h1,rfl⟩:=h.2.2.2 rfl
  obtain rfl:=List.eq_nil_of_length_eq_zero h1
  simp only[Option.isNone_none,List.length_nil] at he
  go_enter Tryz.func35,Tryz.ntmps35
  go_wp2
  go_ret
  exact⟨_,rfl,World.ownsRow_nil _ _ _ _,fun _=>⟨_,rfl⟩,Below.refl _ _⟩
 | some ad=>
  simp only[Option.isNone_some] at he
  obtain⟨hz,hm,hc,_⟩:=h
  have HB:Hid (Below w.heap.size w (w.alloc (.cells #[] 46))):=(Below.refl _ _).alloc (Nat.le_refl _) _
  have HZ:Hid (eM w (some ad) zs):=hz
  clear hz
  by_cases h0:zs.length=0
  ·obtain rfl:=List.eq_nil_of_length_eq_zero h0
   simp only[List.length_nil] at he
   go_enter Tryz.func35,Tryz.ntmps35
   go_wp2_with (first
    | (at_builtin;refine wpList_append_fits_any _ rfl _ _ 27 rfl w.heap.size 46 i0 3 Tryz.underlying27 hi hz1 w.heap.size 0 0 [] rfl (World.ownsRow_made (e:=46) (size:=3) w #[] 0 (Nat.le_refl _) (by decide) rfl) (some ad) 0 cap [] rfl rfl (fun h=>by cases h) (fun _ _ j u hj=>by simp at hj) (by simp) (Nat.le_refl _) ?_;intro w2 hown hg)
    | go_in)
   go_wp2
   go_ret
   exact⟨_,rfl,hown,fun _=>⟨_,rfl⟩,HB.out.grown hg (by rw[size_push];omega) (by intro k hk;cases hk;exact Nat.le_refl _)⟩
  ·go_enter Tryz.func35,Tryz.ntmps35
   go_wp2_with (first
    | (at_builtin;refine wpList_append_own _ rfl _ _ 27 rfl w.heap.size 46 i0 (.agg #[.int .i64 0,.int .i64 0,.int .i64 0]) 3 24 Tryz.underlying27 hi hz0 hz1 hz2 rfl (by decide) _ _ _ rfl (World.ownsRow_made (e:=46) (size:=3) w #[] 0 (Nat.le_refl _) (by decide) rfl) ad zs.length cap (cE zs) rfl ?c1 ?c2 ?c3 ?c4 ?c5 ?c6 ?_)
    | go_in)
   case c1=>exact rL zs
   case c2=>exact HZ.out.news HB.out
   case c3=>exact z9 zs
   case c4=>unfold maxLen;omega
   case c5=>omega
   case c6=>rw[size_push];omega
   ·intro v' w2 hown hg _
    go_wp2
    go_ret
    refine⟨_,rfl,?_,fun h=>absurd h h0,HB.out.grown hg (by rw[size_push];omega) (by intro k hk;cases hk;exact Nat.le_refl _)⟩
    simpa using hown
theorem bB (w:World) {g k:Nat} (cs:Array Value) (h:k≠g):(w.setRow g cs).heap[k]? =w.heap[k]? :=by
 simp[World.setRow,Array.getElem?_modify]
 intro e;omega
theorem dL {w w':World} {b:Nat} {e:TypeId} {size:Nat} {v:Value} {n:Nat} {xs:List Value} (h:w.ownsRow b e size v n xs) (hs:∀k,v.ownBlock=some k→w'.heap[k]? =w.heap[k]?):w'.ownsRow b e size v n xs:=
 ⟨h.1,h.2.imp id fun ⟨g,cap,cur,h1,h2,h3,h4⟩=>⟨g,cap,cur,h1,h2,by rw[hs g (by rw[h1];rfl)];exact h3,h4⟩⟩
theorem qE (w:World) (A B C:Obj):(((w.alloc A).alloc B).alloc C).heap[w.heap.size]? =some A∧(((w.alloc A).alloc B).alloc C).heap[w.heap.size+1]? =some B∧(((w.alloc A).alloc B).alloc C).heap[w.heap.size+2]? =some C:=by
 have h1:(w.alloc A).heap.size=w.heap.size+1:=size_push _ _
 have h2:((w.alloc A).alloc B).heap.size=w.heap.size+2:=by rw[size_push];omega
 obtain⟨r1,r2⟩:=bY w A B
 refine⟨?_,?_,?_⟩
 ·rw[Below.heap_alloc _ _ _ (by omega)];exact r1
 ·rw[Below.heap_alloc _ _ _ (by omega)];exact r2
 ·rw[show w.heap.size+2=((w.alloc A).alloc B).heap.size by omega];exact aR _ _
theorem Tryz.infoFrame7:(Tryz.prog.info? 104).map (·.size)=some 7:=by kernel_rfl
theorem Tryz.infoFrameZ:(Tryz.prog.info? 104).map (fun i=>(i.zero,i.size,i.bytes))=some (some (.agg #[.int .i64 0,.int .i64 0,.int .i64 0,.slice none 0 0,.slice none 0 0,.slice none 0 0,.slice none 0 0]),7,120):=by kernel_rfl
theorem fK {P:Program} {fn:Func} {p q r:Tmp} {ty:TypeId} (h:fn.results=#[.cell p ty,.tmp q,.tmp r]) (tmps:Array Value) (w:World) (g:Nat) (t:TypeId) (cs:Array Value) (fr:Nat × Nat) (d:TypeDesc)
  (hp:tmps.getD p undef= .pointer (some ⟨g,0,none⟩)) (hg:w.heap[g]? =some (.cells cs t fr)) (hu:P.underlying ty=some d) (hd:(match d with | .struct _ | .array _ _=>true | _=>false)=true) (hi:(P.info? ty).map (·.size)=some cs.size)
  (x y:Value) (hx:tmps.getD q undef=x) (hy:tmps.getD r undef=y):(results fn tmps).run P w= .ok (.tuple #[.agg cs,x,y]) w:=by
 have hp':tmps[p]?.getD undef= .pointer (some ⟨g,0,none⟩):=by simpa using hp
 have hx':tmps[q]?.getD undef=x:=by simpa using hx
 have hy':tmps[r]?.getD undef=y:=by simpa using hy
 simp[results,h,hp',hx',hy',asAddr,run_loadVar_row w g t ty cs fr d hg hu hd hi]
def dN (B:Nat) (w:World) (v:Value) (f:aD):Prop:=∃a3 c3 a4 c4 a5 c5 a6 c6,
 v= .agg #[.int .i64 f.kind,.int .i64 f.node,.int .i64 f.id,.slice a3 f.ops.length c3,.slice a4 f.deps.length c4,.slice a5 f.ats.length c5,.slice a6 f.vals.length c6]∧
 (bR w a3 c3 f.ops∧eO (· <B) w a3 f.ops)∧(bM w a4 c4 f.deps∧cU (· <B) w a4 f.deps)∧(bM w a5 c5 f.ats∧cU (· <B) w a5 f.ats)∧(bM w a6 c6 f.vals∧cU (· <B) w a6 f.vals)
theorem bP.b {w:World} {v:Value} {f:aD} (h:bP w v f):dN w.heap.size w v f:=by
 obtain⟨a3,c3,a4,c4,a5,c5,a6,c6,e,h3,h4,h5,h6⟩:=h
 exact⟨a3,c3,a4,c4,a5,c5,a6,c6,e,⟨h3,h3.1⟩,⟨h4,h4.1⟩,⟨h5,h5.1⟩,⟨h6,h6.1⟩⟩
theorem dN.v {B:Nat} {w:World} {v:Value} {f:aD} (h:dN B w v f):bP w v f:=by
 obtain⟨a3,c3,a4,c4,a5,c5,a6,c6,e,h3,h4,h5,h6⟩:=h
 exact⟨a3,c3,a4,c4,a5,c5,a6,c6,e,h3.1,h4.1,h5.1,h6.1⟩
theorem nJ {B:Nat} {w w':World} {a:Option Addr} {cap:Nat} {zs:List Int} (h:bM w a cap zs∧cU (· <B) w a zs) (hb:Below B w w'):bM w' a cap zs∧cU (· <B) w' a zs:=by
 have h2:=h.2.later (w':=w') (fun k _ hk=>hb.block k hk)
 exact⟨⟨h2.at,h.1.2⟩,h2⟩
theorem oP {B:Nat} {w w':World} {a:Option Addr} {cap:Nat} {zs:List OpL} (h:bR w a cap zs∧eO (· <B) w a zs) (hb:Below B w w'):bR w' a cap zs∧eO (· <B) w' a zs:=by
 have h2:=h.2.later (w':=w') (fun k _ hk=>hb.block k hk)
 exact⟨⟨h2.at,h.1.2⟩,h2⟩
theorem dN.later {B:Nat} {w w':World} {v:Value} {f:aD} (h:dN B w v f) (hb:Below B w w'):dN B w' v f:=by
 obtain⟨a3,c3,a4,c4,a5,c5,a6,c6,e,h3,h4,h5,h6⟩:=h
 exact⟨a3,c3,a4,c4,a5,c5,a6,c6,e,oP h3 hb,nJ h4 hb,nJ h5 hb,nJ h6 hb⟩
def lR (B:Nat) (w:World) (v:Value) (f:aD):Prop:=∃a3 c3 a4 c4 a5 c5 a6 c6,
 v= .agg #[.int .i64 f.kind,.int .i64 f.node,.int .i64 f.id,.slice a3 f.ops.length c3,.slice a4 f.deps.length c4,.slice a5 f.ats.length c5,.slice a6 f.vals.length c6]∧
 (bR w a3 c3 f.ops∧eO (B≤·) w a3 f.ops)∧(bM w a4 c4 f.deps∧cU (B≤·) w a4 f.deps)∧(bM w a5 c5 f.ats∧cU (B≤·) w a5 f.ats)∧(bM w a6 c6 f.vals∧cU (B≤·) w a6 f.vals)
theorem lR.v {B:Nat} {w:World} {v:Value} {f:aD} (h:lR B w v f):bP w v f:=by
 obtain⟨a3,c3,a4,c4,a5,c5,a6,c6,e,h3,h4,h5,h6⟩:=h
 exact⟨a3,c3,a4,c4,a5,c5,a6,c6,e,h3.1,h4.1,h5.1,h6.1⟩
theorem nB {ok:Nat→Prop} {w w':World} {a:Option Addr} {cap:Nat} {zs:List Int} (h:bM w a cap zs∧cU ok w a zs) (hb:bI ok w w'):bM w' a cap zs∧cU ok w' a zs:=by
 have h2:=h.2.later hb
 exact⟨⟨h2.at,h.1.2⟩,h2⟩
theorem AP {ok:Nat→Prop} {w w':World} {a:Option Addr} {cap:Nat} {zs:List OpL} (h:bR w a cap zs∧eO ok w a zs) (hb:bI ok w w'):bR w' a cap zs∧eO ok w' a zs:=by
 have h2:=h.2.later hb
 exact⟨⟨h2.at,h.1.2⟩,h2⟩
theorem lR.same {B:Nat} {w w':World} {v:Value} {f:aD} (h:lR B w v f) (hb:bI (B≤·) w w'):lR B w' v f:=by
 obtain⟨a3,c3,a4,c4,a5,c5,a6,c6,e,h3,h4,h5,h6⟩:=h
 exact⟨a3,c3,a4,c4,a5,c5,a6,c6,e,AP h3 hb,nB h4 hb,nB h5 hb,nB h6 hb⟩
theorem lR.mono {B B':Nat} {w:World} {v:Value} {f:aD} (h:lR B w v f) (hB:B'≤B):lR B' w v f:=by
 obtain⟨a3,c3,a4,c4,a5,c5,a6,c6,e,h3,h4,h5,h6⟩:=h
 have m:∀k,k<w.heap.size→B≤k→B'≤k:=fun k _ (h:B≤k)=>by omega
 exact⟨a3,c3,a4,c4,a5,c5,a6,c6,e,⟨h3.1,h3.2.mono m⟩,⟨h4.1,h4.2.mono m⟩,⟨h5.1,h5.2.mono m⟩,⟨h6.1,h6.2.mono m⟩⟩
theorem iH (ok:Nat→Prop) (w:World):bM w none 0 []∧cU ok w none []:=⟨⟨Or.inl rfl,Nat.zero_le _,Nat.le_refl _,fun _=>⟨rfl,rfl⟩⟩,Or.inl rfl⟩
theorem pN (ok:Nat→Prop) (w:World):bR w none 0 []∧eO ok w none []:=⟨⟨Or.inl rfl,Nat.zero_le _,Nat.le_refl _,fun _=>⟨rfl,rfl⟩⟩,Or.inl rfl⟩
theorem wN {B b0:Nat} {w:World} {a:Option Addr} {cap:Nat} {zs:List Int} (h:w.ownsRow b0 3 1 (.slice a zs.length cap) zs.length (aS zs)) (hB:B≤b0):bM w a cap zs∧cU (B≤·) w a zs:=by
 have h1:=bM.of_owns h
 refine⟨h1,?_⟩
 rcases h1.1 with e | ⟨b,off,rfl,_,hc⟩
 ·exact Or.inl e
 ·exact Or.inr ⟨b,off,rfl,Nat.le_trans hB (World.ownsRow.lt h b rfl).1,hc⟩
def aI (B:Nat) (w:World) (v:Value) (fs:List aD):Prop:=∃css:List (List Value),css.length=fs.length∧w.ownsRow B 104 7 v fs.length css.flatten∧
 (∀i (h:i<fs.length),(css.getD i []).length=7∧lR B w (.agg (css.getD i []).toArray) fs[i])
theorem aI.same {B:Nat} {w w':World} {v:Value} {fs:List aD} (h:aI B w v fs) (hb:bI (B≤·) w w'):aI B w' v fs:=by
 obtain⟨css,h1,h2,h3⟩:=h
 exact⟨css,h1,dL h2 (fun k hk=>hb k (World.ownsRow.lt h2 k hk).2 (World.ownsRow.lt h2 k hk).1),fun i hi=>⟨(h3 i hi).1,(h3 i hi).2.same hb⟩⟩
theorem aI.later {B:Nat} {w w':World} {v:Value} {fs:List aD} (h:aI B w v fs) (hb:Below w.heap.size w w'):aI B w' v fs:=h.same (bI.of_size hb)
theorem aI.mono {B B':Nat} {w:World} {v:Value} {fs:List aD} (h:aI B w v fs) (hB:B'≤B):aI B' w v fs:=by
 obtain⟨css,h1,h2,h3⟩:=h
 exact⟨css,h1,dY h2 hB,fun i hi=>⟨(h3 i hi).1,(h3 i hi).2.mono hB⟩⟩
theorem aI.nil (B:Nat) (w:World):aI B w (.slice none 0 0) []:=⟨[],rfl,World.ownsRow_nil _ _ _ _,fun _ h=>by simp at h⟩
theorem fO {f:aD} (h:aL f=0):(0≤f.id∧f.id<32)∧(0≤f.node∧f.node<6):=by
 unfold aL at h
 split at h
 ·omega
 ·split at h
  ·omega
  ·omega
def cR (w:World) (b:Nat):Prop:=∃cs t,w.heap[b]? =some (.cells cs t (0,0))
theorem cR.same {w w':World} {b:Nat} (h:cR w b) (e:w'.heap[b]? =w.heap[b]?):cR w' b:=by
 obtain⟨cs,t,h⟩:=h
 exact⟨cs,t,by rw[e];exact h⟩
theorem cR.lt {w:World} {b:Nat} (h:cR w b):b<w.heap.size:=by
 obtain⟨cs,t,e⟩:=h
 exact (Array.getElem?_eq_some_iff.1 e).1
theorem cR.below {w w':World} {b:Nat} (h:cR w b) (hb:Below w.heap.size w w'):cR w' b:=h.same (hb.block b h.lt)
theorem cR.setRow {w:World} {b:Nat} (h:cR w b) (g:Nat) (cs:Array Value):cR (w.setRow g cs) b:=by
 by_cases e:b=g
 ·subst e
  obtain⟨cs',t,h⟩:=h
  exact⟨cs,t,aU h⟩
 ·exact h.same (bB _ _ e)
theorem cR.setCell {w:World} {b:Nat} (h:cR w b) (g m:Nat) (v:Value):cR (w.setCell ⟨g,m,none⟩ v) b:=by
 by_cases e:b=g
 ·subst e
  obtain⟨cs',t,h⟩:=h
  exact⟨_,t,heap_setCell_same w b m _ _ _ h⟩
 ·exact h.same (Below.heap_setCell _ _ _ _ e)
def fB (w:World) (v:Value):Prop:=∀b,v.ownBlock=some b→cR w b
theorem fB.of_owns {w:World} {base:Nat} {e:TypeId} {size n:Nat} {v:Value} {xs:List Value} (h:w.ownsRow base e size v n xs):fB w v:=by
 rcases h.2 with ⟨rfl,_⟩ | ⟨g,cap,cur,rfl,_,hh,_⟩
 ·intro b e;cases e
 ·intro b e;cases e;exact⟨cur,_,hh⟩
theorem fB.below {w w':World} {v:Value} (h:fB w v) (hb:Below w.heap.size w w'):fB w' v:=fun b e=>(h b e).below hb
theorem fB.setCell {w:World} {v:Value} (h:fB w v) (g m:Nat) (u:Value):fB (w.setCell ⟨g,m,none⟩ u) v:=fun b e=>(h b e).setCell g m u
theorem fB.setRow {w:World} {v:Value} (h:fB w v) (g:Nat) (cs:Array Value):fB (w.setRow g cs) v:=fun b e=>(h b e).setRow g cs
theorem IsI.softly {ok:Nat→Prop} {w:World} {v:Value} {zs:List Int} (h:IsI ok w v zs) (hs:fB w v):IsI (fun b=>ok b∧cR w b) w v zs:=by
 obtain⟨a,cap,rfl,h2,h3⟩:=h
 refine⟨a,cap,rfl,?_,h3⟩
 rcases h2 with h2 | ⟨b,off,rfl,hb,hc⟩
 ·exact Or.inl h2
 ·exact Or.inr ⟨b,off,rfl,⟨hb,hs b rfl⟩,hc⟩
theorem IsO.softly {ok:Nat→Prop} {w:World} {v:Value} {zs:List OpL} (h:IsO ok w v zs) (hs:fB w v):IsO (fun b=>ok b∧cR w b) w v zs:=by
 obtain⟨a,cap,rfl,h2,h3⟩:=h
 refine⟨a,cap,rfl,?_,h3⟩
 rcases h2 with h2 | ⟨b,off,rfl,hb,hc⟩
 ·exact Or.inl h2
 ·exact Or.inr ⟨b,off,rfl,⟨hb,hs b rfl⟩,hc⟩
theorem IsI.soft_on {ok:Nat→Prop} {w w':World} {v:Value} {zs:List Int} (h:IsI (fun b=>ok b∧cR w b) w v zs) (hB:bI ok w w'):IsI (fun b=>ok b∧cR w' b) w' v zs:=by
 obtain⟨a,cap,rfl,h2,h3⟩:=h
 refine⟨a,cap,rfl,?_,h3⟩
 rcases h2 with h2 | ⟨b,off,rfl,hb,hc⟩
 ·exact Or.inl h2
 ·have e:=hB b hb.2.lt hb.1
  exact Or.inr ⟨b,off,rfl,⟨hb.1,hb.2.same e⟩,fun i hi=>by rw[World.cell?_of_block (a:=⟨b,off+i,none⟩) e];exact hc i hi⟩
theorem IsO.soft_on {ok:Nat→Prop} {w w':World} {v:Value} {zs:List OpL} (h:IsO (fun b=>ok b∧cR w b) w v zs) (hB:bI ok w w'):IsO (fun b=>ok b∧cR w' b) w' v zs:=by
 obtain⟨a,cap,rfl,h2,h3⟩:=h
 refine⟨a,cap,rfl,?_,h3⟩
 rcases h2 with h2 | ⟨b,off,rfl,hb,hc⟩
 ·exact Or.inl h2
 ·have e:=hB b hb.2.lt hb.1
  refine Or.inr ⟨b,off,rfl,⟨hb.1,hb.2.same e⟩,fun i hi=>?_⟩
  rw[World.cell?_of_block (a:=⟨b,off+i*3,none⟩) e,World.cell?_of_block (a:=⟨b,off+i*3+1,none⟩) e,World.cell?_of_block (a:=⟨b,off+i*3+2,none⟩) e]
  exact hc i hi
def jV (n:Int):Bool:=decide (0≤n∧n<32)
theorem sJ (n:Int) (w:World):
  Calls Tryz.prog 157 #[.int .i64 n] w fun e w'=>e= .returned (.bool (jV n))∧w'=w:=by
 by_cases h1:0≤n
 ·by_cases h2:n<32
  ·have E:Hid (jV n=true):=by unfold jV Hid;simp;omega
   have d1:decide (0≤n)=true:=by simpa using h1
   have d2:decide (n<32)=true:=by simpa using h2
   go_enter Tryz.func157,Tryz.ntmps157
   go_wp2
   go_ret
   exact⟨aF E.out.symm,rfl⟩
  ·have E:Hid (jV n=false):=by unfold jV Hid;simp;omega
   have d1:decide (0≤n)=true:=by simpa using h1
   have d2:decide (n<32)=false:=by simpa using h2
   go_enter Tryz.func157,Tryz.ntmps157
   go_wp2
   go_ret
   exact⟨aF E.out.symm,rfl⟩
 ·have E:Hid (jV n=false):=by unfold jV Hid;simp;omega
  have d1:decide (0≤n)=false:=by simpa using h1
  go_enter Tryz.func157,Tryz.ntmps157
  go_wp2
  go_ret
  exact⟨aF E.out.symm,rfl⟩
theorem Tryz.setGuard:Tryz.prog.eqGuardType Tryz.prog.depth 146=false:=by kernel_rfl
theorem aY.drewN {w:World} {c:Nat} {gv:Nat→Value} {s:St} {sv:Value} (h:aY w c gv s sv) (k:Nat):aY (w.drewN k) c gv s sv:=h
theorem aY.drew {w:World} {c:Nat} {gv:Nat→Value} {s:St} {sv:Value} (h:aY w c gv s sv):aY w.drew c gv s sv:=h
theorem Tryz.sizeSet (S:Nat→Bool):(Tryz.prog.info? 146).map (·.size)=some (aG 32 S).toList.length:=by rw[iV];exact Tryz.infoSet
theorem sE (c:Nat) (gv:Nat→Value) (s:St) (sv:Value) (n m:Nat) (hn:n<32) (hm:m<32) (w:World) (hs:aY w c gv s sv):
  Calls Tryz.prog 170 #[.pointer (some ⟨c,0,none⟩),.int .i64 n,.int .i64 m] w fun e w'=>e= .returned (.bool (dG 32 (s.reach n) (s.reach m)))∧∃k,w'=w.drewN k:=by
 have r1:=hs.row hn
 have r2:=hs.row hm
 have hg:=Tryz.setGuard
 have he:=fun w=>bL 9998 Tryz.underlying146 Tryz.underlying4 Tryz.infoBool (s.reach n) (s.reach m) w
 have n1:(0:Int)≤(n:Int)∧(n:Int)<32:=by omega
 have m1:(0:Int)≤(m:Int)∧(m:Int)<32:=by omega
 go_enter Tryz.func170,Tryz.ntmps170
 go_wp2
 refine wp_region_quiet_lit (by kernel_rfl) (by kernel_rfl) ?_
 repeat (quiet_step (fail))
 refine oE (by rfl) _ _ rfl _ _ rfl (aG 32 (s.reach n)).toList _ r1 Tryz.underlying146 rfl (Tryz.sizeSet _) ?_
 simp only[Act.put,List.setIfInBounds_toArray,List.set_cons_zero,List.set_cons_succ,Array.toArray_toList]
 repeat (quiet_step (fail))
 refine oE (by rfl) _ _ rfl _ _ rfl (aG 32 (s.reach m)).toList _ r2 Tryz.underlying146 rfl (Tryz.sizeSet _) ?_
 simp only[Act.put,List.setIfInBounds_toArray,List.set_cons_zero,List.set_cons_succ,Array.toArray_toList]
 repeat (quiet_step (fail))
 refine wpQuiet_nil ?_
 rintro _ ⟨nq,rfl⟩
 go_wp2
 go_ret
 exact⟨rfl,_,rfl⟩
theorem jH {w w1:World} {row:Option Nat} (h:w.grownBy w1 row):w.grownBy w1.drew row:=⟨h.os,h.tape,h.output,h.size,h.block⟩
theorem aQ {w w1 w2:World} {row:Option Nat} (h:w.grownBy w1 row) (k:w1.grownBy w2 row):w.grownBy w2 row:=
 ⟨k.os.trans h.os,k.tape.trans h.tape,k.output.trans h.output,Nat.le_trans h.size k.size,fun i hi hr=>(k.block i (Nat.lt_of_lt_of_le hi h.size) hr).trans (h.block i hi hr)⟩
theorem eZ {w w1:World} {c:Nat} (h:w.grownBy w1 (some c)) (hc:c<w.heap.size):Below c w w1:=
 (Below.refl _ _).grown h (by omega) (by intro k hk;cases hk;exact Nat.le_refl _)
theorem gW {w w1:World} (h:Below w.heap.size w w1) (row:Option Nat):w.grownBy w1 row:=⟨h.os,h.tape,h.output,h.size,fun k hk _=>h.block k hk⟩
theorem aY.later {w w1:World} {c B:Nat} {gv:Nat→Value} {s:St} {sv:Value} (h:aY w c gv s sv) (hb:Below B w w1) (hc:c<B):aY w1 c gv s sv:=bA.later h hb hc
theorem aY.lt {w:World} {c:Nat} {gv:Nat→Value} {s:St} {sv:Value} (h:aY w c gv s sv):c<w.heap.size:=bA.lt h
theorem aY.alloc {w:World} {c:Nat} {gv:Nat→Value} {s:St} {sv:Value} (h:aY w c gv s sv) (o:Obj):aY (w.alloc o) c gv s sv:=
 h.later (B:=w.heap.size) ((Below.refl _ _).alloc (Nat.le_refl _) _) h.lt
def h9 (s:St) (n:Nat) (T:Nat→Bool) (k:Nat):St:={ s with reach:=upd s.reach n (fun j=>s.reach n j || (decide (j<k) && T j)) }
theorem BG (s:St) (n:Nat) (T:Nat→Bool):h9 s n T 0=s:=by
 unfold h9
 have:upd s.reach n (fun j=>s.reach n j || (decide (j<0) && T j))=s.reach:=by
  funext i j
  unfold upd
  split
  ·rename_i e;subst e;simp
  ·rfl
 rw[this]
theorem DL (s:St) (n:Nat) (T:Nat→Bool) (k:Nat) (h:T k=true):({ h9 s n T k with reach:=upd (h9 s n T k).reach n (upd ((h9 s n T k).reach n) k true) }:St)=h9 s n T (k+1):=by
 unfold h9
 simp only[aT]
 congr 1
 funext i j
 unfold upd
 by_cases e:i=n
 ·simp only[e,if_true]
  by_cases e2:j=k
  ·subst e2;simp[h]
  ·have:decide (j<k+1)=decide (j<k):=by rw[Bool.eq_iff_iff];simp;omega
   simp[e2,this]
 ·simp[e]
theorem BF (s:St) (n:Nat) (T:Nat→Bool) (k:Nat) (h:T k=false):h9 s n T (k+1)=h9 s n T k:=by
 unfold h9
 congr 2
 funext j
 by_cases e2:j=k
 ·subst e2;simp[h]
 ·have:decide (j<k+1)=decide (j<k):=by rw[Bool.eq_iff_iff];simp;omega
  rw[this]
theorem aY.same {w:World} {c:Nat} {gv:Nat→Value} {s s':St} {sv:Value} (h:aY w c gv s sv) (h1:s.met=s'.met) (h2:∀i,i<32→s.turn i=s'.turn i) (h3:∀i,i<32→s.back i=s'.back i) (h4:∀i,i<32→s.opn i=s'.opn i)
  (h5:∀i j,i<32→j<32→s.reach i j=s'.reach i j):aY w c gv s' sv:=by
 refine bA.congr h fun i hi=>?_
 unfold fC
 repeat' split
 ·rfl
 ·rw[h1]
 ·rw[h2 _ (by omega)]
 ·rw[h3 _ (by omega)]
 ·rfl
 ·rw[h4 _ (by omega)]
 ·rw[h5 _ _ (by omega) (by omega)]
theorem JE (c:Nat) (gv:Nat→Value) (s:St) (sv:Value) (n:Nat) (hn:n<32) (T:Nat→Bool) (w:World) (hs:aY w c gv s sv):
  Calls Tryz.prog 168 #[.pointer (some ⟨c,162+n*32,none⟩),.agg (aG 32 T)] w fun e w'=>e= .returned (.tuple #[])∧aY w' c gv { s with reach:=upd s.reach n (fun j=>s.reach n j || T j) } sv∧w.grownBy w' (some c):=by
 have hlt:=hs.lt
 go_enter Tryz.func168,Tryz.ntmps168
 go_wp2_with (refine wpList_load_row rfl 146 _ rfl w.heap.size rfl 146 (aG 32 T) (0,0) _ (aR _ _) Tryz.underlying146 rfl (by rw[lK];exact Tryz.infoSet) ?_)
 have hg0:w.grownBy (w.alloc (.cells (aG 32 T) 146)) (some c):=s7 (World.grownBy.refl _ _) _
 have hs0:=hs.alloc (.cells (aG 32 T) 146)
 rw[←BG s n T] at hs0
 clear hs
 go_loopw [7] (fun i wr=>∃k:Nat,k≤32∧i= .int .i64 k∧aY wr c gv (h9 s n T k) sv∧w.grownBy wr (some c)) (fun i _=>32-(intOf i).toNat)
 case atStart=>exact⟨0,Nat.zero_le _,rfl,hs0,hg0⟩
 case round=>
  obtain⟨k,hk,rfl,hS,hG⟩:=hrel
  clear hs0 hg0
  by_cases hlt:k<32
  ·have hix:=fun wx=>iG Tryz.underlying146 Tryz.underlying4 Tryz.infoBool T hlt wx
   cases tk:T k
   ·rw[tk] at hix
    have HM:Hid (h9 s n T (k+1)=h9 s n T k):=BF s n T k tk
    go_wp2
    go_roundw
    case rel=>exact⟨k+1,by omega,by go_num,by rw[HM.out];exact hS,hG⟩
    case measure=>simp[intOf];omega
   ·rw[tk] at hix
    have c0:wr.cell? ⟨c,162+n*32+k,none⟩=some (.bool ((h9 s n T k).reach n k)):=by rw[bA.cell hS (by omega),lV _ _ _ hlt]
    have f0:wr.frozen? ⟨c,162+n*32+k,none⟩=false:=bA.frozen hS _
    have HS:Hid (aY wr c gv (h9 s n T k) sv):=hS
    have HM:Hid (_=h9 s n T (k+1)):=DL s n T k tk
    clear hS
    go_wp2
    go_roundw
    case rel=>exact⟨k+1,by omega,by go_num,by rw[←HM.out];exact HS.out.putReach hlt true,aM hG _ _⟩
    case measure=>simp[intOf];omega
  ·go_wp2
   go_end0
   obtain rfl:k=32:=by omega
   refine⟨rfl,hS.same rfl (fun _ _=>rfl) (fun _ _=>rfl) (fun _ _=>rfl) (fun i j _ hj=>?_),hG⟩
   unfold h9 upd
   by_cases e:i=n
   ·simp[e,hj]
   ·simp[e]
theorem F9 (a:Option Addr) (cap:Nat) (zs:List Int) (n:Int) (i:Nat) (w:World) (hl:zs.length≤maxLen) (hz:cD w.heap.size w a zs) (hi:i<zs.length) (hn:zs.getD i 0=n) (hb:∀j,j<i→zs.getD j 0≠n):
  Calls Tryz.prog 143 #[.slice a zs.length cap,.int .i64 n] w fun e w'=>e= .returned (.int .i64 i)∧w'=w:=by
 unfold maxLen at hl
 rcases hz with rfl | ⟨b,off,rfl,_,hc⟩
 ·simp at hi
 ·have h64:(zs.length:Int)≤9223372036854775807:=by omega
  go_enter Tryz.func143,Tryz.ntmps143
  go_wp2
  go_loop [8] (fun v=>∃k:Nat,k≤i∧v= .int .i64 k) (fun v=>zs.length-(intOf v).toNat)
  case atStart=>exact⟨0,Nat.zero_le _,rfl⟩
  case round=>
   obtain⟨k,hk,rfl⟩:=hrel
   have hlt:k<zs.length:=by omega
   obtain⟨q,Hq⟩:∃q:Int,Hid (zs.getD k 0=q):=⟨_,rfl⟩
   have e0:w.cell? ⟨b,off+k,none⟩=some (.int .i64 q):=by rw[←Hq.out];exact hc k hlt
   clear hc
   by_cases e:k=i
   ·subst e
    have hq:(n == q)=true:=by rw[←Hq.out,hn];simp
    go_wp2
    go_ret
    exact⟨rfl,rfl⟩
   ·have hq:(n == q)=false:=by
     have:=hb k (by omega)
     rw[Hq.out] at this
     exact beq_eq_false_iff_ne.2 (fun h=>this h.symm)
    go_wp2
    go_round
    case rel=>exact⟨k+1,by omega,by go_num⟩
    case measure=>simp[intOf];omega
theorem Tryz.sizeSet' (S:Nat→Bool):(Tryz.prog.info? 146).map (·.size)=some (aG 32 S).size:=by rw[lK];exact Tryz.infoSet
theorem E8 (c:Nat) (gv:Nat→Value) (g:bH) (s:St) (sv:Value) (n:Nat) (hn:n<32) (w:World) (hs:aY w c gv s sv) (hg:jD c w gv g):
  Calls Tryz.prog 167 #[.pointer (some ⟨c,0,none⟩),.int .i64 n] w fun e w'=>e= .returned (.agg (aG 32 (g.adj n)))∧Below w.heap.size w w':=by
 have hlt:=hs.lt
 have n1:(0:Int)≤(n:Int)∧(n:Int)<32:=by omega
 have k0:w.cell? ⟨c,n,none⟩=some (.bool (g.known n)):=by rw[bA.cell hs (by omega),pB _ _ _ (by omega),hg.known n hn]
 cases hk:g.known n
 ·rw[hk] at k0
  have E:Hid (aG 32 (g.adj n)=aG 32 (fun _=>false)):=by
   unfold Hid
   congr 1
   funext j
   simp[bH.adj,hk]
  go_enter Tryz.func167,Tryz.ntmps167
  go_upto_region 3 with fail
  rw[←Tryz.zero146]
  obtain⟨W,hW⟩:=zNm ((w.alloc (.cells (aG 32 fun _=>false) 146)).alloc (.cells (aG 32 fun _=>false) 146))
  have hr:=bY w (.cells (aG 32 fun _=>false) 146) (.cells (aG 32 fun _=>false) 146)
  have hb:=zB2 hW
  rw[←hW] at hr ⊢
  obtain⟨hr1,hr2⟩:=hr
  clear hW hs hg k0
  go_wp2_with (first
   | (refine wpList_load_row rfl 146 _ rfl (w.heap.size+1) rfl 146 (aG 32 fun _=>false) (0,0) _ hr2 Tryz.underlying146 rfl (Tryz.sizeSet' _) ?_)
   | (refine wpList_store_row rfl 146 _ _ rfl w.heap.size (aG 32 fun _=>false) rfl rfl 146 _ hr1 (Tryz.sizeSet' _) rfl (qX _ _) ?_))
  refine bodyPost_ret (v:= .agg (aG 32 fun _=>false)) (results_cell_row Tryz.results167 _ _ w.heap.size 146 _ (0,0) _ rfl (aU hr1) Tryz.underlying146 rfl (Tryz.sizeSet' _)) rfl ⟨by rw[E.out],aP hb (Nat.le_refl _) _⟩
 ·rw[hk] at k0
  obtain⟨a,cap,hd,hz,hl⟩:=hg.deps n hn
  have d0:w.cell? ⟨c,32+n,none⟩=some (.slice a (g.deps n).length cap):=by rw[bA.cell hs (by omega),pB _ _ _ (by omega),hd]
  have E:Hid (aG 32 (g.adj n)=aG 32 (fun j=>(g.deps n).contains (j:Int))):=by
   unfold Hid aG
   congr 1
   refine List.map_congr_left fun j hj=>?_
   have:=List.mem_range.1 hj
   simp[bH.adj,hk,hn,this]
  generalize g.deps n=zs at hz hl d0 E
  clear hd
  have hl':=hl
  unfold maxLen at hl'
  have h64:(zs.length:Int)≤9223372036854775807:=by omega
  go_enter Tryz.func167,Tryz.ntmps167
  go_upto_region 4 with fail
  rw[←Tryz.zero146]
  obtain⟨W,hW⟩:=zNm ((w.alloc (.cells (aG 32 fun _=>false) 146)).alloc (.cells (aG 32 fun _=>false) 146))
  have hr:=bY w (.cells (aG 32 fun _=>false) 146) (.cells (aG 32 fun _=>false) 146)
  have hb:=zB2 hW
  rw[←hW] at hr ⊢
  obtain⟨hr1,hr2⟩:=hr
  have d1:W.cell? ⟨c,32+n,none⟩=some (.slice a zs.length cap):=by rw[hb.cell (p:=⟨c,32+n,none⟩) hlt];exact d0
  have hS0:cV 32 W (w.heap.size+1) (fun _=>false):=⟨146,hr2⟩
  have hz':cD w.heap.size w a zs:=hz.mono (by omega)
  clear hW hs hg k0 d0 hr2 hz
  rcases hz' with rfl | ⟨b,off,rfl,hbb,hc⟩
  ·go_wp2_with fail
   refine wp_loop_rounds 1 ?_;rw[rounds_succ]
   obtain⟨t,hS0⟩:=hS0
   go_wp2_with (first
    | (refine wpList_load_row rfl 146 _ rfl (w.heap.size+1) rfl t (aG 32 fun _=>false) (0,0) _ hS0 Tryz.underlying146 rfl (Tryz.sizeSet' _) ?_)
    | (refine wpList_store_row rfl 146 _ _ rfl w.heap.size (aG 32 fun _=>false) rfl rfl 146 _ hr1 (Tryz.sizeSet' _) rfl (qX _ _) ?_))
   refine bodyPost_ret (v:= .agg (aG 32 fun _=>false)) (results_cell_row Tryz.results167 _ _ w.heap.size 146 _ (0,0) _ rfl (aU hr1) Tryz.underlying146 rfl (Tryz.sizeSet' _)) rfl ⟨by rw[E.out];rfl,aP hb (Nat.le_refl _) _⟩
  ·go_wp2_with fail
   go_loopw [23] (fun i wr=>∃k:Nat,k≤zs.length∧i= .int .i64 k∧cV 32 wr (w.heap.size+1) (fun i=>(zs.take k).contains (i:Int))∧Below w.heap.size w wr∧wr.heap[w.heap.size]? =some (.cells (aG 32 fun _=>false) 146 (0,0))) (fun i _=>zs.length-(intOf i).toNat)
   case atStart=>exact⟨0,Nat.zero_le _,rfl,hS0.congr (by simp),hb,hr1⟩
   case round=>
    obtain⟨k,hk',rfl,hS,hBw,hr⟩:=hrel
    clear hS0 hr1 d1
    have hsz:=hBw.size
    by_cases hlt':k<zs.length
    ·obtain⟨q,Hq⟩:∃q:Int,Hid (zs.getD k 0=q):=⟨_,rfl⟩
     have e0:wr.cell? ⟨b,off+k,none⟩=some (.int .i64 q):=by rw[hBw.cell (p:=⟨b,off+k,none⟩) hbb,←Hq.out];exact hc k hlt'
     have HC:Hid (∀i:Nat,(zs.take (k+1)).contains (i:Int)=((zs.take k).contains (i:Int) || (i:Int) == q)):=nL hlt' Hq.out
     clear hc
     by_cases t1:0≤q∧q<32
     ·obtain⟨m,rfl⟩:=Int.eq_ofNat_of_zero_le t1.1
      have hm:m<32:=by omega
      have tb:jV (m:Int)=true:=by simp[jV];omega
      have f0:=hS.cell hm
      have f1:=hS.frozen m
      have HS:Hid (cV 32 wr (w.heap.size+1) (fun i=>(zs.take k).contains (i:Int))):=hS
      have m1:(0:Int)≤(m:Int)∧(m:Int)<32:=t1
      clear hS
      go_wp2_with (go_at_call 157;refine (sJ _ _).mono ?_;rintro e w' ⟨rfl,rfl⟩)
      go_roundw
      case rel=>
       refine⟨k+1,by omega,by go_num,(HS.out.put m true).congr (fun i _=>?_),hBw.setCell (by simp) _,by rw[heap_setCell_other _ _ _ _ (by simp)];exact hr⟩
       rw[HC.out]
       have:=wB false ((zs.take k).contains (i:Int)) i m
       simpa using this
      case measure=>simp[intOf];omega
     ·have tb:jV q=false:=by simp[jV];omega
      go_wp2_with (go_at_call 157;refine (sJ _ _).mono ?_;rintro e w' ⟨rfl,rfl⟩)
      go_roundw
      case rel=>
       refine⟨k+1,by omega,by go_num,hS.congr (fun i hi=>?_),hBw,hr⟩
       rw[HC.out]
       have:((i:Int) == q)=false:=by simp;omega
       rw[this,Bool.or_false]
      case measure=>simp[intOf];omega
    ·have hS':cV 32 wr (w.heap.size+1) (fun j=>zs.contains (j:Int)):=hS.congr (fun i hi=>by rw[List.take_of_length_le (by omega)])
     obtain⟨t,hS'⟩:=hS'
     clear hS
     go_wp2_with (first
      | (refine wpList_load_row rfl 146 _ rfl (w.heap.size+1) rfl t (aG 32 fun j=>zs.contains (j:Int)) (0,0) _ hS' Tryz.underlying146 rfl (Tryz.sizeSet' _) ?_)
      | (refine wpList_store_row rfl 146 _ _ rfl w.heap.size (aG 32 fun j=>zs.contains (j:Int)) rfl rfl 146 _ hr (Tryz.sizeSet' _) rfl (qX _ _) ?_))
     refine bodyPost_ret (v:= .agg (aG 32 fun j=>zs.contains (j:Int))) (results_cell_row Tryz.results167 _ _ w.heap.size 146 _ (0,0) _ rfl (aU hr) Tryz.underlying146 rfl (Tryz.sizeSet' _)) rfl ⟨by rw[E.out],aP hBw (Nat.le_refl _) _⟩
end Go.Proofs.YtkoefoccbjhoiadGreat
