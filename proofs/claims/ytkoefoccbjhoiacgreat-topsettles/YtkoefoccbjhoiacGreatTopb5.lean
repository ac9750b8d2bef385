/-
squeezed by tools/squeeze.py from: Reader OpenB Open RState IsIO NClone FrV Wpl Wpl2 NMem NSep
-/
import Derived.Test.YtkoefoccbjhoiacGreatTopb3
import Derived.Lib.Strings
import Derived.Laws.BitsLemmas
import Derived.Test.YtkoefoccbjhoiacGreatTopb1
import Derived.ProofKit
import Derived.OpenShut
import Derived.ShutString
import Derived.ChangeOld
import Derived.Below
import Derived.Deep.Slices
import Derived.Deep.AppendLies
import Derived.OwnWalk
import Derived.ArgAppend
import Derived.Lib.SliceRun
set_option linter.unusedVariables false
set_option linter.unusedSimpArgs false
set_option maxRecDepth 100000
set_option maxHeartbeats 16000000
namespace Go.Proofs.YtkoefoccbjhoiacGreat
open Go.RowKit
structure fR (c:Nat) (w w':World):Prop where
 os:w'.os=w.os
 tape:w'.tape=w.tape
 output:w'.output=w.output
 size:w'.heap.size=w.heap.size
 block:∀k,k≠c→w'.heap[k]? =w.heap[k]?
theorem fR.refl (c:Nat) (w:World):fR c w w:=⟨rfl,rfl,rfl,rfl,fun _ _=>rfl⟩
theorem fR.trans {c:Nat} {a b d:World} (h:fR c a b) (k:fR c b d):fR c a d:=
 ⟨k.os.trans h.os,k.tape.trans h.tape,k.output.trans h.output,k.size.trans h.size,fun i hi=>(k.block i hi).trans (h.block i hi)⟩
theorem fR.setCell {c:Nat} {a w:World} (h:fR c a w) (o:Nat) (u:Value):fR c a (w.setCell ⟨c,o,none⟩ u):=
 h.trans ⟨rfl,rfl,rfl,by simp[World.setCell],fun k hk=>Below.heap_setCell _ _ _ _ hk⟩
theorem fR.grown {c:Nat} {w w':World} (h:fR c w w'):w.grownBy w' (some c):=⟨h.os,h.tape,h.output,by rw[h.size];exact Nat.le_refl _,fun k _ hk=>h.block k (by intro e;exact hk (by rw[e]))⟩
def str (l:List UInt8):ByteArray:=⟨l.toArray⟩
theorem f8 (l:List UInt8):(str l).size=l.length:=by show l.toArray.size=_;simp
theorem B8 (l:List UInt8):(str l).data.toList=l:=rfl
theorem pH (l:List UInt8):(str l).toList.isEmpty=l.isEmpty:=by
 rw[show (str l).toList=l from by rw[Lib.toList_data];rfl]
theorem NA (c:UInt8) (t:List UInt8):(str (c::t)).extract 1 (t.length+1)=str t:=by
 apply ByteArray.ext
 apply Array.toList_inj.1
 rw[Lib.extract_data]
 simp[str]
theorem JW (c:UInt8):wrap64 (c.toNat:Int)=(c.toNat:Int):=by
 have:=c.toNat_lt
 unfold wrap64
 omega
def fI (w:World) (c:Nat) (r:Rd):Prop:=∃t,w.heap[c]? =some (.cells #[.string (str r.rest),.bool r.short] t (0,0))
theorem fI.rest {w:World} {c:Nat} {r:Rd} (h:fI w c r):w.cell? ⟨c,0,none⟩=some (.string (str r.rest)):=by
 obtain⟨t,h⟩:=h
 rw[cell_of_row w c 0 _ t _ h]
 rfl
theorem fI.short {w:World} {c:Nat} {r:Rd} (h:fI w c r):w.cell? ⟨c,1,none⟩=some (.bool r.short):=by
 obtain⟨t,h⟩:=h
 rw[cell_of_row w c 1 _ t _ h]
 rfl
theorem fI.frozen {w:World} {c:Nat} {r:Rd} (h:fI w c r) (i:Nat):w.frozen? ⟨c,i,none⟩=false:=by
 obtain⟨t,h⟩:=h
 exact frozen_of_row w c i _ t h
theorem fI.putShort {w:World} {c:Nat} {r:Rd} (h:fI w c r) (b:Bool):fI (w.setCell ⟨c,1,none⟩ (.bool b)) c ⟨r.rest,b⟩:=by
 obtain⟨t,h⟩:=h
 exact⟨t,by rw[heap_setCell_same w c 1 _ t _ h];rfl⟩
theorem fI.putRest {w:World} {c:Nat} {r:Rd} (h:fI w c r) (l:List UInt8):fI (w.setCell ⟨c,0,none⟩ (.string (str l))) c ⟨l,r.short⟩:=by
 obtain⟨t,h⟩:=h
 exact⟨t,by rw[heap_setCell_same w c 0 _ t _ h];rfl⟩
theorem iE (c:Nat) (r:Rd) (w:World) (hr:fI w c r):
  Calls Tryz.prog 108 #[.pointer (some ⟨c,0,none⟩)] w fun e w'=>e= .returned (.int .i64 r.one)∧fI w' c r.next∧fR c w w':=by
 obtain⟨l,b⟩:=r
 have c0:=hr.rest
 have f0:=hr.frozen 0
 have f1:=hr.frozen 1
 have c1:=hr.short
 cases l with
 | nil=>
  have H:Hid (fI w c ⟨[],b⟩):=hr
  have e0:=pH []
  clear hr
  go_enter Tryz.func108,Tryz.ntmps108
  go_wp2
  go_ret
  exact⟨rfl,H.out.putShort true,(fR.refl _ _).setCell _ _⟩
 | cons x t=>
  have H:Hid (fI w c ⟨x::t,b⟩):=hr
  have e0:=pH (x::t)
  have e1:=f8 (x::t)
  clear hr
  go_enter Tryz.func108,Tryz.ntmps108
  go_wp2
  go_ret
  rw[NA]
  exact⟨cV (JW x),H.out.putRest t,(fR.refl _ _).setCell _ _⟩
theorem fQ (n:Int) (h₀:0≤n) (h₁:n<2 ^ 63):IntKind.i64.wrap n=n:=by rw[IntKind.wrap_i64];omega
theorem DX {n c:Int} (h:0≤n) (h':n<1099511627776) (h0:0≤c) (h1:c<256):bits .or .i64 (n*256) c=n*256+c:=
 bits_join .i64 63 (by decide) fQ 8 (n*256) c (by omega) (by omega) (by omega) h0 (by omega) (by omega)
theorem LF:∀k:Nat,k<6→(256:Int) ^ k≤1099511627776:=by decide
theorem CD (c:Nat) (r:Rd) (w:World) (hr:fI w c r):
  Calls Tryz.prog 109 #[.pointer (some ⟨c,0,none⟩)] w fun e w'=>e= .returned (.int .i64 r.wide)∧fI w' c r.next6∧fR c w w':=by
 go_enter Tryz.func109,Tryz.ntmps109
 go_wp2
 go_loopw [3,4] (fun v i wr=>∃(k:Nat) (n:Int) (rk:Rd),k≤6∧i= .int .i64 k∧v= .int .i64 n∧0≤n∧n<256 ^ k∧Hid (Rd.num 6 0 r=Rd.num (6-k) n rk)∧Hid (Rd.after 6 r=Rd.after (6-k) rk)∧fI wr c rk∧fR c w wr) (fun _ i _=>6-(intOf i).toNat)
 case atStart=>exact⟨0,0,r,by omega,rfl,rfl,by omega,by omega,rfl,rfl,hr,fR.refl _ _⟩
 case round=>
  obtain⟨k,n,rk,hk,rfl,rfl,hn0,hn1,H1,H2,hrk,hB⟩:=hrel
  by_cases hlt:k<6
  ·have hp:=LF k hlt
   go_wp2_with fail
   refine (iE c rk wr hrk).mono ?_
   rintro e w1 ⟨rfl,hr1,hb1⟩
   go_wp2
   go_roundw
   case rel=>
    rw[DX hn0 (by omega) rk.one_lo rk.one_hi]
    have o1:=rk.one_lo
    have o2:=rk.one_hi
    refine⟨k+1,n*256+rk.one,rk.next,by omega,by go_num,rfl,by omega,by rw[Int.pow_succ];omega,?_,?_,hr1,hB.trans hb1⟩
    ·obtain⟨j,hj⟩:∃j,6-k=j+1:=⟨5-k,by omega⟩
     have hj':6-(k+1)=j:=by omega
     unfold Hid at *
     rw[hj',H1,hj]
     rfl
    ·obtain⟨j,hj⟩:∃j,6-k=j+1:=⟨5-k,by omega⟩
     have hj':6-(k+1)=j:=by omega
     unfold Hid at *
     rw[hj',H2,hj]
     rfl
   case measure=>simp[intOf];omega
  ·go_wp2
   go_ret
   obtain rfl:k=6:=by omega
   have e1:Rd.num 6 0 r=n:=H1.out
   have e2:Rd.after 6 r=rk:=H2.out
   refine⟨cV ?_,by unfold Rd.next6;rw[e2];exact hrk,hB⟩
   unfold Rd.wide wrap64
   rw[e1]
   omega
open Go.ChangeShapes Go.WideShapes Go.ChangeAt Go.RowKit Go.Deep
theorem own:ownKnob Tryz.prog.godebug=none:=by kernel_rfl
theorem MZ:laidOutB Tryz.prog=true:=by kernel_rfl
theorem Tryz.cellsInt:Tryz.prog.cellsOf 3=1:=by kernel_rfl
def J0 (x:Int):Prop:=(Lit.int .i64 x).wf=true
theorem i6 {b off j:Nat}:(⟨b,off,none⟩:Addr).add j=⟨b,off+j,none⟩:=by
 unfold Addr.add
 split
 ·subst_vars;simp
 ·simp
theorem wH {w:World} {a:Addr} {v:Value} (h:w.cell? a=some v):a.block<w.heap.size:=by
 by_cases hq:a.block<w.heap.size
 ·exact hq
 ·have hn:w.heap[a.block]? =none:=Array.getElem?_eq_none (by omega)
  simp[World.cell?,hn] at h
section
variable {H:Type} {enc:TypeId × Value→H} {P:Program} {w:World} {base:Nat} {spare:Nat→Bool} {held:Bool}
end
theorem Tryz.cellsOp:Tryz.prog.cellsOf 69=3:=by kernel_rfl
def GL (o:OpL):Prop:=J0 o.1∧J0 o.2.1∧J0 o.2.2
section
variable {H:Type} {enc:TypeId × Value→H} {P:Program} {w:World} {base:Nat} {spare:Nat→Bool} {held:Bool}
theorem FG {t e f:TypeId} {fuel:Nat} {a:Option Addr} {len cap:Nat} {x:DataW H × List MemPlace} {f0 f1 f2:Field} (ht:P.underlying t=some (.slice e)) (he:P.underlying e=some (.struct #[f0,f1,f2])) (hf:P.underlying f=some (.int .i64))
  (hc:P.cellsOf e=3) (hcf:P.cellsOf f=1) (y0:f0.type=f) (y1:f1.type=f) (y2:f2.type=f) (o0:f0.offset=0) (o1:f1.offset=1) (o2:f2.offset=2)
  (h:DataW.trod enc P w base spare held fuel t [.slice a len cap]=some x):
  len≤maxLen∧∃zs:List OpL,zs.length=len∧fO w a zs∧(∀o∈zs,GL o)∧(a=none→len=0∧cap=0)∧len≤cap:=by
 rcases open_slice ht h with ⟨hcs,_⟩ | ⟨x,l,c,m,n,D,Pl,hcs,hb,hl,hm,hmm,_,hx⟩
 ·simp at hcs
  obtain⟨rfl,rfl,rfl⟩:=hcs
  exact⟨Nat.zero_le _,[],rfl,Or.inl rfl,by simp,fun _=>⟨rfl,rfl⟩,Nat.le_refl _⟩
 ·simp at hcs
  obtain⟨rfl,rfl,rfl⟩:=hcs
  have hlm:len≤m:=by rw[hmm];split<;>omega
  have each:∀i,i<len→∃q:OpL,w.cell? (x.add (i*3))=some (.int .i64 q.1)∧w.cell? (x.add (i*3+1))=some (.int .i64 q.2.1)∧w.cell? (x.add (i*3+2))=some (.int .i64 q.2.2)∧GL q:=by
   intro i hi
   obtain⟨cs',h1,h2⟩:=hx i (by omega)
   rw[hc] at h1
   obtain⟨_,hlen,hcell⟩:=World.cells?_some h1
   obtain⟨xs,k,hk,hxy,_,hxl,hfs⟩:=DataW.trod_struct he h2
   match xs,hxl,cs',hlen with
   | [z0,z1,z2],_,[v0,v1,v2],_=>
    have g0:=hfs 0 f0 rfl
    have g1:=hfs 1 f1 rfl
    have g2:=hfs 2 f2 rfl
    simp[y0,y1,y2,o0,o1,o2,hcf] at g0 g1 g2
    obtain⟨n0,r0,_,q0⟩:=DataW.trod_int hf g0
    obtain⟨n1,r1,_,q1⟩:=DataW.trod_int hf g1
    obtain⟨n2,r2,_,q2⟩:=DataW.trod_int hf g2
    simp at r0 r1 r2
    subst r0 r1 r2
    have e0:=hcell 0 (by omega)
    have e1:=hcell 1 (by omega)
    have e2:=hcell 2 (by omega)
    rw[add_add] at e0 e1 e2
    exact⟨(n0,n1,n2),by simpa using e0,by simpa using e1,by simpa using e2,q0,q1,q2⟩
  obtain⟨Q,hQ⟩:=choose_lt each
  refine⟨by omega,(List.range len).map Q,by simp,?_,?_,fun h=>by simp at h,hl⟩
  ·by_cases h0:len=0
   ·left
    simp[h0]
   ·right
    obtain⟨b,off,spot⟩:=x
    have hc0:=(hQ 0 (by omega)).1
    have hs:spot=none:=by simpa [Addr.add] using World.cell?_spot hc0
    subst hs
    refine⟨b,off,rfl,by simpa [Addr.add] using wH hc0,fun i hi=>?_⟩
    have hi':i<len:=by simpa using hi
    obtain⟨t0,t1,t2,_⟩:=hQ i hi'
    rw[i6] at t0 t1 t2
    have hg:((List.range len).map Q).getD i (0,0,0)=Q i:=by simp[List.getD,hi']
    rw[hg]
    exact⟨t0,t1,t2⟩
  ·intro o ho
   obtain⟨i,hi,rfl⟩:=List.mem_map.1 ho
   exact (hQ i (List.mem_range.1 hi)).2.2.2
end
theorem Tryz.infoOp:(Tryz.prog.info? 69).map (fun i=>(i.zero,i.size,i.bytes))=some (some (.agg #[.int .i64 0,.int .i64 0,.int .i64 0]),3,24):=by kernel_rfl
def FAt (w:World) (b:Nat) (a0 a1 a2:Int) (v3 v4 v5 v6:Value):Prop:=∃t,w.heap[b]? =some (.cells #[.int .i64 a0,.int .i64 a1,.int .i64 a2,v3,v4,v5,v6] t (0,0))
section
variable {w w':World} {b:Nat} {a0 a1 a2:Int} {v3 v4 v5 v6:Value}
theorem FAt.cell (h:FAt w b a0 a1 a2 v3 v4 v5 v6):
  w.cell? ⟨b,0,none⟩=some (.int .i64 a0)∧w.cell? ⟨b,1,none⟩=some (.int .i64 a1)∧w.cell? ⟨b,2,none⟩=some (.int .i64 a2)∧
  w.cell? ⟨b,3,none⟩=some v3∧w.cell? ⟨b,4,none⟩=some v4∧w.cell? ⟨b,5,none⟩=some v5∧w.cell? ⟨b,6,none⟩=some v6:=by
 obtain⟨t,h⟩:=h
 refine⟨?_,?_,?_,?_,?_,?_,?_⟩<;>(rw[cell_of_row w b _ _ t _ h];rfl)
theorem FAt.frozen (h:FAt w b a0 a1 a2 v3 v4 v5 v6) (i:Nat):w.frozen? ⟨b,i,none⟩=false:=by
 obtain⟨t,h⟩:=h
 exact frozen_of_row w b i _ t h
theorem FAt.block (h:FAt w b a0 a1 a2 v3 v4 v5 v6) (e:w'.heap[b]? =w.heap[b]?):FAt w' b a0 a1 a2 v3 v4 v5 v6:=by
 obtain⟨t,h⟩:=h
 exact⟨t,by rw[e];exact h⟩
theorem FAt.lt (h:FAt w b a0 a1 a2 v3 v4 v5 v6):b<w.heap.size:=by
 obtain⟨t,h⟩:=h
 exact (Array.getElem?_eq_some_iff.1 h).1
theorem FAt.put3 (h:FAt w b a0 a1 a2 v3 v4 v5 v6) (v:Value):FAt (w.setCell ⟨b,3,none⟩ v) b a0 a1 a2 v v4 v5 v6:=by
 obtain⟨t,h⟩:=h
 exact⟨t,by rw[heap_setCell_same w b 3 _ t _ h];rfl⟩
theorem FAt.put4 (h:FAt w b a0 a1 a2 v3 v4 v5 v6) (v:Value):FAt (w.setCell ⟨b,4,none⟩ v) b a0 a1 a2 v3 v v5 v6:=by
 obtain⟨t,h⟩:=h
 exact⟨t,by rw[heap_setCell_same w b 4 _ t _ h];rfl⟩
theorem FAt.put5 (h:FAt w b a0 a1 a2 v3 v4 v5 v6) (v:Value):FAt (w.setCell ⟨b,5,none⟩ v) b a0 a1 a2 v3 v4 v v6:=by
 obtain⟨t,h⟩:=h
 exact⟨t,by rw[heap_setCell_same w b 5 _ t _ h];rfl⟩
theorem FAt.put6 (h:FAt w b a0 a1 a2 v3 v4 v5 v6) (v:Value):FAt (w.setCell ⟨b,6,none⟩ v) b a0 a1 a2 v3 v4 v5 v:=by
 obtain⟨t,h⟩:=h
 exact⟨t,by rw[heap_setCell_same w b 6 _ t _ h];rfl⟩
end
theorem fI.block {w w':World} {c:Nat} {r:Rd} (h:fI w c r) (e:w'.heap[c]? =w.heap[c]?):fI w' c r:=by
 obtain⟨t,h⟩:=h
 exact⟨t,by rw[e];exact h⟩
theorem fI.lt {w:World} {c:Nat} {r:Rd} (h:fI w c r):c<w.heap.size:=by
 obtain⟨t,h⟩:=h
 exact (Array.getElem?_eq_some_iff.1 h).1
theorem fI.alloc {w:World} {c:Nat} {r:Rd} (h:fI w c r) (o:Obj):fI (w.alloc o) c r:=h.block (Below.heap_alloc _ _ _ h.lt)
theorem gM {w w1 w2:World} {c:Nat} (h:w.grownBy w1 (some c)) (k:w1.grownBy w2 (some c)):w.grownBy w2 (some c):=
 ⟨k.os.trans h.os,k.tape.trans h.tape,k.output.trans h.output,Nat.le_trans h.size k.size,fun i hi hn=>(k.block i (Nat.lt_of_lt_of_le hi h.size) hn).trans (h.block i hi hn)⟩
theorem IB {w w1 w2:World} {c:Nat} {row:Option Nat} (h:w.grownBy w1 (some c)) (k:w1.grownBy w2 row) (hr:∀g,row=some g→w.heap.size≤g):w.grownBy w2 (some c):=
 ⟨k.os.trans h.os,k.tape.trans h.tape,k.output.trans h.output,Nat.le_trans h.size k.size,fun i hi hn=>(k.block i (Nat.lt_of_lt_of_le hi h.size) (fun e=>by have:=hr i e.symm;omega)).trans (h.block i hi hn)⟩
theorem iA {w w1:World} {c b:Nat} (h:w.grownBy w1 (some c)) (hb:w.heap.size≤b) (o:Nat) (v:Value):w.grownBy (w1.setCell ⟨b,o,none⟩ v) (some c):=
 ⟨h.os,h.tape,h.output,by simp[World.setCell];exact h.size,fun i hi hn=>(Below.heap_setCell _ _ _ _ (by simp;omega)).trans (h.block i hi hn)⟩
structure Fr (w:World) (c B2 B3:Nat) (a0 a1 a2:Int) (wr:World) (rk:Rd) (v3 v4 v5 v6:Value):Prop where
 rd:fI wr c rk
 f:FAt wr B3 a0 a1 a2 v3 v4 v5 v6
 z:FAt wr B2 0 0 0 (.slice none 0 0) (.slice none 0 0) (.slice none 0 0) (.slice none 0 0)
 g:w.grownBy wr (some c)
 l1:c<w.heap.size
 l2:w.heap.size≤B2
 l3:B2<B3
section
variable {w wr w1:World} {c B2 B3:Nat} {a0 a1 a2:Int} {rk rj:Rd} {v3 v4 v5 v6:Value}
theorem Fr.small (h:Fr w c B2 B3 a0 a1 a2 wr rk v3 v4 v5 v6) (k:fI w1 c rj) (hb:fR c wr w1):Fr w c B2 B3 a0 a1 a2 w1 rj v3 v4 v5 v6:=
 have h1:=h.l1
 have h2:=h.l2
 have h3:=h.l3
 ⟨k,h.f.block (hb.block _ (by omega)),h.z.block (hb.block _ (by omega)),gM h.g hb.grown,h1,h2,h3⟩
theorem Fr.grown (h:Fr w c B2 B3 a0 a1 a2 wr rk v3 v4 v5 v6) {row:Option Nat} (hg:wr.grownBy w1 row) (hr:∀g,row=some g→B3<g):Fr w c B2 B3 a0 a1 a2 w1 rk v3 v4 v5 v6:=
 have h1:=h.l1
 have h2:=h.l2
 have h3:=h.l3
 have n:∀k,k≤B3→some k≠row:=fun k hk e=>by have:=hr k e.symm;omega
 ⟨h.rd.block (hg.block _ h.rd.lt (n _ (by omega))),h.f.block (hg.block _ h.f.lt (n _ (by omega))),h.z.block (hg.block _ h.z.lt (n _ (by omega))),IB h.g hg (fun g e=>by have:=hr g e;omega),h1,h2,h3⟩
theorem Fr.alloc (h:Fr w c B2 B3 a0 a1 a2 wr rk v3 v4 v5 v6) (o:Obj):Fr w c B2 B3 a0 a1 a2 (wr.alloc o) rk v3 v4 v5 v6:=
 h.grown (World.grownBy_alloc wr o none) (by simp)
theorem Fr.drew (h:Fr w c B2 B3 a0 a1 a2 wr rk v3 v4 v5 v6):Fr w c B2 B3 a0 a1 a2 wr.drew rk v3 v4 v5 v6:=
 ⟨h.rd,h.f,h.z,⟨h.g.os,h.g.tape,h.g.output,h.g.size,h.g.block⟩,h.l1,h.l2,h.l3⟩
theorem Fr.put3 (h:Fr w c B2 B3 a0 a1 a2 wr rk v3 v4 v5 v6) (v:Value):Fr w c B2 B3 a0 a1 a2 (wr.setCell ⟨B3,3,none⟩ v) rk v v4 v5 v6:=
 have h1:=h.l1
 have h2:=h.l2
 have h3:=h.l3
 ⟨h.rd.block (Below.heap_setCell _ _ _ _ (by simp;omega)),h.f.put3 v,h.z.block (Below.heap_setCell _ _ _ _ (by simp;omega)),iA h.g (by omega) _ _,h1,h2,h3⟩
theorem Fr.put4 (h:Fr w c B2 B3 a0 a1 a2 wr rk v3 v4 v5 v6) (v:Value):Fr w c B2 B3 a0 a1 a2 (wr.setCell ⟨B3,4,none⟩ v) rk v3 v v5 v6:=
 have h1:=h.l1
 have h2:=h.l2
 have h3:=h.l3
 ⟨h.rd.block (Below.heap_setCell _ _ _ _ (by simp;omega)),h.f.put4 v,h.z.block (Below.heap_setCell _ _ _ _ (by simp;omega)),iA h.g (by omega) _ _,h1,h2,h3⟩
theorem Fr.put5 (h:Fr w c B2 B3 a0 a1 a2 wr rk v3 v4 v5 v6) (v:Value):Fr w c B2 B3 a0 a1 a2 (wr.setCell ⟨B3,5,none⟩ v) rk v3 v4 v v6:=
 have h1:=h.l1
 have h2:=h.l2
 have h3:=h.l3
 ⟨h.rd.block (Below.heap_setCell _ _ _ _ (by simp;omega)),h.f.put5 v,h.z.block (Below.heap_setCell _ _ _ _ (by simp;omega)),iA h.g (by omega) _ _,h1,h2,h3⟩
theorem Fr.put6 (h:Fr w c B2 B3 a0 a1 a2 wr rk v3 v4 v5 v6) (v:Value):Fr w c B2 B3 a0 a1 a2 (wr.setCell ⟨B3,6,none⟩ v) rk v3 v4 v5 v:=
 have h1:=h.l1
 have h2:=h.l2
 have h3:=h.l3
 ⟨h.rd.block (Below.heap_setCell _ _ _ _ (by simp;omega)),h.f.put6 v,h.z.block (Below.heap_setCell _ _ _ _ (by simp;omega)),iA h.g (by omega) _ _,h1,h2,h3⟩
theorem Fr.start (hr:fI w1 c rk) (hb:fR c (w.alloc (.cells #[.int .i64 0,.int .i64 0,.int .i64 0,.slice none 0 0,.slice none 0 0,.slice none 0 0,.slice none 0 0] 123)) w1) (hc:c<w.heap.size) (a0 a1 a2:Int):
  Fr w c w.heap.size w1.heap.size a0 a1 a2 (w1.alloc (.cells #[.int .i64 a0,.int .i64 a1,.int .i64 a2,.slice none 0 0,.slice none 0 0,.slice none 0 0,.slice none 0 0] 123)) rk (.slice none 0 0) (.slice none 0 0) (.slice none 0 0) (.slice none 0 0):=by
 have hs:w1.heap.size=w.heap.size+1:=by have:=hb.size;simpa using this
 refine⟨hr.alloc _,⟨_,aJ _ _⟩,⟨123,?_⟩,?_,hc,Nat.le_refl _,by omega⟩
 ·rw[Below.heap_alloc _ _ _ (by omega),hb.block _ (by omega),aJ]
 ·exact gM (World.grownBy_alloc w _ _) (gM hb.grown (World.grownBy_alloc _ _ _))
end
def lU (o:OpL):List Value:=[.int .i64 o.1,.int .i64 o.2.1,.int .i64 o.2.2]
def cM (zs:List OpL):List Value:=zs.flatMap lU
theorem zT (zs:List OpL) (o:OpL):cM (zs++[o])=cM zs++lU o:=by simp[cM]
theorem eZ {w w1:World} {c base:Nat} {e:TypeId} {size:Nat} {v:Value} {n:Nat} {xs:List Value} (h:w.ownsRow base e size v n xs) (hb:fR c w w1) (hc:c<base):w1.ownsRow base e size v n xs:=
 h.kept hb.grown (by
  cases hv:v.ownBlock with
  | none=>exact Or.inl rfl
  | some k=>right;intro e;have:=(h.lt k hv).1;simp at e;omega)
theorem aX (w:World) (o:Obj):(w.alloc o).heap.size=w.heap.size+1:=by simp
theorem NR (o:OpL):∀u∈lU o,u.oneCell'=true:=by simp[lU,Value.oneCell']
theorem wG {k n:Nat} (h:k<n) (h':n<256):k+1≤maxLen:=by unfold maxLen;omega
theorem K8 {k n:Nat} (h:k<n) (h':n<256):(k+1)*24≤140737488355328:=by omega
theorem xK {k n:Nat} (h:k<n) (h':n<256):(k+1)*8≤140737488355328:=by omega
theorem OD {w:World} {b:Nat} {o:Obj} (h:b<w.heap.size):b+1≤(w.alloc o).heap.size:=by rw[aX];omega
theorem Fr.after {w x4 x5:World} {c B2 B3:Nat} {a0 a1 a2:Int} {rk:Rd} {v3 v4 v5 v6 v:Value} {o:Obj} {e:TypeId} {size n:Nat} {xs:List Value} (F:Fr w c B2 B3 a0 a1 a2 x4 rk v3 v4 v5 v6)
  (hown:x4.ownsRow (B3+1) e size v n xs) (hg:(x4.alloc o).grownBy x5 v.ownBlock):Fr w c B2 B3 a0 a1 a2 x5 rk v3 v4 v5 v6:=
 (F.alloc o).grown hg (fun g h=>by have:=(hown.lt g h).1;omega)
theorem uY {w w1:World} {b c:Nat} (h:b≤w.heap.size) (hb:fR c w.drew w1):b≤w1.heap.size:=by rw[hb.size];exact h
theorem uW {w:World} {b:Nat} {o:Obj} (h:b≤w.heap.size):b≤(w.alloc o).heap.size:=by rw[aX];omega
theorem uX {w w1:World} {b:Nat} {o:Obj} {row:Option Nat} (h:b≤w.heap.size) (hg:(w.alloc o).grownBy w1 row):b≤w1.heap.size:=by have:=hg.size;rw[aX] at this;omega
theorem BF {w:World} {b:Nat} {a:Addr} {v:Value} (h:b≤w.heap.size):b≤(w.setCell a v).heap.size:=by simpa [World.setCell] using h
theorem qC {x y:World} {o:Obj} {b base:Nat} {e e':TypeId} {size size':Nat} {v v':Value} {n n':Nat} {xs xs':List Value} (h:x.ownsRow b e size v n xs) (hl:∀k,v.ownBlock=some k→k<base)
  (h':x.ownsRow base e' size' v' n' xs') (hg:(x.alloc o).grownBy y v'.ownBlock):y.ownsRow b e size v n xs:=
 (h.alloc o).kept hg (by
  cases hv:v.ownBlock with
  | none=>exact Or.inl rfl
  | some k=>right;intro e;have h1:=hl k hv;have h2:=(h'.lt k e.symm).1;omega)
theorem yX {x y:World} {o:Obj} {b:Nat} {e:TypeId} {size:Nat} {v v':Value} {n:Nat} {xs:List Value} (h:x.ownsRow b e size v n xs) (ha:∀k,v'.ownBlock=some k→v.ownBlock≠some k)
  (hg:(x.alloc o).grownBy y v'.ownBlock):y.ownsRow b e size v n xs:=
 (h.alloc o).kept hg (by
  cases hv:v.ownBlock with
  | none=>exact Or.inl rfl
  | some k=>right;intro e;exact ha k e.symm hv)
theorem GS {x:World} {b g:Nat} {e:TypeId} {size:Nat} {v v':Value} {n:Nat} {xs:List Value} (ha:∀k,v'.ownBlock=some k→v.ownBlock≠some k) (h:x.ownsRow b e size v n xs)
  (hat:v'.ownBlock=some g∨g=x.heap.size+1):v.ownBlock≠some g:=by
 rcases hat with h1 | rfl
 ·exact ha g h1
 ·intro e
  have:=(h.lt _ e).2
  omega
theorem EC {v:Value} {g n cap:Nat} (h:v.ownBlock≠some g):∀k,v.ownBlock=some k→(Value.slice (some ⟨g,0,none⟩) n cap).ownBlock≠some k:=by
 intro k hk e
 simp[Value.ownBlock] at e
 exact h (by rw[hk,e])
theorem EB {x:World} {b g g' n n' cap cap':Nat} {e:TypeId} {size:Nat} {v:Value} {m:Nat} {xs:List Value} (h:v.ownBlock≠some g) (ho:x.ownsRow b e size (.slice (some ⟨g,0,none⟩) n cap) m xs) (hat:v.ownBlock=some g'∨g'=x.heap.size+1):
  ∀k,(Value.slice (some ⟨g,0,none⟩) n cap).ownBlock=some k→(Value.slice (some ⟨g',0,none⟩) n' cap').ownBlock≠some k:=by
 intro k hk e
 have hg:g<x.heap.size:=(ho.lt g rfl).2
 simp[Value.ownBlock] at hk e
 rcases hat with h1 | h1
 ·exact h (by rw[h1];congr 1;omega)
 ·omega
theorem dA {x:World} {b c o:Nat} {e:TypeId} {size:Nat} {v u:Value} {n:Nat} {xs:List Value} (h:x.ownsRow b e size v n xs) (hc:c<b):(x.setCell ⟨c,o,none⟩ u).ownsRow b e size v n xs:=
 ownsRow_setCell_below h hc u
theorem M2 {r:List OpL × Rd} {n k:Nat} {zs:List OpL} {rk:Rd} (h:¬ k<n) (HR:Hid (r=(zs++(Rd.ops (n-k) rk).1,(Rd.ops (n-k) rk).2))):r=(zs,rk):=by
 have:n-k=0:=by omega
 unfold Hid at HR
 rw[HR,this]
 simp[Rd.ops]
theorem LB {r:List Int × Rd} {n k:Nat} {zs:List Int} {rk:Rd} (h:¬ k<n) (HR:Hid (r=(zs++(Rd.nums (n-k) rk).1,(Rd.nums (n-k) rk).2))):r=(zs,rk):=by
 have:n-k=0:=by omega
 unfold Hid at HR
 rw[HR,this]
 simp[Rd.nums]
theorem L1 {r:List Int × List Int × Rd} {n k:Nat} {xs ys:List Int} {rk:Rd} (h:¬ k<n) (HR:Hid (r=(xs++(Rd.told (n-k) rk).1,ys++(Rd.told (n-k) rk).2.1,(Rd.told (n-k) rk).2.2))):r=(xs,ys,rk):=by
 have:n-k=0:=by omega
 unfold Hid at HR
 rw[HR,this]
 simp[Rd.told]
theorem KB {r:Rd} {zs:List OpL} {rk:Rd} (h:r.o1=(zs,rk)):r.d1=Rd.nums rk.one.toNat rk.next:=by unfold Rd.d1;rw[h]
theorem LU {r:Rd} {zs:List Int} {rk:Rd} (h:r.d1=(zs,rk)):r.t1=Rd.told rk.one.toNat rk.next:=by unfold Rd.t1;rw[h]
theorem NT {r:List OpL × Rd} {n k:Nat} {zs:List OpL} {rk:Rd} (h:k<n) (HR:Hid (r=(zs++(Rd.ops (n-k) rk).1,(Rd.ops (n-k) rk).2))):
  Hid (r=(zs++[(rk.one,rk.next.one,rk.next.next.wide)]++(Rd.ops (n-(k+1)) rk.next.next.next6).1,(Rd.ops (n-(k+1)) rk.next.next.next6).2)):=by
 obtain⟨j,hj⟩:∃j,n-k=j+1:=⟨n-k-1,by omega⟩
 have hj':n-(k+1)=j:=by omega
 unfold Hid at *
 rw[HR,hj',hj]
 simp[Rd.ops]
theorem M1 {r:List Int × Rd} {n k:Nat} {zs:List Int} {rk:Rd} (h:k<n) (HR:Hid (r=(zs++(Rd.nums (n-k) rk).1,(Rd.nums (n-k) rk).2))):
  Hid (r=(zs++[rk.one]++(Rd.nums (n-(k+1)) rk.next).1,(Rd.nums (n-(k+1)) rk.next).2)):=by
 obtain⟨j,hj⟩:∃j,n-k=j+1:=⟨n-k-1,by omega⟩
 have hj':n-(k+1)=j:=by omega
 unfold Hid at *
 rw[HR,hj',hj]
 simp[Rd.nums]
theorem NB {r:List Int × List Int × Rd} {n k:Nat} {xs ys:List Int} {rk:Rd} (h:k<n) (HR:Hid (r=(xs++(Rd.told (n-k) rk).1,ys++(Rd.told (n-k) rk).2.1,(Rd.told (n-k) rk).2.2))):
  Hid (r=(xs++[rk.one]++(Rd.told (n-(k+1)) rk.next.next6).1,ys++[rk.next.wide]++(Rd.told (n-(k+1)) rk.next.next6).2.1,(Rd.told (n-(k+1)) rk.next.next6).2.2)):=by
 obtain⟨j,hj⟩:∃j,n-k=j+1:=⟨n-k-1,by omega⟩
 have hj':n-(k+1)=j:=by omega
 unfold Hid at *
 rw[HR,hj',hj]
 simp[Rd.told]
def bZ (w:World) (a:Option Addr) (cap:Nat) (zs:List OpL):Prop:=fO w a zs∧zs.length≤maxLen∧zs.length≤cap∧(a=none→zs.length=0∧cap=0)
def bS (w:World) (v:Value) (f:aC):Prop:=∃a3 c3 a4 c4 a5 c5 a6 c6,
 v= .agg #[.int .i64 f.kind,.int .i64 f.node,.int .i64 f.id,.slice a3 f.ops.length c3,.slice a4 f.deps.length c4,.slice a5 f.ats.length c5,.slice a6 f.vals.length c6]∧
 bZ w a3 c3 f.ops∧bP w a4 c4 f.deps∧bP w a5 c5 f.ats∧bP w a6 c6 f.vals
theorem bZ.later {w w':World} {a:Option Addr} {cap:Nat} {zs:List OpL} (h:bZ w a cap zs) (hb:Below w.heap.size w w'):bZ w' a cap zs:=
 ⟨h.1.later hb,h.2⟩
theorem bS.later {w w':World} {v:Value} {f:aC} (h:bS w v f) (hb:Below w.heap.size w w'):bS w' v f:=by
 obtain⟨a3,c3,a4,c4,a5,c5,a6,c6,e,h3,h4,h5,h6⟩:=h
 exact⟨a3,c3,a4,c4,a5,c5,a6,c6,e,h3.later hb,h4.later hb,h5.later hb,h6.later hb⟩
theorem sT (zs:List OpL):(cM zs).length=zs.length*3:=by
 induction zs with
 | nil=>rfl
 | cons o zs ih=>simp[cM,lU] at *;omega
theorem oQ:∀(zs:List OpL) (i:Nat),i<zs.length→(cM zs)[i*3]? =some (.int .i64 (zs.getD i (0,0,0)).1)∧(cM zs)[i*3+1]? =some (.int .i64 (zs.getD i (0,0,0)).2.1)∧(cM zs)[i*3+2]? =some (.int .i64 (zs.getD i (0,0,0)).2.2)
 | [],i,h=>by simp at h
 | o::zs,0,_=>by simp[cM,lU]
 | o::zs,i+1,h=>by
  have ih:=oQ zs i (by simpa using h)
  have e:cM (o::zs)= .int .i64 o.1:: .int .i64 o.2.1:: .int .i64 o.2.2::cM zs:=by simp[cM,lU]
  have n0:(i+1)*3=i*3+1+1+1:=by omega
  have n1:(i+1)*3+1=(i*3+1)+1+1+1:=by omega
  have n2:(i+1)*3+2=(i*3+2)+1+1+1:=by omega
  rw[e,n1,n2,n0]
  simpa using ih
theorem bZ.of_owns {w:World} {b:Nat} {e:TypeId} {a:Option Addr} {cap:Nat} {zs:List OpL} (h:w.ownsRow b e 3 (.slice a zs.length cap) zs.length (cM zs)):bZ w a cap zs:=by
 obtain⟨a2,c2,h1,h2,h3⟩:=bG h
 simp at h1
 obtain⟨rfl,rfl⟩:=h1
 rcases h.2 with ⟨_,h0⟩ | ⟨g,c,cur,hs,hg,hh,h5,h6,h7,h8⟩
 ·exact⟨Or.inl (List.eq_nil_of_length_eq_zero h0),by rw[h0];exact Nat.zero_le _,h2,h3⟩
 ·simp at hs
  obtain⟨rfl,rfl⟩:=hs
  refine⟨Or.inr ⟨g,0,rfl,(Array.getElem?_eq_some_iff.1 hh).1,fun i hi=>?_⟩,by omega,h2,h3⟩
  have key:∀j,j<zs.length*3→w.cell? ⟨g,0+j,none⟩=(cM zs)[j]? :=fun j hj=>by
   rw[cell_of_row w g (0+j) cur e _ hh,←h8,List.getElem?_take_of_lt hj,Nat.zero_add]
   simp
  have:=oQ zs i hi
  rw[←key _ (by omega),←key _ (by omega),←key _ (by omega)] at this
  simpa [Nat.add_assoc] using this
def pP (w:World) (b:Nat) (x0 x1 x2 x3 x4 x5 x6:Value):World:=
 ((((((w.setCell ⟨b,0,none⟩ x0).setCell ⟨b,1,none⟩ x1).setCell ⟨b,2,none⟩ x2).setCell ⟨b,3,none⟩ x3).setCell ⟨b,4,none⟩ x4).setCell ⟨b,5,none⟩ x5).setCell ⟨b,6,none⟩ x6
theorem qY {w:World} {b:Nat} {x0 x1 x2 x3 x4 x5 x6:Value} {base:Nat} {e:TypeId} {size:Nat} {v:Value} {n:Nat} {xs:List Value} (h:w.ownsRow base e size v n xs) (hb:b<base):(pP w b x0 x1 x2 x3 x4 x5 x6).ownsRow base e size v n xs:=
 dA (dA (dA (dA (dA (dA (dA h hb) hb) hb) hb) hb) hb) hb
theorem wM {w:World} {b:Nat} {x0 x1 x2 x3 x4 x5 x6:Value} {k:Nat} (h:k≠b):(pP w b x0 x1 x2 x3 x4 x5 x6).heap[k]? =w.heap[k]? :=by
 unfold pP
 rw[Below.heap_setCell _ _ _ _ h,Below.heap_setCell _ _ _ _ h,Below.heap_setCell _ _ _ _ h,Below.heap_setCell _ _ _ _ h,Below.heap_setCell _ _ _ _ h,Below.heap_setCell _ _ _ _ h,Below.heap_setCell _ _ _ _ h]
theorem FL {w w1:World} {b c:Nat} {x0 x1 x2 x3 x4 x5 x6:Value} (h:w.grownBy w1 (some c)) (hb:w.heap.size≤b):w.grownBy (pP w1 b x0 x1 x2 x3 x4 x5 x6) (some c):=
 iA (iA (iA (iA (iA (iA (iA h hb _ _) hb _ _) hb _ _) hb _ _) hb _ _) hb _ _) hb _ _
def D6 (b:Nat) (v:Value):Prop:=∀(cs:Array Value),v= .agg cs→∀(i:Nat) (x:Addr) (n c:Nat),cs[i]? =some (Value.slice (some x) n c)→b≤x.block
theorem vU {w:World} {base b:Nat} {e:TypeId} {size n m:Nat} {a:Option Addr} {cap:Nat} {xs:List Value} (h:w.ownsRow base e size (.slice a n cap) m xs) (hb:b≤base) {x:Addr} (hx:a=some x):b≤x.block:=by
 subst hx
 have:=(h.lt x.block rfl).1
 omega
theorem G8 {w wr:World} {c B3 b4 b5:Nat} {r rk rk2 rk3:Rd} {v3 v4 v5 v6:Option Addr} {c3 c4 c5 c6:Nat} {zs:List OpL} {ds xs ys:List Int} {k3:Nat} {e3 e4 e5 e6:TypeId}
  (F:Fr w c w.heap.size B3 r.one r.next.one r.next.next.one wr rk3 (.slice v3 zs.length c3) (.slice v4 ds.length c4) (.slice v5 k3 c5) (.slice v6 k3 c6)) (h3:wr.ownsRow (B3+1) e3 3 (.slice v3 zs.length c3) zs.length (cM zs))
  (h4:wr.ownsRow b4 e4 1 (.slice v4 ds.length c4) ds.length (aT ds)) (h5:wr.ownsRow b5 e5 1 (.slice v5 k3 c5) k3 (aT xs)) (h6:wr.ownsRow b5 e6 1 (.slice v6 k3 c6) k3 (aT ys))
  (l4:w.heap.size<b4) (l5:w.heap.size<b5) (lx:xs.length=k3) (ly:ys.length=k3) (E1:r.o1=(zs,rk)) (E3:r.d1=(ds,rk2)) (E5:r.t1=(xs,ys,rk3)) {x0 x1 x2 x3 x4 x5 x6:Value}:
  bS (pP wr w.heap.size x0 x1 x2 x3 x4 x5 x6) (.agg #[.int .i64 r.one,.int .i64 r.next.one,.int .i64 r.next.next.one,.slice v3 zs.length c3,.slice v4 ds.length c4,.slice v5 k3 c5,.slice v6 k3 c6]) r.frame∧
   fI (pP wr w.heap.size x0 x1 x2 x3 x4 x5 x6) c r.end_∧w.grownBy (pP wr w.heap.size x0 x1 x2 x3 x4 x5 x6) (some c)∧
   D6 w.heap.size (.agg #[.int .i64 r.one,.int .i64 r.next.one,.int .i64 r.next.next.one,.slice v3 zs.length c3,.slice v4 ds.length c4,.slice v5 k3 c5,.slice v6 k3 c6]):=by
 have l1:=F.l1
 have l3:=F.l3
 subst lx
 refine⟨?_,?_,FL F.g (Nat.le_refl _),?_⟩
 rotate_left 2
 ·intro cs hcs i x n cc hi
  cases hcs
  match i,hi with
  | 0,hi=>simp at hi
  | 1,hi=>simp at hi
  | 2,hi=>simp at hi
  | 3,hi=>simp at hi;exact vU h3 (by omega) hi.1
  | 4,hi=>simp at hi;exact vU h4 (by omega) hi.1
  | 5,hi=>simp at hi;exact vU h5 (by omega) hi.1
  | 6,hi=>simp at hi;exact vU h6 (by omega) hi.1
  | n+7,hi=>simp at hi
 ·unfold Rd.frame bS
  rw[E1,E3,E5]
  refine⟨v3,c3,v4,c4,v5,c5,v6,c6,by simp[ly],bZ.of_owns (qY h3 (by omega)),bP.of_owns (qY h4 l4),bP.of_owns (qY h5 l5),?_⟩
  rw[←ly] at h6
  exact bP.of_owns (qY h6 l5)
 ·unfold Rd.end_
  rw[E5]
  exact F.rd.block (wM (by omega))
def cX (ok:Nat→Prop) (w:World) (a:Option Addr) (zs:List Int):Prop:=
 zs=[]∨∃b off,a=some ⟨b,off,none⟩∧ok b∧∀i,i<zs.length→w.cell? ⟨b,off+i,none⟩=some (.int .i64 (zs.getD i 0))
def eW (ok:Nat→Prop) (w:World) (a:Option Addr) (zs:List OpL):Prop:=
 zs=[]∨∃b off,a=some ⟨b,off,none⟩∧ok b∧∀i,i<zs.length→w.cell? ⟨b,off+i*3,none⟩=some (.int .i64 (zs.getD i (0,0,0)).1)∧
  w.cell? ⟨b,off+i*3+1,none⟩=some (.int .i64 (zs.getD i (0,0,0)).2.1)∧w.cell? ⟨b,off+i*3+2,none⟩=some (.int .i64 (zs.getD i (0,0,0)).2.2)
def bN (ok:Nat→Prop) (w w':World):Prop:=∀k,k<w.heap.size→ok k→w'.heap[k]? =w.heap[k]?
theorem bN.cell {ok:Nat→Prop} {w w':World} (h:bN ok w w') {p:Addr} {v:Value} (hc:w.cell? p=some v) (hk:ok p.block):w'.cell? p=some v:=
 (World.cell?_of_block (h p.block (World.block_lt_of_cell? w p hc) hk)).trans hc
theorem bN.of_size {ok:Nat→Prop} {w w':World} (h:Below w.heap.size w w'):bN ok w w':=fun k h1 _=>h.block k h1
theorem cX.later {ok:Nat→Prop} {w w':World} {a:Option Addr} {zs:List Int} (h:cX ok w a zs) (hB:bN ok w w'):cX ok w' a zs:=by
 rcases h with h | ⟨b,off,ha,hb,hc⟩
 ·exact Or.inl h
 ·exact Or.inr ⟨b,off,ha,hb,fun i hi=>hB.cell (hc i hi) hb⟩
theorem cX.mono {ok ok':Nat→Prop} {w:World} {a:Option Addr} {zs:List Int} (h:cX ok w a zs) (hk:∀k,k<w.heap.size→ok k→ok' k):cX ok' w a zs:=by
 rcases h with h | ⟨b,off,ha,hb,hc⟩
 ·exact Or.inl h
 ·cases zs with
  | nil=>exact Or.inl rfl
  | cons z r=>
   have:=World.block_lt_of_cell? w _ (hc 0 (by simp))
   exact Or.inr ⟨b,off,ha,hk b this hb,hc⟩
theorem cX.at {ok:Nat→Prop} {w:World} {a:Option Addr} {zs:List Int} (h:cX ok w a zs):dB w.heap.size w a zs:=by
 rcases h with h | ⟨b,off,ha,hb,hc⟩
 ·exact Or.inl h
 ·cases zs with
  | nil=>exact Or.inl rfl
  | cons z r=>exact Or.inr ⟨b,off,ha,World.block_lt_of_cell? w _ (hc 0 (by simp)),hc⟩
theorem eW.later {ok:Nat→Prop} {w w':World} {a:Option Addr} {zs:List OpL} (h:eW ok w a zs) (hB:bN ok w w'):eW ok w' a zs:=by
 rcases h with h | ⟨b,off,ha,hb,hc⟩
 ·exact Or.inl h
 ·exact Or.inr ⟨b,off,ha,hb,fun i hi=>⟨hB.cell (hc i hi).1 hb,hB.cell (hc i hi).2.1 hb,hB.cell (hc i hi).2.2 hb⟩⟩
theorem eW.mono {ok ok':Nat→Prop} {w:World} {a:Option Addr} {zs:List OpL} (h:eW ok w a zs) (hk:∀k,k<w.heap.size→ok k→ok' k):eW ok' w a zs:=by
 rcases h with h | ⟨b,off,ha,hb,hc⟩
 ·exact Or.inl h
 ·cases zs with
  | nil=>exact Or.inl rfl
  | cons z r=>
   have:=World.block_lt_of_cell? w _ (hc 0 (by simp)).1
   exact Or.inr ⟨b,off,ha,hk b this hb,hc⟩
theorem eW.at {ok:Nat→Prop} {w:World} {a:Option Addr} {zs:List OpL} (h:eW ok w a zs):fO w a zs:=by
 rcases h with h | ⟨b,off,ha,hb,hc⟩
 ·exact Or.inl h
 ·cases zs with
  | nil=>exact Or.inl rfl
  | cons z r=>exact Or.inr ⟨b,off,ha,World.block_lt_of_cell? w _ (hc 0 (by simp)).1,hc⟩
def IsI (ok:Nat→Prop) (w:World) (v:Value) (zs:List Int):Prop:=∃a cap,v= .slice a zs.length cap∧cX ok w a zs∧zs.length*8≤140737488355328∧zs.length≤cap∧(a=none→zs.length=0∧cap=0)
def IsO (ok:Nat→Prop) (w:World) (v:Value) (zs:List OpL):Prop:=∃a cap,v= .slice a zs.length cap∧eW ok w a zs∧zs.length*24≤140737488355328∧zs.length≤cap∧(a=none→zs.length=0∧cap=0)
theorem IsI.later {ok:Nat→Prop} {w w':World} {v:Value} {zs:List Int} (h:IsI ok w v zs) (hB:bN ok w w'):IsI ok w' v zs:=by
 obtain⟨a,cap,h1,h2,h3⟩:=h
 exact⟨a,cap,h1,h2.later hB,h3⟩
theorem IsI.mono {ok ok':Nat→Prop} {w:World} {v:Value} {zs:List Int} (h:IsI ok w v zs) (hk:∀k,k<w.heap.size→ok k→ok' k):IsI ok' w v zs:=by
 obtain⟨a,cap,h1,h2,h3⟩:=h
 exact⟨a,cap,h1,h2.mono hk,h3⟩
theorem IsI.sl {ok:Nat→Prop} {w:World} {v:Value} {zs:List Int} (h:IsI ok w v zs):∃a cap,v= .slice a zs.length cap∧bP w a cap zs:=by
 obtain⟨a,cap,h1,h2,h3,h4,h5⟩:=h
 exact⟨a,cap,h1,h2.at,by unfold maxLen;omega,h4,h5⟩
theorem IsI.nil (ok:Nat→Prop) (w:World):IsI ok w (.slice none 0 0) []:=⟨none,0,rfl,Or.inl rfl,by decide,Nat.le_refl _,fun _=>⟨rfl,rfl⟩⟩
theorem IsI.one {ok:Nat→Prop} {w:World} {v:Value} {zs:List Int} (h:IsI ok w v zs):v.oneCell'=true:=by
 obtain⟨a,cap,rfl,_⟩:=h
 rfl
theorem IsO.later {ok:Nat→Prop} {w w':World} {v:Value} {zs:List OpL} (h:IsO ok w v zs) (hB:bN ok w w'):IsO ok w' v zs:=by
 obtain⟨a,cap,h1,h2,h3⟩:=h
 exact⟨a,cap,h1,h2.later hB,h3⟩
theorem IsO.mono {ok ok':Nat→Prop} {w:World} {v:Value} {zs:List OpL} (h:IsO ok w v zs) (hk:∀k,k<w.heap.size→ok k→ok' k):IsO ok' w v zs:=by
 obtain⟨a,cap,h1,h2,h3⟩:=h
 exact⟨a,cap,h1,h2.mono hk,h3⟩
theorem IsO.sl {ok:Nat→Prop} {w:World} {v:Value} {zs:List OpL} (h:IsO ok w v zs):∃a cap,v= .slice a zs.length cap∧bZ w a cap zs:=by
 obtain⟨a,cap,h1,h2,h3,h4,h5⟩:=h
 exact⟨a,cap,h1,h2.at,by unfold maxLen;omega,h4,h5⟩
theorem IsO.nil (ok:Nat→Prop) (w:World):IsO ok w (.slice none 0 0) []:=⟨none,0,rfl,Or.inl rfl,by decide,Nat.le_refl _,fun _=>⟨rfl,rfl⟩⟩
theorem IsO.one {ok:Nat→Prop} {w:World} {v:Value} {zs:List OpL} (h:IsO ok w v zs):v.oneCell'=true:=by
 obtain⟨a,cap,rfl,_⟩:=h
 rfl
theorem IsI.of_owns {w:World} {base:Nat} {e:TypeId} {v:Value} {zs:List Int} (h:w.ownsRow base e 1 v zs.length (aT zs)) (hl:zs.length*8≤140737488355328):IsI (fun b=>base≤b∧v.ownBlock=some b) w v zs:=by
 obtain⟨a,cap,rfl,h1,h2⟩:=bG h
 refine⟨a,cap,rfl,?_,hl,h1,h2⟩
 obtain⟨a',cap',he,hi⟩:=dB.of_owns h
 simp at he
 obtain⟨rfl,rfl⟩:=he
 rcases hi with hi | ⟨b,off,rfl,hb,hc⟩
 ·exact Or.inl hi
 ·exact Or.inr ⟨b,off,rfl,⟨(World.ownsRow.lt h b rfl).1,rfl⟩,hc⟩
theorem IsO.of_owns {w:World} {base:Nat} {e:TypeId} {v:Value} {zs:List OpL} (h:w.ownsRow base e 3 v zs.length (cM zs)) (hl:zs.length*24≤140737488355328):IsO (fun b=>base≤b∧v.ownBlock=some b) w v zs:=by
 obtain⟨a,cap,rfl,h1,h2⟩:=bG h
 refine⟨a,cap,rfl,?_,hl,h1,h2⟩
 obtain⟨hi,_⟩:=bZ.of_owns h
 rcases hi with hi | ⟨b,off,rfl,hb,hc⟩
 ·exact Or.inl hi
 ·exact Or.inr ⟨b,off,rfl,⟨(World.ownsRow.lt h b rfl).1,rfl⟩,hc⟩
theorem cK {N:Nat} {f:Nat→Value} (h:∀i,i<N→(f i).oneCell'=true):(aD N f).all (·.oneCell')=true:=by
 refine Array.all_eq_true_iff_forall_mem.2 (fun v hv=>?_)
 simp[aD] at hv
 obtain⟨i,hi,rfl⟩:=hv
 exact h i hi
def nV (w w':World) (v:Value) (zs:List Int):Prop:=w'.ownsRow w.heap.size 3 1 v zs.length (aT zs)∧(zs.length=0→∃a,v= .slice a 0 0)∧Below w.heap.size w w'
def pV (w w':World) (v:Value) (zs:List OpL):Prop:=w'.ownsRow w.heap.size 69 3 v zs.length (cM zs)∧(zs.length=0→∃a,v= .slice a 0 0)∧Below w.heap.size w w'
theorem BB (zs:List Int):∀u∈aT zs,u.oneCell'=true:=by
 intro u hu
 obtain⟨n,_,rfl⟩:=List.mem_map.1 hu
 rfl
theorem BJ (zs:List OpL):∀u∈cM zs,u.oneCell'=true:=by
 intro u hu
 obtain⟨o,_,h⟩:=List.mem_flatMap.1 hu
 simp[lU] at h
 rcases h with rfl | rfl | rfl<;>rfl
theorem dB.news {w w1:World} {ad:Addr} {zs:List Int} (h:dB w.heap.size w (some ad) zs) (hb:Below w.heap.size w w1):∀j u,(aT zs)[j]? =some u→w1.cell? (ad.add j)=some u:=by
 intro j u hu
 rcases h with rfl | ⟨b,off,hb',hlt,hc⟩
 ·simp[aT] at hu
 ·obtain rfl:ad=⟨b,off,none⟩:=by simpa using hb'
  have hj:j<zs.length:=by
   obtain⟨hj,_⟩:=List.getElem?_eq_some_iff.1 hu
   simpa [aT] using hj
  rw[i6,hb.cell (p:=⟨b,off+j,none⟩) hlt,hc j hj]
  simp[aT,hj] at hu
  simp[List.getD,hj,hu]
theorem fO.news {w w1:World} {ad:Addr} {zs:List OpL} (h:fO w (some ad) zs) (hb:Below w.heap.size w w1):∀j u,(cM zs)[j]? =some u→w1.cell? (ad.add j)=some u:=by
 intro j u hu
 rcases h with rfl | ⟨b,off,hb',hlt,hc⟩
 ·simp[cM] at hu
 ·obtain rfl:ad=⟨b,off,none⟩:=by simpa using hb'
  have hj:j<zs.length*3:=by
   obtain⟨hj,_⟩:=List.getElem?_eq_some_iff.1 hu
   rw[sT] at hj
   exact hj
  obtain⟨g0,g1,g2⟩:=oQ zs (j / 3) (by omega)
  obtain⟨c0,c1,c2⟩:=hc (j / 3) (by omega)
  rw[i6,hb.cell (p:=⟨b,off+j,none⟩) hlt]
  have h3:j=j / 3*3∨j=j / 3*3+1∨j=j / 3*3+2:=by omega
  rcases h3 with e | e | e
  ·rw[e] at hu ⊢;rw[c0];rw[g0] at hu;exact hu
  ·rw[e] at hu ⊢;rw[←Nat.add_assoc,c1];rw[g1] at hu;exact hu
  ·rw[e] at hu ⊢;rw[←Nat.add_assoc,c2];rw[g2] at hu;exact hu
theorem c7 (a:Option Addr) (cap:Nat) (zs:List Int) (w:World) (h:bP w a cap zs) (hl:zs.length*8≤140737488355328):
  Calls Tryz.prog 55 #[.slice a zs.length cap] w fun e w'=>∃v,e= .returned v∧nV w w' v zs:=by
 obtain⟨i0,hi,hz0,hz1,hz2⟩:=info_parts Tryz.infoInt
 have he:=fun w=>Go.Lib.run_eql_slice_nil (P:=Tryz.prog) w 26 3 a zs.length cap 0 0 Tryz.underlying26
 cases a with
 | none=>
  obtain⟨h1,rfl⟩:=h.2.2.2 rfl
  obtain rfl:=List.eq_nil_of_length_eq_zero h1
  simp only[Option.isNone_none,List.length_nil] at he
  go_enter Tryz.func55,Tryz.ntmps55
  go_wp2
  go_ret
  exact⟨_,rfl,World.ownsRow_nil _ _ _ _,fun _=>⟨_,rfl⟩,Below.refl _ _⟩
 | some ad=>
  simp only[Option.isNone_some] at he
  obtain⟨hz,hm,hc,_⟩:=h
  have HB:Hid (Below w.heap.size w (w.alloc (.cells #[] 3))):=(Below.refl _ _).alloc (Nat.le_refl _) _
  have HZ:Hid (dB w.heap.size w (some ad) zs):=hz
  clear hz
  by_cases h0:zs.length=0
  ·obtain rfl:=List.eq_nil_of_length_eq_zero h0
   simp only[List.length_nil] at he
   go_enter Tryz.func55,Tryz.ntmps55
   go_wp2_with (first
    | (at_builtin;refine wpList_append_fits_any _ rfl _ _ 26 rfl w.heap.size 3 i0 1 Tryz.underlying26 hi hz1 w.heap.size 0 0 [] rfl (World.ownsRow_made (e:=3) (size:=1) w #[] 0 (Nat.le_refl _) (by decide) rfl) (some ad) 0 cap [] rfl rfl (fun h=>by cases h) (fun _ _ j u hj=>by simp at hj) (by simp) (Nat.le_refl _) ?_;intro w2 hown hg)
    | go_in)
   go_wp2
   go_ret
   exact⟨_,rfl,hown,fun _=>⟨_,rfl⟩,HB.out.grown hg (by rw[aB];omega) (by intro k hk;cases hk;exact Nat.le_refl _)⟩
  ·go_enter Tryz.func55,Tryz.ntmps55
   go_wp2_with (first
    | (at_builtin;refine wpList_append_own _ rfl _ _ 26 rfl w.heap.size 3 i0 (.int .i64 0) 1 8 Tryz.underlying26 hi hz0 hz1 hz2 rfl (by decide) _ _ _ rfl (World.ownsRow_made (e:=3) (size:=1) w #[] 0 (Nat.le_refl _) (by decide) rfl) ad zs.length cap (aT zs) rfl ?c1 ?c2 ?c3 ?c4 ?c5 ?c6 ?_)
    | go_in)
   case c1=>simp[aT]
   case c2=>exact HZ.out.news HB.out
   case c3=>exact BB zs
   case c4=>unfold maxLen;omega
   case c5=>omega
   case c6=>rw[aB];omega
   ·intro v' w2 hown hg _
    go_wp2
    go_ret
    refine⟨_,rfl,?_,fun h=>absurd h h0,HB.out.grown hg (by rw[aB];omega) (by intro k hk;cases hk;exact Nat.le_refl _)⟩
    simpa using hown
theorem gL (a:Option Addr) (cap:Nat) (zs:List OpL) (w:World) (h:bZ w a cap zs) (hl:zs.length*24≤140737488355328):
  Calls Tryz.prog 54 #[.slice a zs.length cap] w fun e w'=>∃v,e= .returned v∧pV w w' v zs:=by
 obtain⟨i0,hi,hz0,hz1,hz2⟩:=info_parts Tryz.infoOp
 have he:=fun w=>Go.Lib.run_eql_slice_nil (P:=Tryz.prog) w 22 69 a zs.length cap 0 0 Tryz.underlying22
 cases a with
 | none=>
  obtain⟨h1,rfl⟩:=h.2.2.2 rfl
  obtain rfl:=List.eq_nil_of_length_eq_zero h1
  simp only[Option.isNone_none,List.length_nil] at he
  go_enter Tryz.func54,Tryz.ntmps54
  go_wp2
  go_ret
  exact⟨_,rfl,World.ownsRow_nil _ _ _ _,fun _=>⟨_,rfl⟩,Below.refl _ _⟩
 | some ad=>
  simp only[Option.isNone_some] at he
  obtain⟨hz,hm,hc,_⟩:=h
  have HB:Hid (Below w.heap.size w (w.alloc (.cells #[] 69))):=(Below.refl _ _).alloc (Nat.le_refl _) _
  have HZ:Hid (fO w (some ad) zs):=hz
  clear hz
  by_cases h0:zs.length=0
  ·obtain rfl:=List.eq_nil_of_length_eq_zero h0
   simp only[List.length_nil] at he
   go_enter Tryz.func54,Tryz.ntmps54
   go_wp2_with (first
    | (at_builtin;refine wpList_append_fits_any _ rfl _ _ 22 rfl w.heap.size 69 i0 3 Tryz.underlying22 hi hz1 w.heap.size 0 0 [] rfl (World.ownsRow_made (e:=69) (size:=3) w #[] 0 (Nat.le_refl _) (by decide) rfl) (some ad) 0 cap [] rfl rfl (fun h=>by cases h) (fun _ _ j u hj=>by simp at hj) (by simp) (Nat.le_refl _) ?_;intro w2 hown hg)
    | go_in)
   go_wp2
   go_ret
   exact⟨_,rfl,hown,fun _=>⟨_,rfl⟩,HB.out.grown hg (by rw[aB];omega) (by intro k hk;cases hk;exact Nat.le_refl _)⟩
  ·go_enter Tryz.func54,Tryz.ntmps54
   go_wp2_with (first
    | (at_builtin;refine wpList_append_own _ rfl _ _ 22 rfl w.heap.size 69 i0 (.agg #[.int .i64 0,.int .i64 0,.int .i64 0]) 3 24 Tryz.underlying22 hi hz0 hz1 hz2 rfl (by decide) _ _ _ rfl (World.ownsRow_made (e:=69) (size:=3) w #[] 0 (Nat.le_refl _) (by decide) rfl) ad zs.length cap (cM zs) rfl ?c1 ?c2 ?c3 ?c4 ?c5 ?c6 ?_)
    | go_in)
   case c1=>exact sT zs
   case c2=>exact HZ.out.news HB.out
   case c3=>exact BJ zs
   case c4=>unfold maxLen;omega
   case c5=>omega
   case c6=>rw[aB];omega
   ·intro v' w2 hown hg _
    go_wp2
    go_ret
    refine⟨_,rfl,?_,fun h=>absurd h h0,HB.out.grown hg (by rw[aB];omega) (by intro k hk;cases hk;exact Nat.le_refl _)⟩
    simpa using hown
theorem bO (w:World) {g k:Nat} (cs:Array Value) (h:k≠g):(w.setRow g cs).heap[k]? =w.heap[k]? :=by
 simp[World.setRow,Array.getElem?_modify]
 intro e;omega
theorem dP {w w':World} {b:Nat} {e:TypeId} {size:Nat} {v:Value} {n:Nat} {xs:List Value} (h:w.ownsRow b e size v n xs) (hs:∀k,v.ownBlock=some k→w'.heap[k]? =w.heap[k]?):w'.ownsRow b e size v n xs:=
 ⟨h.1,h.2.imp id fun ⟨g,cap,cur,h1,h2,h3,h4⟩=>⟨g,cap,cur,h1,h2,by rw[hs g (by rw[h1];rfl)];exact h3,h4⟩⟩
theorem rC (w:World) (A B C:Obj):(((w.alloc A).alloc B).alloc C).heap[w.heap.size]? =some A∧(((w.alloc A).alloc B).alloc C).heap[w.heap.size+1]? =some B∧(((w.alloc A).alloc B).alloc C).heap[w.heap.size+2]? =some C:=by
 have h1:(w.alloc A).heap.size=w.heap.size+1:=aB _ _
 have h2:((w.alloc A).alloc B).heap.size=w.heap.size+2:=by rw[aB];omega
 obtain⟨r1,r2⟩:=cT w A B
 refine⟨?_,?_,?_⟩
 ·rw[Below.heap_alloc _ _ _ (by omega)];exact r1
 ·rw[Below.heap_alloc _ _ _ (by omega)];exact r2
 ·rw[show w.heap.size+2=((w.alloc A).alloc B).heap.size by omega];exact aJ _ _
theorem Tryz.infoFrame7:(Tryz.prog.info? 123).map (·.size)=some 7:=by kernel_rfl
theorem Tryz.infoFrameZ:(Tryz.prog.info? 123).map (fun i=>(i.zero,i.size,i.bytes))=some (some (.agg #[.int .i64 0,.int .i64 0,.int .i64 0,.slice none 0 0,.slice none 0 0,.slice none 0 0,.slice none 0 0]),7,120):=by kernel_rfl
theorem fT {P:Program} {fn:Func} {p q r:Tmp} {ty:TypeId} (h:fn.results=#[.cell p ty,.tmp q,.tmp r]) (tmps:Array Value) (w:World) (g:Nat) (t:TypeId) (cs:Array Value) (fr:Nat × Nat) (d:TypeDesc)
  (hp:tmps.getD p undef= .pointer (some ⟨g,0,none⟩)) (hg:w.heap[g]? =some (.cells cs t fr)) (hu:P.underlying ty=some d) (hd:(match d with | .struct _ | .array _ _=>true | _=>false)=true) (hi:(P.info? ty).map (·.size)=some cs.size)
  (x y:Value) (hx:tmps.getD q undef=x) (hy:tmps.getD r undef=y):(results fn tmps).run P w= .ok (.tuple #[.agg cs,x,y]) w:=by
 have hp':tmps[p]?.getD undef= .pointer (some ⟨g,0,none⟩):=by simpa using hp
 have hx':tmps[q]?.getD undef=x:=by simpa using hx
 have hy':tmps[r]?.getD undef=y:=by simpa using hy
 simp[results,h,hp',hx',hy',asAddr,run_loadVar_row w g t ty cs fr d hg hu hd hi]
def dR (B:Nat) (w:World) (v:Value) (f:aC):Prop:=∃a3 c3 a4 c4 a5 c5 a6 c6,
 v= .agg #[.int .i64 f.kind,.int .i64 f.node,.int .i64 f.id,.slice a3 f.ops.length c3,.slice a4 f.deps.length c4,.slice a5 f.ats.length c5,.slice a6 f.vals.length c6]∧
 (bZ w a3 c3 f.ops∧eW (· <B) w a3 f.ops)∧(bP w a4 c4 f.deps∧cX (· <B) w a4 f.deps)∧(bP w a5 c5 f.ats∧cX (· <B) w a5 f.ats)∧(bP w a6 c6 f.vals∧cX (· <B) w a6 f.vals)
theorem bS.b {w:World} {v:Value} {f:aC} (h:bS w v f):dR w.heap.size w v f:=by
 obtain⟨a3,c3,a4,c4,a5,c5,a6,c6,e,h3,h4,h5,h6⟩:=h
 exact⟨a3,c3,a4,c4,a5,c5,a6,c6,e,⟨h3,h3.1⟩,⟨h4,h4.1⟩,⟨h5,h5.1⟩,⟨h6,h6.1⟩⟩
theorem dR.v {B:Nat} {w:World} {v:Value} {f:aC} (h:dR B w v f):bS w v f:=by
 obtain⟨a3,c3,a4,c4,a5,c5,a6,c6,e,h3,h4,h5,h6⟩:=h
 exact⟨a3,c3,a4,c4,a5,c5,a6,c6,e,h3.1,h4.1,h5.1,h6.1⟩
theorem nY {B:Nat} {w w':World} {a:Option Addr} {cap:Nat} {zs:List Int} (h:bP w a cap zs∧cX (· <B) w a zs) (hb:Below B w w'):bP w' a cap zs∧cX (· <B) w' a zs:=by
 have h2:=h.2.later (w':=w') (fun k _ hk=>hb.block k hk)
 exact⟨⟨h2.at,h.1.2⟩,h2⟩
theorem pG {B:Nat} {w w':World} {a:Option Addr} {cap:Nat} {zs:List OpL} (h:bZ w a cap zs∧eW (· <B) w a zs) (hb:Below B w w'):bZ w' a cap zs∧eW (· <B) w' a zs:=by
 have h2:=h.2.later (w':=w') (fun k _ hk=>hb.block k hk)
 exact⟨⟨h2.at,h.1.2⟩,h2⟩
theorem dR.later {B:Nat} {w w':World} {v:Value} {f:aC} (h:dR B w v f) (hb:Below B w w'):dR B w' v f:=by
 obtain⟨a3,c3,a4,c4,a5,c5,a6,c6,e,h3,h4,h5,h6⟩:=h
 exact⟨a3,c3,a4,c4,a5,c5,a6,c6,e,pG h3 hb,nY h4 hb,nY h5 hb,nY h6 hb⟩
def lW (B:Nat) (w:World) (v:Value) (f:aC):Prop:=∃a3 c3 a4 c4 a5 c5 a6 c6,
 v= .agg #[.int .i64 f.kind,.int .i64 f.node,.int .i64 f.id,.slice a3 f.ops.length c3,.slice a4 f.deps.length c4,.slice a5 f.ats.length c5,.slice a6 f.vals.length c6]∧
 (bZ w a3 c3 f.ops∧eW (B≤·) w a3 f.ops)∧(bP w a4 c4 f.deps∧cX (B≤·) w a4 f.deps)∧(bP w a5 c5 f.ats∧cX (B≤·) w a5 f.ats)∧(bP w a6 c6 f.vals∧cX (B≤·) w a6 f.vals)
theorem lW.v {B:Nat} {w:World} {v:Value} {f:aC} (h:lW B w v f):bS w v f:=by
 obtain⟨a3,c3,a4,c4,a5,c5,a6,c6,e,h3,h4,h5,h6⟩:=h
 exact⟨a3,c3,a4,c4,a5,c5,a6,c6,e,h3.1,h4.1,h5.1,h6.1⟩
theorem nN {ok:Nat→Prop} {w w':World} {a:Option Addr} {cap:Nat} {zs:List Int} (h:bP w a cap zs∧cX ok w a zs) (hb:bN ok w w'):bP w' a cap zs∧cX ok w' a zs:=by
 have h2:=h.2.later hb
 exact⟨⟨h2.at,h.1.2⟩,h2⟩
theorem BY {ok:Nat→Prop} {w w':World} {a:Option Addr} {cap:Nat} {zs:List OpL} (h:bZ w a cap zs∧eW ok w a zs) (hb:bN ok w w'):bZ w' a cap zs∧eW ok w' a zs:=by
 have h2:=h.2.later hb
 exact⟨⟨h2.at,h.1.2⟩,h2⟩
theorem lW.same {B:Nat} {w w':World} {v:Value} {f:aC} (h:lW B w v f) (hb:bN (B≤·) w w'):lW B w' v f:=by
 obtain⟨a3,c3,a4,c4,a5,c5,a6,c6,e,h3,h4,h5,h6⟩:=h
 exact⟨a3,c3,a4,c4,a5,c5,a6,c6,e,BY h3 hb,nN h4 hb,nN h5 hb,nN h6 hb⟩
theorem lW.mono {B B':Nat} {w:World} {v:Value} {f:aC} (h:lW B w v f) (hB:B'≤B):lW B' w v f:=by
 obtain⟨a3,c3,a4,c4,a5,c5,a6,c6,e,h3,h4,h5,h6⟩:=h
 have m:∀k,k<w.heap.size→B≤k→B'≤k:=fun k _ (h:B≤k)=>by omega
 exact⟨a3,c3,a4,c4,a5,c5,a6,c6,e,⟨h3.1,h3.2.mono m⟩,⟨h4.1,h4.2.mono m⟩,⟨h5.1,h5.2.mono m⟩,⟨h6.1,h6.2.mono m⟩⟩
theorem iL (ok:Nat→Prop) (w:World):bP w none 0 []∧cX ok w none []:=⟨⟨Or.inl rfl,Nat.zero_le _,Nat.le_refl _,fun _=>⟨rfl,rfl⟩⟩,Or.inl rfl⟩
theorem qH (ok:Nat→Prop) (w:World):bZ w none 0 []∧eW ok w none []:=⟨⟨Or.inl rfl,Nat.zero_le _,Nat.le_refl _,fun _=>⟨rfl,rfl⟩⟩,Or.inl rfl⟩
theorem x9 {B b0:Nat} {w:World} {a:Option Addr} {cap:Nat} {zs:List Int} (h:w.ownsRow b0 3 1 (.slice a zs.length cap) zs.length (aT zs)) (hB:B≤b0):bP w a cap zs∧cX (B≤·) w a zs:=by
 have h1:=bP.of_owns h
 refine⟨h1,?_⟩
 rcases h1.1 with e | ⟨b,off,rfl,_,hc⟩
 ·exact Or.inl e
 ·exact Or.inr ⟨b,off,rfl,Nat.le_trans hB (World.ownsRow.lt h b rfl).1,hc⟩
def aQ (B:Nat) (w:World) (v:Value) (fs:List aC):Prop:=∃css:List (List Value),css.length=fs.length∧w.ownsRow B 123 7 v fs.length css.flatten∧
 (∀i (h:i<fs.length),(css.getD i []).length=7∧lW B w (.agg (css.getD i []).toArray) fs[i])
theorem aQ.same {B:Nat} {w w':World} {v:Value} {fs:List aC} (h:aQ B w v fs) (hb:bN (B≤·) w w'):aQ B w' v fs:=by
 obtain⟨css,h1,h2,h3⟩:=h
 exact⟨css,h1,dP h2 (fun k hk=>hb k (World.ownsRow.lt h2 k hk).2 (World.ownsRow.lt h2 k hk).1),fun i hi=>⟨(h3 i hi).1,(h3 i hi).2.same hb⟩⟩
theorem aQ.later {B:Nat} {w w':World} {v:Value} {fs:List aC} (h:aQ B w v fs) (hb:Below w.heap.size w w'):aQ B w' v fs:=h.same (bN.of_size hb)
theorem aQ.mono {B B':Nat} {w:World} {v:Value} {fs:List aC} (h:aQ B w v fs) (hB:B'≤B):aQ B' w v fs:=by
 obtain⟨css,h1,h2,h3⟩:=h
 exact⟨css,h1,eG h2 hB,fun i hi=>⟨(h3 i hi).1,(h3 i hi).2.mono hB⟩⟩
theorem aQ.nil (B:Nat) (w:World):aQ B w (.slice none 0 0) []:=⟨[],rfl,World.ownsRow_nil _ _ _ _,fun _ h=>by simp at h⟩
theorem fY {f:aC} (h:aP f=0):(0≤f.id∧f.id<32)∧(0≤f.node∧f.node<6):=by
 unfold aP at h
 split at h
 ·omega
 ·split at h
  ·omega
  ·omega
def iV (P:Program) (ty:TypeId) (n:Nat):Prop:=∃d,P.underlying ty=some d∧d.isRow=true∧(P.info? ty).map (·.size)=some n
theorem dN {P:Program} {ops:Array Oper} {Q:Exit→Act→World→Prop} {rest:List Oper} {a:Act} {w:World} {dst:Option Tmp} {type:TypeId} {pos:String} {after:Array Edge} {guard:Option (Nat × Bool)} {x:Operand} {ty:TypeId} {b o:Nat} {cs:Array Value}
  (hc:w.rangeAt b o cs.toList) (hx:a.eval x= .pointer (some ⟨b,o,none⟩)) (hr:iV P ty cs.toList.length)
  (hw:Region.wanted ⟨dst,.load ty x,type,pos,after,guard⟩ (yielded ops a.tmps)=true) (h:wpList P ops Q rest (a.put dst (.agg cs)) w):wpList P ops Q (⟨dst,.load ty x,type,pos,after,guard⟩::rest) a w:=by
 obtain⟨d,hu,hd,hi⟩:=hr
 exact mD hw fun K hK=>wp_load_mid ty x rfl b o hx cs.toList d hc hu hd hi (hK _ _ (by simpa using h))
theorem cJ {P:Program} {ops:Array Oper} {Q:Exit→Act→World→Prop} {rest:List Oper} {a:Act} {w:World} {dst:Option Tmp} {type:TypeId} {pos:String} {after:Array Edge} {guard:Option (Nat × Bool)} {x:Operand} {ty t:TypeId} {g:Nat} {cs:Array Value} {fr:Nat × Nat}
  (hg:w.heap[g]? =some (.cells cs t fr)) (hx:a.eval x= .pointer (some ⟨g,0,none⟩)) (hr:iV P ty cs.size)
  (hw:Region.wanted ⟨dst,.load ty x,type,pos,after,guard⟩ (yielded ops a.tmps)=true) (h:wpList P ops Q rest (a.put dst (.agg cs)) w):wpList P ops Q (⟨dst,.load ty x,type,pos,after,guard⟩::rest) a w:=by
 obtain⟨d,hu,hd,hi⟩:=hr
 refine mD hw fun K hK=>wp_load_row ty x rfl g hx t cs fr d hg hu ?_ hi (hK _ _ h)
 cases d<;>first | rfl | cases hd
theorem cP {P:Program} {w:World} {ops:Array Oper} {rest:List Oper} {o:Oper} {a:Act} {Q:Exit→Act→World→Prop} (hg:o.guard=none) (ty:TypeId) (ho:o.op= .alloc ty) (cs:Array Value) (hz:(P.info? ty).map (·.zero)=some (some (.agg cs)))
  (h:wpList P ops Q rest (a.put o.dst (.pointer (some ⟨w.heap.size,0,none⟩))) (w.alloc (.cells cs ty))):wpList P ops Q (o::rest) a w:=by
 refine wpList_plain hg fun K hK=>?_
 cases hq:P.info? ty with
 | none=>simp[hq] at hz
 | some i=>
  have hzz:i.zero=some (.agg cs):=by simpa [hq] using hz
  unfold Oper.wp execOp
  simp[ho,Instr.alloc,zeroValue,typeInfo,hq,hzz,newVar,newRow,Value.cells,go_sem]
  exact hK _ _ h
structure iT (ok:Nat→Prop) (w:World) (nv:Nat→Value) (o:Nat) (e:cZ):Prop where
 state:nv o= .int .i64 e.state
 ops:IsO ok w (nv (o+1)) e.ops
 first:IsI ok w (nv (o+2)) e.first
 deps:IsI ok w (nv (o+3)) e.deps
 ats:IsI ok w (nv (o+4)) e.ats
 vals:IsI ok w (nv (o+5)) e.vals
theorem iT.later {ok:Nat→Prop} {w w':World} {nv:Nat→Value} {o:Nat} {e:cZ} (h:iT ok w nv o e) (hB:bN ok w w'):iT ok w' nv o e:=
 ⟨h.state,h.ops.later hB,h.first.later hB,h.deps.later hB,h.ats.later hB,h.vals.later hB⟩
theorem iT.mono {ok ok':Nat→Prop} {w:World} {nv:Nat→Value} {o:Nat} {e:cZ} (h:iT ok w nv o e) (hk:∀k,k<w.heap.size→ok k→ok' k):iT ok' w nv o e:=
 ⟨h.state,h.ops.mono hk,h.first.mono hk,h.deps.mono hk,h.ats.mono hk,h.vals.mono hk⟩
theorem iT.same {ok:Nat→Prop} {w:World} {nv nv':Nat→Value} {o o':Nat} {e:cZ} (h:iT ok w nv o e) (hn:∀j,j<6→nv' (o'+j)=nv (o+j)):iT ok w nv' o' e:=
 ⟨by have:=hn 0 (by omega);simp only[Nat.add_zero] at this;rw[this];exact h.state,by rw[hn 1 (by omega)];exact h.ops,by rw[hn 2 (by omega)];exact h.first,by rw[hn 3 (by omega)];exact h.deps,by rw[hn 4 (by omega)];exact h.ats,by rw[hn 5 (by omega)];exact h.vals⟩
theorem iT.one {ok:Nat→Prop} {w:World} {nv:Nat→Value} {o:Nat} {e:cZ} (h:iT ok w nv o e):∀j,j<6→(nv (o+j)).oneCell'=true:=by
 intro j hj
 match j,hj with
 | 0,_=>rw[Nat.add_zero,h.state];rfl
 | 1,_=>exact h.ops.one
 | 2,_=>exact h.first.one
 | 3,_=>exact h.deps.one
 | 4,_=>exact h.ats.one
 | 5,_=>exact h.vals.one
structure jD (ok:Nat→Prop) (w:World) (nv:Nat→Value) (s:aA):Prop where
 ent:∀i,i<32→iT ok w nv (i*6) (s.ent i)
 vals:∀k,k<8→nv (193+k)= .int .i64 (s.vals k)
structure bM (ok:Nat→Prop) (w:World) (nv:Nat→Value) (s:aA):Prop where
 es:jD ok w nv s
 order:IsI ok w (nv 192) s.order
theorem jD.later {ok:Nat→Prop} {w w':World} {nv:Nat→Value} {s:aA} (h:jD ok w nv s) (hB:bN ok w w'):jD ok w' nv s:=⟨fun i hi=>(h.ent i hi).later hB,h.vals⟩
theorem jD.mono {ok ok':Nat→Prop} {w:World} {nv:Nat→Value} {s:aA} (h:jD ok w nv s) (hk:∀k,k<w.heap.size→ok k→ok' k):jD ok' w nv s:=⟨fun i hi=>(h.ent i hi).mono hk,h.vals⟩
theorem bM.later {ok:Nat→Prop} {w w':World} {nv:Nat→Value} {s:aA} (h:bM ok w nv s) (hB:bN ok w w'):bM ok w' nv s:=⟨h.es.later hB,h.order.later hB⟩
theorem bM.mono {ok ok':Nat→Prop} {w:World} {nv:Nat→Value} {s:aA} (h:bM ok w nv s) (hk:∀k,k<w.heap.size→ok k→ok' k):bM ok' w nv s:=⟨h.es.mono hk,h.order.mono hk⟩
theorem bM.below {w w':World} {nv:Nat→Value} {s:aA} (h:bM (· <w.heap.size) w nv s) (hb:Below w.heap.size w w'):bM (· <w'.heap.size) w' nv s:=
 (h.later (bN.of_size hb)).mono (fun k _ (h:k<w.heap.size)=>by have:=hb.size;show k<_;omega)
theorem bM.any {ok:Nat→Prop} {w:World} {nv:Nat→Value} {s:aA} (h:bM ok w nv s):bM (· <w.heap.size) w nv s:=h.mono (fun _ h _=>h)
theorem bM.one {ok:Nat→Prop} {w:World} {nv:Nat→Value} {s:aA} (h:bM ok w nv s):∀i,i<201→(nv i).oneCell'=true:=by
 intro i hi
 by_cases h1:i<192
 ·have:=(h.es.ent (i / 6) (by omega)).one (i % 6) (by omega)
  rw[show i / 6*6+i % 6=i by omega] at this
  exact this
 ·by_cases h2:i=192
  ·subst h2;exact h.order.one
  ·have:=h.es.vals (i-193) (by omega)
   rw[show 193+(i-193)=i by omega] at this
   rw[this];rfl
def cZ.nums (e:cZ) (f:Nat):List Int:=if f=2 then e.first else if f=3 then e.deps else if f=4 then e.ats else e.vals
def c9 (ok:Nat→Prop) (w:World) (e:cZ) (f:Nat) (v:Value):Prop:=if f=0 then v= .int .i64 e.state else if f=1 then IsO ok w v e.ops else IsI ok w v (e.nums f)
theorem iT.get {ok:Nat→Prop} {w:World} {nv:Nat→Value} {o:Nat} {e:cZ} (h:iT ok w nv o e):∀f,f<6→c9 ok w e f (nv (o+f)):=by
 intro f hf
 match f,hf with
 | 0,_=>exact h.state
 | 1,_=>exact h.ops
 | 2,_=>exact h.first
 | 3,_=>exact h.deps
 | 4,_=>exact h.ats
 | 5,_=>exact h.vals
theorem iT.of {ok:Nat→Prop} {w:World} {nv:Nat→Value} {o:Nat} {e:cZ} (h:∀f,f<6→c9 ok w e f (nv (o+f))):iT ok w nv o e:=
 ⟨h 0 (by omega),h 1 (by omega),h 2 (by omega),h 3 (by omega),h 4 (by omega),h 5 (by omega)⟩
theorem jD.change {ok:Nat→Prop} {w:World} {nv nv':Nat→Value} {s:aA} (h:jD ok w nv s) {k:Nat} {e':cZ} (he:∀f,f<6→c9 ok w e' f (nv' (k*6+f)))
  (ho:∀i,i<201→(i<k*6∨k*6+6≤i)→i≠192→nv' i=nv i) (hk:k<32) (o:List Int):jD ok w nv' ⟨upd s.ent k e',o,s.vals⟩:=by
 refine⟨fun i hi=>?_,fun j hj=>?_⟩
 ·by_cases e:i=k
  ·subst e
   show iT ok w nv' (i*6) (upd s.ent i e' i)
   rw[aR]
   exact iT.of he
  ·show iT ok w nv' (i*6) (upd s.ent k e' i)
   rw[aM _ _ e]
   exact (h.ent i hi).same (fun j hj=>ho _ (by omega) (by omega) (by omega))
 ·rw[ho _ (by omega) (by omega) (by omega)]
  exact h.vals j hj
theorem bM.put {ok:Nat→Prop} {w:World} {nv:Nat→Value} {s:aA} (h:bM ok w nv s) {k f:Nat} (hk:k<32) (hf:f<6) {v:Value} (hv:c9 ok w (s.ent k) f v):bM ok w (fun i=>if i=k*6+f then v else nv i) s:=by
 refine⟨⟨fun i hi=>iT.of fun g hg=>?_,fun j hj=>?_⟩,?_⟩
 ·show c9 ok w (s.ent i) g (if i*6+g=k*6+f then v else nv (i*6+g))
  by_cases e:i*6+g=k*6+f
  ·obtain rfl:i=k:=by omega
   obtain rfl:g=f:=by omega
   rw[if_pos rfl]
   exact hv
  ·rw[if_neg e]
   exact (h.es.ent i hi).get g hg
 ·show (if 193+j=k*6+f then v else nv (193+j))=_
  rw[if_neg (by omega)]
  exact h.es.vals j hj
 ·show IsI ok w (if 192=k*6+f then v else nv 192) _
  rw[if_neg (by omega)]
  exact h.order
theorem Tryz.infoNode:(Tryz.prog.info? 32).map (·.size)=some 201:=by kernel_rfl
theorem Tryz.infoEnts:(Tryz.prog.info? 29).map (·.size)=some 192:=by kernel_rfl
theorem Tryz.infoEntry:(Tryz.prog.info? 28).map (·.size)=some 6:=by kernel_rfl
def zv (i:Nat):Value:=if i<192 then (if i % 6=0 then .int .i64 0 else .slice none 0 0) else if i=192 then .slice none 0 0 else .int .i64 0
theorem Tryz.zeroNode:(Tryz.prog.info? 32).map (·.zero)=some (some (.agg (aD 201 zv))):=by kernel_rfl
theorem lM (ok:Nat→Prop) (w:World):bM ok w zv dU:=by
 refine⟨⟨fun i hi=>?_,fun k hk=>?_⟩,?_⟩
 ·have h1:∀j,0<j→j<6→zv (i*6+j)= .slice none 0 0:=by
   intro j h0 hj
   unfold zv
   rw[if_pos (by omega),if_neg (by omega)]
  refine⟨?_,?_,?_,?_,?_,?_⟩
  ·unfold zv
   rw[if_pos (by omega),if_pos (by omega)]
   rfl
  ·rw[h1 1 (by omega) (by omega)];exact IsO.nil _ _
  ·rw[h1 2 (by omega) (by omega)];exact IsI.nil _ _
  ·rw[h1 3 (by omega) (by omega)];exact IsI.nil _ _
  ·rw[h1 4 (by omega) (by omega)];exact IsI.nil _ _
  ·rw[h1 5 (by omega) (by omega)];exact IsI.nil _ _
 ·unfold zv
  rw[if_neg (by omega),if_neg (by omega)]
  rfl
 ·exact IsI.nil _ _
def qN (r:Nat) (v:Value):Prop:=(∀b,v.ownBlock=some b→r<b)∧∀a cap,v= .slice a 0 cap→cap=0
theorem nV.fresh {r:Nat} {w w':World} {v:Value} {zs:List Int} (h:nV w w' v zs) (hr:r<w.heap.size):qN r v:=by
 refine⟨fun b hb=>?_,fun a cap e=>?_⟩
 ·have:=(World.ownsRow.lt h.1 b hb).1;omega
 ·obtain⟨a',cap',e',_⟩:=bG h.1
  rw[e] at e'
  simp at e'
  obtain⟨a2,e2⟩:=h.2.1 e'.2.1.symm
  rw[e] at e2
  simp at e2
  exact e2.2
theorem pV.fresh {r:Nat} {w w':World} {v:Value} {zs:List OpL} (h:pV w w' v zs) (hr:r<w.heap.size):qN r v:=by
 refine⟨fun b hb=>?_,fun a cap e=>?_⟩
 ·have:=(World.ownsRow.lt h.1 b hb).1;omega
 ·obtain⟨a',cap',e',_⟩:=bG h.1
  rw[e] at e'
  simp at e'
  obtain⟨a2,e2⟩:=h.2.1 e'.2.1.symm
  rw[e] at e2
  simp at e2
  exact e2.2
theorem nV.is {w w':World} {v:Value} {zs:List Int} (h:nV w w' v zs) (hl:zs.length*8≤140737488355328) (ok:Nat→Prop) (hk:∀b,w.heap.size≤b→ok b):IsI ok w' v zs:=
 (IsI.of_owns h.1 hl).mono (fun b _ hb=>hk b hb.1)
theorem pV.is {w w':World} {v:Value} {zs:List OpL} (h:pV w w' v zs) (hl:zs.length*24≤140737488355328) (ok:Nat→Prop) (hk:∀b,w.heap.size≤b→ok b):IsO ok w' v zs:=
 (IsO.of_owns h.1 hl).mono (fun b _ hb=>hk b hb.1)
structure eA (w0:World) (s:aA) (zr:Array Value) (nv:Nat→Value) (m:Nat) (w:World):Prop where
 blk:bI 201 w w0.heap.size nv
 node:bM (fun b=>b≠w0.heap.size∧b≠w0.heap.size+1) w nv s
 fresh:∀i,i<m→i<192→i % 6≠0→qN (w0.heap.size+1) (nv i)
 below:Below w0.heap.size w0 w
 res:w.heap[w0.heap.size+1]? =some (.cells zr 32 (0,0))
theorem eA.lt {w0:World} {s:aA} {zr:Array Value} {nv:Nat→Value} {m:Nat} {w:World} (h:eA w0 s zr nv m w):w0.heap.size+1<w.heap.size:=(Array.getElem?_eq_some_iff.1 h.res).1
theorem eA.step {w0:World} {s:aA} {zr:Array Value} {nv:Nat→Value} {k f:Nat} {w w1:World} {v:Value} (h:eA w0 s zr nv (k*6+f) w) (hk:k<32) (hf:f<6) (hb:Below w.heap.size w w1)
  (hv:c9 (fun b=>b≠w0.heap.size∧b≠w0.heap.size+1) w1 (s.ent k) f v) (hn:qN (w0.heap.size+1) v):
  eA w0 s zr (fun i=>if i=k*6+f then v else nv i) (k*6+(f+1)) (w1.setCell ⟨w0.heap.size,k*6+f,none⟩ v):=by
 have hl:=h.lt
 have hsame:bN (fun b=>b≠w0.heap.size∧b≠w0.heap.size+1) w1 (w1.setCell ⟨w0.heap.size,k*6+f,none⟩ v):=fun b _ hb=>Below.heap_setCell _ _ _ _ hb.1
 refine⟨(h.blk.later hb (by omega)).put _ _,?_,fun i hi hi2 h6=>?_,?_,?_⟩
 ·exact ((h.node.later (bN.of_size hb)).put hk hf hv).later hsame
 ·show qN _ (if i=k*6+f then v else nv i)
  by_cases e:i=k*6+f
  ·rw[if_pos e];exact hn
  ·rw[if_neg e];exact h.fresh i (by omega) hi2 h6
 ·exact (h.below.trans (hb.mono (by omega))).setCell (Nat.le_refl _) _
 ·rw[Below.heap_setCell _ _ _ _ (by simp),hb.block _ hl]
  exact h.res
theorem eA.stepI {w0:World} {s:aA} {zr:Array Value} {nv:Nat→Value} {k f:Nat} {w w1:World} {v:Value} (h:eA w0 s zr nv (k*6+f) w) (hk:k<32) (h2:2≤f) (hf:f<6) (hc:nV w w1 v ((s.ent k).nums f)) (hl:((s.ent k).nums f).length*8≤140737488355328):
  eA w0 s zr (fun i=>if i=k*6+f then v else nv i) (k*6+(f+1)) (w1.setCell ⟨w0.heap.size,k*6+f,none⟩ v):=by
 have:=h.lt
 refine h.step hk hf hc.2.2 ?_ (hc.fresh this)
 unfold c9
 rw[if_neg (by omega),if_neg (by omega)]
 exact hc.is hl _ (fun b hb=>by constructor<;>omega)
theorem eA.stepO {w0:World} {s:aA} {zr:Array Value} {nv:Nat→Value} {k:Nat} {w w1:World} {v:Value} (h:eA w0 s zr nv (k*6+1) w) (hk:k<32) (hc:pV w w1 v (s.ent k).ops) (hl:(s.ent k).ops.length*24≤140737488355328):
  eA w0 s zr (fun i=>if i=k*6+1 then v else nv i) (k*6+2) (w1.setCell ⟨w0.heap.size,k*6+1,none⟩ v):=by
 have:=h.lt
 refine h.step hk (by omega) hc.2.2 ?_ (hc.fresh this)
 exact hc.is hl _ (fun b hb=>by constructor<;>omega)
theorem eA.getI {w0:World} {s:aA} {zr:Array Value} {nv:Nat→Value} {m:Nat} {w:World} (h:eA w0 s zr nv m w) {k:Nat} (hk:k<32) (f:Nat) (h2:2≤f) (hf:f<6):
  ∃a cap,w.cell? ⟨w0.heap.size,k*6+f,none⟩=some (.slice a ((s.ent k).nums f).length cap)∧bP w a cap ((s.ent k).nums f)∧((s.ent k).nums f).length*8≤140737488355328:=by
 have hv:=(h.node.es.ent k hk).get f hf
 unfold c9 at hv
 rw[if_neg (by omega),if_neg (by omega)] at hv
 obtain⟨a,cap,e,hs⟩:=hv.sl
 refine⟨a,cap,by rw[h.blk.cell (by omega),e],hs,?_⟩
 obtain⟨_,_,_,_,hl,_⟩:=hv
 exact hl
theorem eA.getO {w0:World} {s:aA} {zr:Array Value} {nv:Nat→Value} {m:Nat} {w:World} (h:eA w0 s zr nv m w) {k:Nat} (hk:k<32):
  ∃a cap,w.cell? ⟨w0.heap.size,k*6+1,none⟩=some (.slice a (s.ent k).ops.length cap)∧bZ w a cap (s.ent k).ops∧(s.ent k).ops.length*24≤140737488355328:=by
 have hv:=(h.node.es.ent k hk).ops
 obtain⟨a,cap,e,hs⟩:=hv.sl
 refine⟨a,cap,by rw[h.blk.cell (by omega),e],hs,?_⟩
 obtain⟨_,_,_,_,hl,_⟩:=hv
 exact hl
theorem eA.next {w0:World} {s:aA} {zr:Array Value} {nv:Nat→Value} {k:Nat} {w:World} (h:eA w0 s zr nv (k*6+6) w):eA w0 s zr nv ((k+1)*6+1) w:=
 ⟨h.blk,h.node,fun i hi hi2 h6=>h.fresh i (by omega) hi2 h6,h.below,h.res⟩
structure pW (w0:World) (s:aA) (zr:Array Value) (nv:Nat→Value) (w:World):Prop where
 blk:bI 201 w w0.heap.size nv
 node:jD (fun b=>w0.heap.size+1<b∧(nv 192).ownBlock≠some b) w nv s
 order:w.ownsRow (w0.heap.size+2) 3 1 (nv 192) s.order.length (aT s.order)
 hot:∀i,i<192→i % 6≠0→∀a cap,nv i= .slice a 0 cap→cap=0
 len:s.order.length*8≤140737488355328
 below:Below w0.heap.size w0 w
 res:w.heap[w0.heap.size+1]? =some (.cells zr 32 (0,0))
theorem IsI.fresh {ok:Nat→Prop} {r B:Nat} {w:World} {v:Value} {zs:List Int} (h:IsI ok w v zs) (hv:qN r v) (hB:w.heap.size≤B):IsI (fun b=>r<b∧b<B) w v zs:=by
 obtain⟨a,cap,rfl,h2,h3⟩:=h
 refine⟨a,cap,rfl,?_,h3⟩
 rcases h2 with h2 | ⟨b,off,rfl,hb,hc⟩
 ·exact Or.inl h2
 ·cases zs with
  | nil=>exact Or.inl rfl
  | cons z l=>exact Or.inr ⟨b,off,rfl,⟨hv.1 b rfl,Nat.lt_of_lt_of_le (World.block_lt_of_cell? w _ (hc 0 (by simp))) hB⟩,hc⟩
theorem IsO.fresh {ok:Nat→Prop} {r B:Nat} {w:World} {v:Value} {zs:List OpL} (h:IsO ok w v zs) (hv:qN r v) (hB:w.heap.size≤B):IsO (fun b=>r<b∧b<B) w v zs:=by
 obtain⟨a,cap,rfl,h2,h3⟩:=h
 refine⟨a,cap,rfl,?_,h3⟩
 rcases h2 with h2 | ⟨b,off,rfl,hb,hc⟩
 ·exact Or.inl h2
 ·cases zs with
  | nil=>exact Or.inl rfl
  | cons z l=>exact Or.inr ⟨b,off,rfl,⟨hv.1 b rfl,Nat.lt_of_lt_of_le (World.block_lt_of_cell? w _ (hc 0 (by simp)).1) hB⟩,hc⟩
theorem eA.fin {w0:World} {s:aA} {zr:Array Value} {nv:Nat→Value} {w w1:World} {v:Value} (h:eA w0 s zr nv (32*6+1) w) (hc:nV w w1 v s.order) (hl:s.order.length*8≤140737488355328):
  pW w0 s zr (fun i=>if i=192 then v else nv i) (w1.setCell ⟨w0.heap.size,192,none⟩ v):=by
 have hlt:=h.lt
 have hb:=hc.2.2
 have hnew:∀b,v.ownBlock=some b→w.heap.size≤b:=fun b e=>(World.ownsRow.lt hc.1 b e).1
 have hE:jD (fun b=>w0.heap.size+1<b∧b<w.heap.size) w nv s:=by
  refine⟨fun i hi=>iT.of fun f hf=>?_,h.node.es.vals⟩
  have h1:=(h.node.es.ent i hi).get f hf
  by_cases f0:f=0
  ·subst f0;exact h1
  ·have h2:=h.fresh (i*6+f) (by omega) (by omega) (by omega)
   unfold c9 at h1 ⊢
   rw[if_neg f0] at h1 ⊢
   by_cases f1:f=1
   ·rw[if_pos f1] at h1 ⊢;exact h1.fresh h2 (Nat.le_refl _)
   ·rw[if_neg f1] at h1 ⊢;exact h1.fresh h2 (Nat.le_refl _)
 have hE1:=hE.later (bN.of_size hb)
 have hE2:jD (fun b=>w0.heap.size+1<b∧b<w.heap.size) (w1.setCell ⟨w0.heap.size,192,none⟩ v) nv s:=hE1.later (fun b _ hb=>Below.heap_setCell _ _ _ _ (by show b≠w0.heap.size;omega))
 refine⟨(h.blk.later hb (by omega)).put _ _,⟨fun i hi=>?_,fun k hk=>?_⟩,?_,?_,hl,?_,?_⟩
 ·refine ((hE2.ent i hi).mono fun b _ hb=>⟨hb.1,fun e=>by have:=hnew b e;omega⟩).same fun j hj=>?_
  ·show (if i*6+j=192 then v else nv (i*6+j))=_
   rw[if_neg (by omega)]
 ·show (if 193+k=192 then v else nv (193+k))=_
  rw[if_neg (by omega)]
  exact hE2.vals k hk
 ·show World.ownsRow _ _ _ _ v _ _
  have:=eG hc.1 (show w0.heap.size+2≤w.heap.size by omega)
  exact dA this (by omega)
 ·intro i hi h6 a cap e
  have e':nv i= .slice a 0 cap:=by
   have:(if i=192 then v else nv i)=nv i:=if_neg (by omega)
   rw[←this];exact e
  exact (h.fresh i (by omega) hi h6).2 a cap e'
 ·exact (h.below.trans (hb.mono (by omega))).setCell (Nat.le_refl _) _
 ·rw[Below.heap_setCell _ _ _ _ (by simp),hb.block _ hlt]
  exact h.res
theorem pW.one {w0:World} {s:aA} {zr:Array Value} {nv:Nat→Value} {w:World} (h:pW w0 s zr nv w):∀i,i<201→(nv i).oneCell'=true:=
 (show bM _ w nv s from ⟨h.node.mono (ok':=fun _=>True) (fun _ _ _=>trivial),(IsI.of_owns h.order h.len).mono (fun _ _ _=>trivial)⟩).one
structure mA (B:Nat) (w:World) (nv:Nat→Value) (s:aA):Prop where
 node:jD (fun b=>B≤b∧(nv 192).ownBlock≠some b) w nv s
 order:w.ownsRow B 3 1 (nv 192) s.order.length (aT s.order)
 hot:∀i,i<192→i % 6≠0→∀a cap,nv i= .slice a 0 cap→cap=0
 len:s.order.length*8≤140737488355328
theorem pW.done {w0:World} {s:aA} {zr:Array Value} {nv:Nat→Value} {w:World} (h:pW w0 s zr nv w) (fr:Array Value):mA w0.heap.size (w.setRow (w0.heap.size+1) fr) nv s∧Below w0.heap.size w0 (w.setRow (w0.heap.size+1) fr):=by
 refine⟨⟨?_,?_,h.hot,h.len⟩,aU h.below (by omega) _⟩
 ·exact (h.node.later (fun b _ hb=>bO _ _ (by omega))).mono (fun b _ hb=>⟨by omega,hb.2⟩)
 ·exact eG (dP h.order (fun k hk=>bO _ _ (by have:=(World.ownsRow.lt h.order k hk).1;omega))) (by omega)
theorem s7 (nv:Nat→Value) (s:aA) (w:World) (h:bM (· <w.heap.size) w nv s):
  Calls Tryz.prog 44 #[.agg (aD 201 nv)] w fun e w'=>∃nv',e= .returned (.agg (aD 201 nv'))∧mA w.heap.size w' nv' s∧Below w.heap.size w w':=by
 obtain⟨gr,hgr⟩:∃gr,gr=aD 201 nv:=⟨_,rfl⟩
 obtain⟨zr,hzr⟩:∃zr,zr=aD 201 zv:=⟨_,rfl⟩
 have hz0:=Tryz.zeroNode
 rw[←hgr]
 rw[←hzr] at hz0
 have H0:Hid (eA w s zr nv 1 ((w.alloc (.cells gr 32)).alloc (.cells zr 32))):=by
  have hb:Below w.heap.size w ((w.alloc (.cells gr 32)).alloc (.cells zr 32)):=((Below.refl _ _).alloc (Nat.le_refl _) _).alloc (by rw[aB];omega) _
  obtain⟨r1,r2⟩:=cT w (.cells gr 32) (.cells zr 32)
  refine⟨⟨32,by rw[←hgr];exact r1⟩,(h.later (bN.of_size hb)).mono (fun b _ (hb:b<w.heap.size)=>by constructor<;>omega),fun i hi _ h6=>?_,hb,r2⟩
  obtain rfl:i=0:=by omega
  exact absurd rfl h6
 have HG:=hI9 hgr
 have HZ:=hI9 hzr
 clear hgr hzr h
 go_enter Tryz.func44,Tryz.ntmps44
 go_wp2_with (first
  | (refine cP rfl 32 rfl zr hz0 ?_)
  | fail)
 go_loopw [5] (fun i wr=>∃(k:Nat) (mv:Nat→Value),k≤32∧i= .int .i64 k∧Hid (eA w s zr mv (k*6+1) wr)) (fun i _=>32-(intOf i).toNat)
 case atStart=>exact⟨0,nv,Nat.zero_le _,rfl,H0⟩
 case round=>
  obtain⟨k,mv,hk,rfl,H⟩:=hrel
  clear H0 hz0
  by_cases hlt:k<32
  ·have n1:(0:Int)≤(k:Int)∧(k:Int)<32:=by omega
   obtain⟨a1,c1,q1,hs1,hl1⟩:=(H.out).getO hlt
   have z1:=H.out.blk.frozen (k*6+1)
   go_wp2_with fail
   refine (gL a1 c1 (s.ent k).ops _ hs1 hl1).mono ?_
   rintro e w1 ⟨v1,rfl,hc1⟩
   obtain⟨b1,d1,rfl,_⟩:=bG hc1.1
   have H1:Hid (eA w s zr _ (k*6+2) (w1.setCell ⟨w.heap.size,k*6+1,none⟩ (.slice b1 (s.ent k).ops.length d1))):=H.out.stepO hlt hc1 hl1
   have y1:w1.cell? ⟨w.heap.size,k*6+1,none⟩=some (.slice a1 (s.ent k).ops.length c1):=by rw[hc1.2.2.cell (p:=⟨w.heap.size,k*6+1,none⟩) (by have:=H.out.lt;show w.heap.size<_;omega)];exact q1
   have x1:w1.frozen? ⟨w.heap.size,k*6+1,none⟩=false:=by rw[hc1.2.2.frozen (p:=⟨w.heap.size,k*6+1,none⟩) (by have:=H.out.lt;show w.heap.size<_;omega)];exact z1
   clear H q1 z1 hc1 hs1 hl1
   go_upto_region 6 with fail
   generalize w1.setCell ⟨w.heap.size,k*6+1,none⟩ (.slice b1 (s.ent k).ops.length d1)=W1 at *
   have H:=H1
   clear H1 y1 x1
   obtain⟨a2,c2,q2,hs2,hl2⟩:=(H.out).getI hlt 2 (by omega) (by omega)
   have z2:=H.out.blk.frozen (k*6+2)
   go_wp2_with fail
   refine (c7 a2 c2 ((s.ent k).nums 2) _ hs2 hl2).mono ?_
   rintro e w2 ⟨v2,rfl,hc2⟩
   obtain⟨b2,d2,rfl,_⟩:=bG hc2.1
   have H2:Hid (eA w s zr _ (k*6+(2+1)) (w2.setCell ⟨w.heap.size,k*6+2,none⟩ (.slice b2 ((s.ent k).nums 2).length d2))):=H.out.stepI hlt (by omega) (by omega) hc2 hl2
   have y2:w2.cell? ⟨w.heap.size,k*6+2,none⟩=some (.slice a2 ((s.ent k).nums 2).length c2):=by rw[hc2.2.2.cell (p:=⟨w.heap.size,k*6+2,none⟩) (by have:=H.out.lt;show w.heap.size<_;omega)];exact q2
   have x2:w2.frozen? ⟨w.heap.size,k*6+2,none⟩=false:=by rw[hc2.2.2.frozen (p:=⟨w.heap.size,k*6+2,none⟩) (by have:=H.out.lt;show w.heap.size<_;omega)];exact z2
   clear H q2 z2 hc2 hs2 hl2
   go_upto_region 7 with fail
   generalize w2.setCell ⟨w.heap.size,k*6+2,none⟩ (.slice b2 ((s.ent k).nums 2).length d2)=W2 at *
   have H:=H2
   clear H2 y2 x2
   obtain⟨a3,c3,q3,hs3,hl3⟩:=(H.out).getI hlt 3 (by omega) (by omega)
   have z3:=H.out.blk.frozen (k*6+3)
   go_wp2_with fail
   refine (c7 a3 c3 ((s.ent k).nums 3) _ hs3 hl3).mono ?_
   rintro e w3 ⟨v3,rfl,hc3⟩
   obtain⟨b3,d3,rfl,_⟩:=bG hc3.1
   have H3:Hid (eA w s zr _ (k*6+(3+1)) (w3.setCell ⟨w.heap.size,k*6+3,none⟩ (.slice b3 ((s.ent k).nums 3).length d3))):=H.out.stepI hlt (by omega) (by omega) hc3 hl3
   have y3:w3.cell? ⟨w.heap.size,k*6+3,none⟩=some (.slice a3 ((s.ent k).nums 3).length c3):=by rw[hc3.2.2.cell (p:=⟨w.heap.size,k*6+3,none⟩) (by have:=H.out.lt;show w.heap.size<_;omega)];exact q3
   have x3:w3.frozen? ⟨w.heap.size,k*6+3,none⟩=false:=by rw[hc3.2.2.frozen (p:=⟨w.heap.size,k*6+3,none⟩) (by have:=H.out.lt;show w.heap.size<_;omega)];exact z3
   clear H q3 z3 hc3 hs3 hl3
   go_upto_region 8 with fail
   generalize w3.setCell ⟨w.heap.size,k*6+3,none⟩ (.slice b3 ((s.ent k).nums 3).length d3)=W3 at *
   have H:=H3
   clear H3 y3 x3
   obtain⟨a4,c4,q4,hs4,hl4⟩:=(H.out).getI hlt 4 (by omega) (by omega)
   have z4:=H.out.blk.frozen (k*6+4)
   go_wp2_with fail
   refine (c7 a4 c4 ((s.ent k).nums 4) _ hs4 hl4).mono ?_
   rintro e w4 ⟨v4,rfl,hc4⟩
   obtain⟨b4,d4,rfl,_⟩:=bG hc4.1
   have H4:Hid (eA w s zr _ (k*6+(4+1)) (w4.setCell ⟨w.heap.size,k*6+4,none⟩ (.slice b4 ((s.ent k).nums 4).length d4))):=H.out.stepI hlt (by omega) (by omega) hc4 hl4
   have y4:w4.cell? ⟨w.heap.size,k*6+4,none⟩=some (.slice a4 ((s.ent k).nums 4).length c4):=by rw[hc4.2.2.cell (p:=⟨w.heap.size,k*6+4,none⟩) (by have:=H.out.lt;show w.heap.size<_;omega)];exact q4
   have x4:w4.frozen? ⟨w.heap.size,k*6+4,none⟩=false:=by rw[hc4.2.2.frozen (p:=⟨w.heap.size,k*6+4,none⟩) (by have:=H.out.lt;show w.heap.size<_;omega)];exact z4
   clear H q4 z4 hc4 hs4 hl4
   go_upto_region 9 with fail
   generalize w4.setCell ⟨w.heap.size,k*6+4,none⟩ (.slice b4 ((s.ent k).nums 4).length d4)=W4 at *
   have H:=H4
   clear H4 y4 x4
   obtain⟨a5,c5,q5,hs5,hl5⟩:=(H.out).getI hlt 5 (by omega) (by omega)
   have z5:=H.out.blk.frozen (k*6+5)
   go_wp2_with fail
   refine (c7 a5 c5 ((s.ent k).nums 5) _ hs5 hl5).mono ?_
   rintro e w5 ⟨v5,rfl,hc5⟩
   obtain⟨b5,d5,rfl,_⟩:=bG hc5.1
   have H5:Hid (eA w s zr _ (k*6+(5+1)) (w5.setCell ⟨w.heap.size,k*6+5,none⟩ (.slice b5 ((s.ent k).nums 5).length d5))):=H.out.stepI hlt (by omega) (by omega) hc5 hl5
   have y5:w5.cell? ⟨w.heap.size,k*6+5,none⟩=some (.slice a5 ((s.ent k).nums 5).length c5):=by rw[hc5.2.2.cell (p:=⟨w.heap.size,k*6+5,none⟩) (by have:=H.out.lt;show w.heap.size<_;omega)];exact q5
   have x5:w5.frozen? ⟨w.heap.size,k*6+5,none⟩=false:=by rw[hc5.2.2.frozen (p:=⟨w.heap.size,k*6+5,none⟩) (by have:=H.out.lt;show w.heap.size<_;omega)];exact z5
   clear H q5 z5 hc5 hs5 hl5
   go_wp2
   go_roundw
   case rel=>exact⟨k+1,_,by omega,by go_num,H5.out.next⟩
   case measure=>simp[intOf];omega
  ·obtain rfl:k=32:=by omega
   obtain⟨ao,co,eo,hso⟩:=H.out.node.order.sl
   have hlo:s.order.length*8≤140737488355328:=by
    obtain⟨_,_,_,_,hl,_⟩:=H.out.node.order
    exact hl
   have qo:wr.cell? ⟨w.heap.size,192,none⟩=some (.slice ao s.order.length co):=by rw[H.out.blk.cell (by omega),eo]
   have zo:=H.out.blk.frozen 192
   clear eo
   go_wp2_with fail
   refine (c7 ao co s.order _ hso hlo).mono ?_
   rintro e w1 ⟨v1,rfl,hc1⟩
   obtain⟨b1,d1,rfl,_⟩:=bG hc1.1
   have y1:w1.cell? ⟨w.heap.size,192,none⟩=some (.slice ao s.order.length co):=by rw[hc1.2.2.cell (p:=⟨w.heap.size,192,none⟩) (by have:=H.out.lt;show w.heap.size<_;omega)];exact qo
   have x1:w1.frozen? ⟨w.heap.size,192,none⟩=false:=by rw[hc1.2.2.frozen (p:=⟨w.heap.size,192,none⟩) (by have:=H.out.lt;show w.heap.size<_;omega)];exact zo
   obtain⟨fv,hfv⟩:∃fv,fv=fun i=>if i=192 then Value.slice b1 s.order.length d1 else mv i:=⟨_,rfl⟩
   have HF:Hid (pW w s zr fv (w1.setCell ⟨w.heap.size,192,none⟩ (.slice b1 s.order.length d1))):=by rw[hfv];exact H.out.fin hc1 hlo
   clear H qo zo hso hfv hc1
   go_upto_region 12 with fail
   generalize w1.setCell ⟨w.heap.size,192,none⟩ (.slice b1 s.order.length d1)=W1 at *
   obtain⟨t,hblk⟩:=HF.out.blk
   have hres:=HF.out.res
   obtain⟨fr,hfr⟩:∃fr,fr=aD 201 fv:=⟨_,rfl⟩
   have hsize:(Tryz.prog.info? 32).map (·.size)=some fr.size:=by rw[hfr,aG];exact Tryz.infoNode
   have hzs:zr.size=fr.size:=by rw[hfr,HZ.out,aG,aG]
   have hone:fr.all (·.oneCell')=true:=by rw[hfr];exact cK HF.out.one
   rw[←hfr] at hblk
   have HFR:Hid (fr=aD 201 fv):=hfr
   have HW:Hid (mA w.heap.size (W1.setRow (w.heap.size+1) fr) fv s∧Below w.heap.size w (W1.setRow (w.heap.size+1) fr)):=HF.out.done fr
   clear hfr HF y1 x1
   go_wp2_with (first
    | (refine wpList_load_row rfl 32 _ rfl w.heap.size rfl t fr (0,0) _ hblk Tryz.underlying32 rfl hsize ?_)
    | (refine wpList_store_row rfl 32 _ _ rfl (w.heap.size+1) fr rfl rfl 32 _ hres hsize hzs hone ?_))
   refine bodyPost_ret (v:= .agg fr) (results_cell_row Tryz.results44 _ _ (w.heap.size+1) 32 _ (0,0) _ rfl (aH hres) Tryz.underlying32 rfl hsize) rfl ⟨fv,by rw[HFR.out],HW.out⟩
end Go.Proofs.YtkoefoccbjhoiacGreat
