/-
squeezed by tools/squeeze.py from: RSame RNSame IsOps RZero
-/
import Derived.Test.YtkoefoccbjhoiabNrp13
import Derived.Test.YtkoefoccbjhoiabNrp16
import Derived.Test.YtkoefoccbjhoiabNrp2
import Derived.Test.YtkoefoccbjhoiabNrp3
set_option linter.unusedVariables false
set_option linter.unusedSimpArgs false
set_option maxRecDepth 100000
set_option maxHeartbeats 4000000
namespace Go.Proofs.Ytkoefoccbjhoiab
open Go.RowKit
theorem jL (a:Option Addr) (cap:Nat) (zs:List OpL) (a':Option Addr) (cap':Nat) (w:World) (hl:zs.length≤maxLen) (hz:cW w a zs) (hy:cW w a' zs):
  Calls Try.prog 82 #[.slice a zs.length cap,.slice a' zs.length cap'] w fun e w'=>e= .returned (.bool true)∧Below w.heap.size w w':=by
 unfold maxLen at hl
 have hne:((zs.length:Int) !=(zs.length:Int))=false:=by simp
 rcases hz with rfl | ⟨b,off,rfl,hb,hc⟩
 ·go_enter Try.func82,Try.ntmps82
  go_wp2
  refine wp_loop_rounds 1 ?_;rw[rounds_succ]
  go_wp2
  go_ret
  exact⟨rfl,Below.refl _ _⟩
 rcases hy with rfl | ⟨b',off',rfl,hb',hc'⟩
 ·go_enter Try.func82,Try.ntmps82
  go_wp2
  refine wp_loop_rounds 1 ?_;rw[rounds_succ]
  go_wp2
  go_ret
  exact⟨rfl,Below.refl _ _⟩
 go_enter Try.func82,Try.ntmps82
 go_wp2
 go_loopw [13] (fun i wr=>∃k:Nat,k≤zs.length∧i= .int .i64 k∧Below w.heap.size w wr) (fun i _=>zs.length-(intOf i).toNat)
 case atStart=>exact⟨0,Nat.zero_le _,rfl,Below.refl _ _⟩
 case round=>
  obtain⟨k,hk,rfl,hB⟩:=hrel
  by_cases hlt:k<zs.length
  ·obtain⟨q0,q1,q2,Hq,e0,e1,e2⟩:=cW.at hc hb hB hlt
   obtain⟨p0,p1,p2,Hp,f0,f1,f2⟩:=cW.at hc' hb' hB hlt
   have hh:(q0,q1,q2)=(p0,p1,p2):=Hq.out.symm.trans Hp.out
   simp at hh
   obtain⟨rfl,rfl,rfl⟩:=hh
   have hi:(k:Int)<(zs.length:Int):=by omega
   clear hc hc'
   go_wp2
   go_quiet (fail)
   go_wp2
   go_roundw
   case rel=>exact⟨k+1,by omega,by go_num,below_drewN hB _⟩
   case measure=>simp[intOf];omega
  ·go_wp2
   go_ret
   exact⟨rfl,hB⟩
theorem wY (v v':Value) (f:bC) (w:World) (hv:bM w v f) (hv':bM w v' f):
  Calls Try.prog 29 #[v,v'] w fun e w'=>e= .returned (.bool true)∧Below w.heap.size w w':=by
 obtain⟨a3,c3,a4,c4,a5,c5,a6,c6,rfl,h3,h4,h5,h6⟩:=hv
 obtain⟨b3,d3,b4,d4,b5,d5,b6,d6,rfl,k3,k4,k5,k6⟩:=hv'
 obtain⟨kind,node,id,ops,deps,ats,vals⟩:=f
 simp only at *
 have tk:(kind == kind)=true:=by simp
 have tn:(node == node)=true:=by simp
 have ti:(id == id)=true:=by simp
 go_enter Try.func29,Try.ntmps29
 go_wp2_with fail
 obtain⟨W,hW⟩:∃W,W=(w.alloc (.cells #[.int .i64 kind,.int .i64 node,.int .i64 id,.slice a3 ops.length c3,.slice a4 deps.length c4,.slice a5 ats.length c5,.slice a6 vals.length c6] 43)).alloc (.cells #[.int .i64 kind,.int .i64 node,.int .i64 id,.slice b3 ops.length d3,.slice b4 deps.length d4,.slice b5 ats.length d5,.slice b6 vals.length d6] 43):=⟨_,rfl⟩
 have hf1:FAt W w.heap.size kind node id (.slice a3 ops.length c3) (.slice a4 deps.length c4) (.slice a5 ats.length c5) (.slice a6 vals.length c6):=by rw[hW];exact⟨43,by rw[Below.heap_alloc _ _ _ (by rw[bT];omega),aH]⟩
 have hg1:FAt W (w.heap.size+1) kind node id (.slice b3 ops.length d3) (.slice b4 deps.length d4) (.slice b5 ats.length d5) (.slice b6 vals.length d6):=by rw[hW];exact⟨43,m5 _ _ _⟩
 have hb1:Below w.heap.size w W:=by rw[hW];exact ((Below.refl _ w).alloc (Nat.le_refl _) _).alloc (by rw[bT];omega) _
 rw[←hW]
 clear hW
 refine (jL a3 c3 ops b3 d3 _ h3.2.1 (h3.later hb1).1 (k3.later hb1).1).mono ?_
 rintro e w1 ⟨rfl,hc⟩
 have hb2:=hb1.trans (hc.mono hb1.size)
 have hf2:=hf1.block (hc.block _ hf1.lt)
 have hg2:=hg1.block (hc.block _ hg1.lt)
 clear hc hf1 hg1 hb1
 have x4:=hf2.cell.2.2.2.2.1
 have y4:=hg2.cell.2.2.2.2.1
 go_wp2_with fail
 refine (dK a4 c4 deps b4 d4 _ h4.2.1 (h4.later hb2).1 (k4.later hb2).1).mono ?_
 rintro e w2 ⟨rfl,hc⟩
 have hb3:=hb2.trans (hc.mono hb2.size)
 have hf3:=hf2.block (hc.block _ hf2.lt)
 have hg3:=hg2.block (hc.block _ hg2.lt)
 clear hc hf2 hg2 hb2 x4 y4
 have x5:=hf3.cell.2.2.2.2.2.1
 have y5:=hg3.cell.2.2.2.2.2.1
 go_wp2_with fail
 refine (dK a5 c5 ats b5 d5 _ h5.2.1 (h5.later hb3).1 (k5.later hb3).1).mono ?_
 rintro e w3 ⟨rfl,hc⟩
 have hb4:=hb3.trans (hc.mono hb3.size)
 have hf4:=hf3.block (hc.block _ hf3.lt)
 have hg4:=hg3.block (hc.block _ hg3.lt)
 clear hc hf3 hg3 hb3 x5 y5
 have x6:=hf4.cell.2.2.2.2.2.2
 have y6:=hg4.cell.2.2.2.2.2.2
 go_wp2_with fail
 refine (dK a6 c6 vals b6 d6 _ h6.2.1 (h6.later hb4).1 (k6.later hb4).1).mono ?_
 rintro e w4 ⟨rfl,hc⟩
 have hb5:=hb4.trans (hc.mono hb4.size)
 clear hc hf4 hg4 hb4 x6 y6
 go_wp2
 go_ret
 exact⟨rfl,hb5⟩
theorem gZ (w:World):bM w (.agg #[.int .i64 0,.int .i64 0,.int .i64 0,.slice none 0 0,.slice none 0 0,.slice none 0 0,.slice none 0 0]) iK:=
 ⟨none,0,none,0,none,0,none,0,rfl,⟨Or.inl rfl,Nat.zero_le _,Nat.le_refl _,fun _=>⟨rfl,rfl⟩⟩,⟨Or.inl rfl,Nat.zero_le _,Nat.le_refl _,fun _=>⟨rfl,rfl⟩⟩,⟨Or.inl rfl,Nat.zero_le _,Nat.le_refl _,fun _=>⟨rfl,rfl⟩⟩,⟨Or.inl rfl,Nat.zero_le _,Nat.le_refl _,fun _=>⟨rfl,rfl⟩⟩⟩
theorem lW (w:World):Calls Try.prog 119 #[] w fun e w'=>e= .returned (.tuple #[.agg #[.int .i64 0,.int .i64 0,.int .i64 0,.slice none 0 0,.slice none 0 0,.slice none 0 0,.slice none 0 0],.int .i64 1])∧Below w.heap.size w w':=by
 go_enter Try.func119,Try.ntmps119
 go_wp2
 refine bodyPost_ret (v:= .tuple #[.agg #[.int .i64 0,.int .i64 0,.int .i64 0,.slice none 0 0,.slice none 0 0,.slice none 0 0,.slice none 0 0],.int .i64 1]) (by simp[results,Try.results119,go_sem]) rfl ⟨rfl,?_⟩
 exact (Below.refl _ _).alloc (Nat.le_refl _) _
theorem sB {m:List UInt8} {k:Nat} (h:k<(str m).size):((str m)[k]'h).toNat=bAt m k:=by
 have h':k<m.length:=by rwa [mL] at h
 unfold bAt
 have:(str m)[k]'h=m[k]:=by show m.toArray[k]'(by simpa using h')=_;simp
 rw[this]
 simp[List.getD,h']
theorem xB (l:List UInt8) (p k:Nat):bAt (l.drop p) k=bAt l (p+k):=by
 unfold bAt
 simp[List.getD]
theorem zF:∀k:Nat,k<6→(256:Int) ^ k≤1099511627776:=by decide
theorem nS (l:List UInt8) (p:Nat) (w:World) (hp:p+6≤l.length):
  Calls Try.prog 120 #[.string (str (l.drop p))] w fun e w'=>e= .returned (.int .i64 (pos l p).wide)∧w'=w:=by
 have hsz:=mL (l.drop p)
 rw[List.length_drop] at hsz
 go_enter Try.func120,Try.ntmps120
 go_wp2
 go_loop [3,5] (fun v i=>∃(k:Nat) (n:Int),k≤6∧i= .int .i64 k∧v= .int .i64 n∧0≤n∧n<256 ^ k∧Hid (Rd.num 6 0 (pos l p)=Rd.num (6-k) n (pos l (p+k)))) (fun _ i=>6-(intOf i).toNat)
 case atStart=>exact⟨0,0,by omega,rfl,rfl,by omega,by omega,rfl⟩
 case round=>
  obtain⟨k,n,hk,rfl,rfl,hn0,hn1,H1⟩:=hrel
  by_cases hlt:k<6
  ·have hp2:=zF k hlt
   have hki:(k:Int)<(l.length:Int)-(p:Int):=by omega
   have b1:=kS l (p+k)
   go_wp2
   go_round
   case rel=>
    rw[sB,xB]
    have e1:wrap64 (256*n+wrap64 (bAt l (p+k):Int))=n*256+(bAt l (p+k):Int):=by unfold wrap64;omega
    rw[e1]
    refine⟨k+1,_,by omega,by go_num,rfl,by omega,by rw[Int.pow_succ];omega,?_⟩
    obtain⟨j,hj⟩:∃j,6-k=j+1:=⟨5-k,by omega⟩
    have hj':6-(k+1)=j:=by omega
    unfold Hid at *
    rw[hj',H1,hj]
    show Rd.num j (n*256+(pos l (p+k)).one) (pos l (p+k)).next=_
    rw[gD (by omega),dO (by omega)]
    rfl
   case measure=>simp[intOf];omega
  ·have ek:k=6:=by omega
   subst ek
   have E:Hid (Rd.num 6 0 (pos l p)=n):=H1.out
   go_wp2
   go_ret
   refine⟨bL ?_,rfl⟩
   unfold Rd.wide
   rw[E.out]
theorem qG (v v':Value) (e:cD) (w:World) (h:iU w v e) (h':iU w v' e):
  Calls Try.prog 75 #[v,v'] w fun r w'=>r= .returned (.bool true)∧Below w.heap.size w w':=by
 obtain⟨a1,c1,a2,c2,a3,c3,a4,c4,a5,c5,rfl,x1,x2,x3,x4,x5,_⟩:=h
 obtain⟨a1',c1',a2',c2',a3',c3',a4',c4',a5',c5',rfl,y1,y2,y3,y4,y5,_⟩:=h'
 obtain⟨W,hW⟩:∃W,W=(w.alloc (.cells #[.int .i64 e.state,.slice a1 e.ops.length c1,.slice a2 e.first.length c2,.slice a3 e.deps.length c3,.slice a4 e.ats.length c4,.slice a5 e.vals.length c5] 37)).alloc (.cells #[.int .i64 e.state,.slice a1' e.ops.length c1',.slice a2' e.first.length c2',.slice a3' e.deps.length c3',.slice a4' e.ats.length c4',.slice a5' e.vals.length c5'] 37):=⟨_,rfl⟩
 obtain⟨r0,r1⟩:=eY w (.cells #[.int .i64 e.state,.slice a1 e.ops.length c1,.slice a2 e.first.length c2,.slice a3 e.deps.length c3,.slice a4 e.ats.length c4,.slice a5 e.vals.length c5] 37) (.cells #[.int .i64 e.state,.slice a1' e.ops.length c1',.slice a2' e.first.length c2',.slice a3' e.deps.length c3',.slice a4' e.ats.length c4',.slice a5' e.vals.length c5'] 37)
 rw[←hW] at r0 r1
 have hb:Below w.heap.size w W:=by rw[hW];exact ((Below.refl _ _).alloc (Nat.le_refl _) _).alloc (by rw[aB];omega) _
 have hzW:W.heap.size=w.heap.size+2:=by rw[hW,aB,aB]
 have es:(e.state == e.state)=true:=by simp
 have HW:Hid (W=(w.alloc (.cells #[.int .i64 e.state,.slice a1 e.ops.length c1,.slice a2 e.first.length c2,.slice a3 e.deps.length c3,.slice a4 e.ats.length c4,.slice a5 e.vals.length c5] 37)).alloc (.cells #[.int .i64 e.state,.slice a1' e.ops.length c1',.slice a2' e.first.length c2',.slice a3' e.deps.length c3',.slice a4' e.ats.length c4',.slice a5' e.vals.length c5'] 37)):=hW
 have KC:Hid (∀wx,Below W.heap.size W wx→(wx.heap[w.heap.size]? =some (.cells #[.int .i64 e.state,.slice a1 e.ops.length c1,.slice a2 e.first.length c2,.slice a3 e.deps.length c3,.slice a4 e.ats.length c4,.slice a5 e.vals.length c5] 37 (0,0))∧wx.heap[w.heap.size+1]? =some (.cells #[.int .i64 e.state,.slice a1' e.ops.length c1',.slice a2' e.first.length c2',.slice a3' e.deps.length c3',.slice a4' e.ats.length c4',.slice a5' e.vals.length c5'] 37 (0,0)))):=fun wx hx=>⟨by rw[hx.block _ (by omega)];exact r0,by rw[hx.block _ (by omega)];exact r1⟩
 clear hW r0 r1
 go_enter Try.func75,Try.ntmps75
 go_upto_region 1 with fail
 rw[←HW.out]
 clear HW
 obtain⟨r0,r1⟩:=KC.out W (Below.refl _ _)
 have p0:W.cell? ⟨w.heap.size,0,none⟩=some (.int .i64 e.state):=by rw[cell_of_row _ _ _ _ _ _ r0];rfl
 have p1:W.cell? ⟨w.heap.size+1,0,none⟩=some (.int .i64 e.state):=by rw[cell_of_row _ _ _ _ _ _ r1];rfl
 have q1:W.cell? ⟨w.heap.size,1,none⟩=some (.slice a1 e.ops.length c1):=by rw[cell_of_row _ _ _ _ _ _ r0];rfl
 have z1:W.cell? ⟨w.heap.size+1,1,none⟩=some (.slice a1' e.ops.length c1'):=by rw[cell_of_row _ _ _ _ _ _ r1];rfl
 clear r0 r1
 go_wp2_with fail
 refine (jL a1 c1 e.ops a1' c1' W x1.2.1 (x1.later hb).1 (y1.later hb).1).mono ?_
 rintro r w1 ⟨rfl,hx1⟩
 have hb1:Below W.heap.size W w1:=hx1
 have hw1:Below w.heap.size w w1:=hb.trans (hb1.mono (by omega))
 obtain⟨r0,r1⟩:=KC.out w1 hb1
 clear hx1 q1 z1
 have q2:w1.cell? ⟨w.heap.size,2,none⟩=some (.slice a2 e.first.length c2):=by rw[cell_of_row _ _ _ _ _ _ r0];rfl
 have z2:w1.cell? ⟨w.heap.size+1,2,none⟩=some (.slice a2' e.first.length c2'):=by rw[cell_of_row _ _ _ _ _ _ r1];rfl
 clear r0 r1
 go_wp2_with fail
 refine (dK a2 c2 e.first a2' c2' w1 x2.2.1 (x2.later hw1).1 (y2.later hw1).1).mono ?_
 rintro r w2 ⟨rfl,hx2⟩
 have hb2:Below W.heap.size W w2:=hb1.trans (hx2.mono hb1.size)
 have hw2:Below w.heap.size w w2:=hb.trans (hb2.mono (by omega))
 obtain⟨r0,r1⟩:=KC.out w2 hb2
 clear hx2 q2 z2
 have q3:w2.cell? ⟨w.heap.size,3,none⟩=some (.slice a3 e.deps.length c3):=by rw[cell_of_row _ _ _ _ _ _ r0];rfl
 have z3:w2.cell? ⟨w.heap.size+1,3,none⟩=some (.slice a3' e.deps.length c3'):=by rw[cell_of_row _ _ _ _ _ _ r1];rfl
 clear r0 r1
 go_wp2_with fail
 refine (dK a3 c3 e.deps a3' c3' w2 x3.2.1 (x3.later hw2).1 (y3.later hw2).1).mono ?_
 rintro r w3 ⟨rfl,hx3⟩
 have hb3:Below W.heap.size W w3:=hb2.trans (hx3.mono hb2.size)
 have hw3:Below w.heap.size w w3:=hb.trans (hb3.mono (by omega))
 obtain⟨r0,r1⟩:=KC.out w3 hb3
 clear hx3 q3 z3
 have q4:w3.cell? ⟨w.heap.size,4,none⟩=some (.slice a4 e.ats.length c4):=by rw[cell_of_row _ _ _ _ _ _ r0];rfl
 have z4:w3.cell? ⟨w.heap.size+1,4,none⟩=some (.slice a4' e.ats.length c4'):=by rw[cell_of_row _ _ _ _ _ _ r1];rfl
 clear r0 r1
 go_wp2_with fail
 refine (dK a4 c4 e.ats a4' c4' w3 x4.2.1 (x4.later hw3).1 (y4.later hw3).1).mono ?_
 rintro r w4 ⟨rfl,hx4⟩
 have hb4:Below W.heap.size W w4:=hb3.trans (hx4.mono hb3.size)
 have hw4:Below w.heap.size w w4:=hb.trans (hb4.mono (by omega))
 obtain⟨r0,r1⟩:=KC.out w4 hb4
 clear hx4 q4 z4
 have q5:w4.cell? ⟨w.heap.size,5,none⟩=some (.slice a5 e.vals.length c5):=by rw[cell_of_row _ _ _ _ _ _ r0];rfl
 have z5:w4.cell? ⟨w.heap.size+1,5,none⟩=some (.slice a5' e.vals.length c5'):=by rw[cell_of_row _ _ _ _ _ _ r1];rfl
 clear r0 r1
 go_wp2_with fail
 refine (dK a5 c5 e.vals a5' c5' w4 x5.2.1 (x5.later hw4).1 (y5.later hw4).1).mono ?_
 rintro r w5 ⟨rfl,hx5⟩
 have hb5:Below W.heap.size W w5:=hb4.trans (hx5.mono hb4.size)
 have hw5:Below w.heap.size w w5:=hb.trans (hb5.mono (by omega))
 obtain⟨r0,r1⟩:=KC.out w5 hb5
 clear hx5 q5 z5
 clear r0 r1
 go_wp2
 go_ret
 exact⟨rfl,hw5⟩
theorem rR (nv nv':Nat→Value) (s:aC) (w:World) (h:aJ (· <w.heap.size) w nv s) (h':aJ (· <w.heap.size) w nv' s):
  Calls Try.prog 25 #[.agg (aD 201 nv),.agg (aD 201 nv')] w fun r w'=>r= .returned (.bool true)∧Below w.heap.size w w':=by
 obtain⟨ga,hga⟩:∃ga,ga=aD 201 nv:=⟨_,rfl⟩
 obtain⟨gb,hgb⟩:∃gb,gb=aD 201 nv':=⟨_,rfl⟩
 rw[←hga,←hgb]
 obtain⟨W,hW⟩:∃W,W=(w.alloc (.cells ga 41)).alloc (.cells gb 41):=⟨_,rfl⟩
 obtain⟨r0,r1⟩:=eY w (.cells ga 41) (.cells gb 41)
 rw[←hW] at r0 r1
 have hb:Below w.heap.size w W:=by rw[hW];exact ((Below.refl _ _).alloc (Nat.le_refl _) _).alloc (by rw[aB];omega) _
 have hzW:W.heap.size=w.heap.size+2:=by rw[hW,aB,aB]
 have HBa:Hid (aO 201 W w.heap.size nv):=⟨_,by rw[←hga];exact r0⟩
 have HBb:Hid (aO 201 W (w.heap.size+1) nv'):=⟨_,by rw[←hgb];exact r1⟩
 have HN:Hid (aJ (· <w.heap.size) w nv s):=h
 have HN':Hid (aJ (· <w.heap.size) w nv' s):=h'
 have HW:Hid (W=(w.alloc (.cells ga 41)).alloc (.cells gb 41)):=hW
 clear hW r0 r1 h h' hga hgb
 go_enter Try.func25,Try.ntmps25
 go_upto_region 1 with fail
 rw[←HW.out]
 clear HW
 go_wp2_with fail
 go_loopw [6] (fun i wr=>∃k:Nat,k≤32∧i= .int .i64 k∧Below W.heap.size W wr) (fun i _=>32-(intOf i).toNat)
 case atStart=>exact⟨0,Nat.zero_le _,rfl,Below.refl _ _⟩
 case round=>
  obtain⟨k,hk,rfl,hB⟩:=hrel
  have hbw:Below w.heap.size w wr:=hb.trans (hB.mono (by omega))
  have hsz:=hB.size
  have HBar:Hid (aO 201 wr w.heap.size nv):=HBa.out.later hB (by omega)
  have HBbr:Hid (aO 201 wr (w.heap.size+1) nv'):=HBb.out.later hB (by omega)
  by_cases hlt:k<32
  ·have n1:(0:Int)≤(k:Int)∧(k:Int)<32:=by omega
   obtain⟨ca,hca⟩:∃ca,ca=(gF nv (k*6)).toList:=⟨_,rfl⟩
   obtain⟨cb,hcb⟩:∃cb,cb=(gF nv' (k*6)).toList:=⟨_,rfl⟩
   have ra:wr.rangeAt w.heap.size (k*6) ca:=by
    rw[hca]
    exact aO.range HBar.out (o:=k*6) (n:=6) (by omega)
   have rb:wr.rangeAt (w.heap.size+1) (k*6) cb:=by
    rw[hcb]
    exact aO.range HBbr.out (o:=k*6) (n:=6) (by omega)
   have hsa:(Try.prog.info? 37).map (·.size)=some ca.length:=by rw[hca];exact Try.infoEntry
   have hsb:(Try.prog.info? 37).map (·.size)=some cb.length:=by rw[hcb];exact Try.infoEntry
   have HVa:Hid (iU w (.agg ca.toArray) (s.ent k)):=by rw[hca];exact (HN.out.es.ent k hlt).v
   have HVb:Hid (iU w (.agg cb.toArray) (s.ent k)):=by rw[hcb];exact (HN'.out.es.ent k hlt).v
   clear hca hcb
   go_wp2_with fail
   have HRa:Hid (∀wx,Below wr.heap.size wr wx→wx.rangeAt w.heap.size (k*6) ca):=fun wx hx=>fV ra hx (by omega)
   have HRb:Hid (∀wx,Below wr.heap.size wr wx→wx.rangeAt (w.heap.size+1) (k*6) cb):=fun wx hx=>fV rb hx (by omega)
   clear ra rb
   refine wp_region_held_drew (S:=fun w'=>Below wr.heap.size wr w') (by kernel_rfl) ((Below.refl _ _).drew) ?_
   intro hH
   refine tkH 0 9 (.int .i64 k) hH ?_
   simp only[Act.put,sA,sZ,sS]
   refine tkH 1 10 (.pointer (some ⟨w.heap.size,0,none⟩)) hH ?_
   simp only[Act.put,sA,sZ,sS]
   refine tkH 2 11 (.pointer (some ⟨w.heap.size,k*6,none⟩)) hH ?_
   simp only[Act.put,sA,sZ,sS]
   refine tkH 3 12 (.agg ca.toArray) hH ?_ (hy:=yieldsIf_load_mid (by rfl) _ _ rfl _ _ rfl ca _ (HRa.out) Try.underlying37 rfl hsa)
   simp only[Act.put,sA,sZ,sS]
   refine tkH 4 13 (.int .i64 k) hH ?_
   simp only[Act.put,sA,sZ,sS]
   refine tkH 5 14 (.pointer (some ⟨w.heap.size+1,0,none⟩)) hH ?_
   simp only[Act.put,sA,sZ,sS]
   refine tkH 6 15 (.pointer (some ⟨w.heap.size+1,k*6,none⟩)) hH ?_
   simp only[Act.put,sA,sZ,sS]
   refine tkH 7 16 (.agg cb.toArray) hH ?_ (hy:=yieldsIf_load_mid (by rfl) _ _ rfl _ _ rfl cb _ (HRb.out) Try.underlying37 rfl hsb)
   simp only[Act.put,sA,sZ,sS]
   refine wpAnyH_ready (rs:=[8]) (by kernel_rfl) (by simp) ?_
   refine AllReadyH.cons rfl (fun K hK=>?_) AllReadyH.nil
   go_simp
   refine (qG _ _ (s.ent k) _ (HVa.out.later (hbw.drew)) (HVb.out.later (hbw.drew))).mono ?_
   rintro r x2 ⟨rfl,hb2⟩
   go_wp2_with fail
   refine hK.out _ _ (hH.trans hb2) (fun hH2=>?_)
   clear hK K hH
   have hH:=hH2
   clear hH2 hb2
   refine tkH 9 18 (.bool false) hH ?_
   simp only[Act.put,sA,sZ,sS]
   refine wpAnyH_done (by kernel_rfl) ?_ _
   have hB2:Below W.heap.size W x2:=hB.trans (hH.mono (by omega))
   clear hH
   go_wp2
   go_roundw
   case rel=>exact⟨k+1,by omega,by go_num,hB2⟩
   case measure=>simp[intOf];omega
  ·obtain⟨ao,co,eo,ho⟩:=HN.out.order.sl
   obtain⟨ap,cp,ep,hp⟩:=HN'.out.order.sl
   have q0:wr.cell? ⟨w.heap.size,192,none⟩=some (.slice ao s.order.length co):=by rw[HBar.out.cell (by omega),eo]
   have q1:wr.cell? ⟨w.heap.size+1,192,none⟩=some (.slice ap s.order.length cp):=by rw[HBbr.out.cell (by omega),ep]
   clear eo ep
   go_wp2_with fail
   refine (dK ao co s.order ap cp wr ho.2.1 (ho.later hbw).1 (hp.later hbw).1).mono ?_
   rintro r x1 ⟨rfl,hb1⟩
   have hbx:Below w.heap.size w x1:=hbw.trans (hb1.mono (by omega))
   obtain⟨vr,hvr⟩:∃vr,vr=(aD 8 fun i=> .int .i64 (s.vals i)).toList:=⟨_,rfl⟩
   have ra:x1.rangeAt w.heap.size 193 vr:=by
    rw[hvr]
    refine fV (w:=wr) ?_ hb1 (by omega)
    have:=aO.range HBar.out (o:=193) (n:=8) (by omega)
    have e:(List.range 8).map (fun i=>nv (193+i))=(aD 8 fun i=> .int .i64 (s.vals i)).toList:=by
     unfold aD
     exact List.map_congr_left fun i hi=>HN.out.es.vals i (List.mem_range.1 hi)
    rw[←e];exact this
   have rb:x1.rangeAt (w.heap.size+1) 193 vr:=by
    rw[hvr]
    refine fV (w:=wr) ?_ hb1 (by omega)
    have:=aO.range HBbr.out (o:=193) (n:=8) (by omega)
    have e:(List.range 8).map (fun i=>nv' (193+i))=(aD 8 fun i=> .int .i64 (s.vals i)).toList:=by
     unfold aD
     exact List.map_congr_left fun i hi=>HN'.out.es.vals i (List.mem_range.1 hi)
    rw[←e];exact this
   have hsv:(Try.prog.info? 39).map (·.size)=some vr.length:=by rw[hvr,fW];exact Try.infoVals
   have hg:=Try.valsGuard
   have he:=fun w=>oZ 9998 Try.underlying39 Try.underlying3 Try.infoInt1 s.vals w
   have hva:vr.toArray=aD 8 fun i=> .int .i64 (s.vals i):=by rw[hvr]
   rw[←hva] at he
   clear hvr hva hb1 q0 q1
   go_wp2_with (first
    | (refine iT (by rfl) fun K hK=>?_;refine wp_load_mid 39 _ rfl w.heap.size 193 rfl vr _ ra Try.underlying39 rfl hsv ?_;refine hK _ _ ?_)
    | (refine iT (by rfl) fun K hK=>?_;refine wp_load_mid 39 _ rfl (w.heap.size+1) 193 rfl vr _ rb Try.underlying39 rfl hsv ?_;refine hK _ _ ?_))
   go_ret
   exact⟨rfl,hbx⟩
theorem vU {zs:List OpL} {k:Nat} {q0 q1 q2:Int} (hk:k<zs.length) (hq:zs.getD k (0,0,0)=(q0,q1,q2)) (h:d8 (q0,q1,q2)=false):bK zs=false:=by
 unfold bK
 rw[kI hk (oR hq h),Bool.and_false]
theorem sY {zs:List OpL} {k j:Nat} {q0 q1 q2 p0 p1 p2:Int} (hk:k<zs.length) (hq:zs.getD k (0,0,0)=(q0,q1,q2)) (hj:j<k) (hp:zs.getD j (0,0,0)=(p0,p1,p2)) (h:(p1 == q1)=true):bK zs=false:=by
 have:eB zs k=false:=by
  unfold eB
  rw[hq]
  have:(zs.take k).any (m7 q1)=true:=by
   refine List.any_eq_true.2 ⟨(p0,p1,p2),?_,h⟩
   have hg:zs[j]'(by omega)=(p0,p1,p2):=by rw[←hp];simp[List.getD,show j<zs.length by omega]
   rw[←hg]
   exact List.mem_take_iff_getElem.2 ⟨j,by omega,rfl⟩
  simp[this]
 unfold bK
 rw[kI hk this,Bool.and_false]
theorem xO {q0 q1 q2:Int} (h:d8 (q0,q1,q2)=false) (c1:¬ q0<1) (c2:¬ 3<q0) (c3:¬ q1<0) (c4:¬ 7<q1) (c5:¬ 1099511627776<q2) (c6:¬ q2 < -1099511627776):(q0 == 1)=true∧(q2 !=0)=true:=by
 have D:=of_decide_eq_false h
 simp only at D
 have e:q0=1:=by omega
 have e2:q2≠0:=by omega
 simp[e,e2]
theorem vP {q0 q1 q2:Int} (h:d8 (q0,q1,q2)=true):¬ q0<1∧¬ 3<q0∧¬ q1<0∧¬ 7<q1∧¬ 1099511627776<q2∧¬ q2 < -1099511627776∧((q0 == 1)=true∧(q2 !=0)=false∨(q0 == 1)=false):=by
 have D:=of_decide_eq_true h
 simp only at D
 refine⟨by omega,by omega,by omega,by omega,by omega,by omega,?_⟩
 by_cases e:q0=1
 ·have e2:q2=0:=by omega
  left;simp[e,e2]
 ·right;simpa using e
theorem vV {zs:List OpL} {k:Nat} (hk:¬ k<zs.length) (hk':k≤zs.length) (h:(List.range k).all (eB zs)=true):bK zs=decide (1≤zs.length∧zs.length≤4):=by
 have:k=zs.length:=by omega
 subst this
 unfold bK
 rw[h,Bool.and_true]
theorem uL {zs:List OpL} {k j:Nat} {q0 q1 q2:Int} (hq:zs.getD k (0,0,0)=(q0,q1,q2)) (h:d8 (q0,q1,q2)=true) (hj:¬ j<k) (hj':j≤k) (hn:(zs.take j).any (m7 q1)=false) (hall:(List.range k).all (eB zs)=true):(List.range (k+1)).all (eB zs)=true:=by
 have:j=k:=by omega
 subst this
 refine gQ hall ?_
 unfold eB
 rw[hq]
 simp only[h,hn,Bool.not_false,Bool.and_true]
theorem m6 (a:Option Addr) (cap:Nat) (zs:List OpL) (w:World) (hl:zs.length≤maxLen) (hz:cW w a zs) (hcap:zs.length≤cap):
  Calls Try.prog 78 #[.slice a zs.length cap] w fun e w'=>e= .returned (.bool (bK zs))∧Below w.heap.size w w':=by
 unfold maxLen at hl
 rcases hz with rfl | ⟨b,off,rfl,hb,hc⟩
 ·go_enter Try.func78,Try.ntmps78
  go_wp2
  refine wp_loop_rounds 1 ?_;rw[rounds_succ]
  go_wp2
  go_ret
  exact⟨rfl,Below.refl _ _⟩
 go_enter Try.func78,Try.ntmps78
 go_wp2
 go_loopw [9] (fun i wr=>∃k:Nat,k≤zs.length∧i= .int .i64 k∧Hid ((List.range k).all (eB zs)=true)∧Below w.heap.size w wr) (fun i _=>zs.length-(intOf i).toNat)
 case atStart=>exact⟨0,Nat.zero_le _,rfl,rfl,Below.refl _ _⟩
 case round=>
  obtain⟨wo,hwo⟩:∃wo,wo=wr:=⟨_,rfl⟩
  subst hwo
  obtain⟨k,hk,rfl,hall,hBw⟩:=hrel
  have hsz:=hBw.size
  by_cases hlt:k<zs.length
  ·obtain⟨q0,q1,q2,Hq,e0,e1,e2⟩:=cW.at hc hb hBw hlt
   cases tg:d8 (q0,q1,q2)
   ·have N:Hid (bK zs=false):=vU hlt Hq.out tg
    clear hc
    by_cases c1:q0<1
    ·go_wp2
     go_ret
     exact⟨aE N.out.symm,hBw.alloc hsz _⟩
    by_cases c2:3<q0
    ·go_wp2
     go_ret
     exact⟨aE N.out.symm,hBw.alloc hsz _⟩
    by_cases c3:q1<0
    ·go_wp2
     go_ret
     exact⟨aE N.out.symm,hBw.alloc hsz _⟩
    by_cases c4:7<q1
    ·go_wp2
     go_ret
     exact⟨aE N.out.symm,hBw.alloc hsz _⟩
    by_cases c5:1099511627776<q2
    ·go_wp2
     go_ret
     exact⟨aE N.out.symm,hBw.alloc hsz _⟩
    by_cases c6:q2 < -1099511627776
    ·go_wp2
     go_ret
     exact⟨aE N.out.symm,hBw.alloc hsz _⟩
    obtain⟨c7,c8⟩:=xO tg c1 c2 c3 c4 c5 c6
    go_wp2
    go_ret
    exact⟨aE N.out.symm,hBw.alloc hsz _⟩
   ·obtain⟨c1,c2,c3,c4,c5,c6,c7⟩:=vP tg
    have hw:Below w.heap.size w (wo.alloc (.cells #[.int .i64 q0,.int .i64 q1,.int .i64 q2] 108)):=hBw.alloc hsz _
    have TG:Hid (d8 (q0,q1,q2)=true):=tg
    have HC:Hid (∀i,i<zs.length→w.cell? ⟨b,off+i*3,none⟩=some (.int .i64 (zs.getD i (0,0,0)).1)∧w.cell? ⟨b,off+i*3+1,none⟩=some (.int .i64 (zs.getD i (0,0,0)).2.1)∧w.cell? ⟨b,off+i*3+2,none⟩=some (.int .i64 (zs.getD i (0,0,0)).2.2)):=hc
    clear tg hc
    rcases c7 with ⟨c7,c8⟩ | c7
    all_goals
     go_wp2
     go_loopw [56] (fun i wr=>∃j:Nat,j≤k∧i= .int .i64 j∧Hid ((zs.take j).any (m7 q1)=false)∧Below (wo.heap.size+1) (wo.alloc (.cells #[.int .i64 q0,.int .i64 q1,.int .i64 q2] 108)) wr) (fun i _=>k-(intOf i).toNat)
     case atStart=>exact⟨0,Nat.zero_le _,rfl,rfl,Below.refl _ _⟩
     case round=>
      obtain⟨j,hj,rfl,hno,hBx⟩:=hrel
      have hBv:Below w.heap.size w wr:=hw.trans (hBx.mono (by omega))
      have hsx:=hBv.size
      have hsy:wo.heap.size<wr.heap.size:=by have:=hBx.size;simp at this;omega
      by_cases hjt:j<k
      ·obtain⟨p0,p1,p2,Hp,f0,f1,f2⟩:=cW.at HC.out hb hBv (Nat.lt_trans hjt hlt)
       have g1:=hBx.cell (p:=⟨wo.heap.size,1,none⟩) (by simp)
       simp at g1
       clear e0 e1 e2
       cases t1:p1 == q1
       ·go_wp2
        go_roundw
        case rel=>exact⟨j+1,by omega,by go_num,h9 (Nat.lt_trans hjt hlt) Hp.out hno.out t1,hBx.alloc (by omega) _⟩
        case measure=>simp[intOf];omega
       ·have N:Hid (bK zs=false):=sY hlt Hq.out hjt Hp.out t1
        go_wp2
        go_ret
        exact⟨aE N.out.symm,hBv.alloc hsx _⟩
      ·have Y:Hid ((List.range (k+1)).all (eB zs)=true):=uL Hq.out TG.out hjt hj hno.out hall.out
       go_wp2
       go_roundw
       case rel=>exact⟨k+1,by omega,by go_num,Y,hBv⟩
       case measure=>simp[intOf];omega
  ·have N:Hid (bK zs=decide (1≤zs.length∧zs.length≤4)):=vV hlt hk hall.out
   by_cases z1:0<zs.length
   ·by_cases z2:zs.length<5
    ·go_wp2
     go_ret
     exact⟨aE (by rw[N.out,Bool.eq_iff_iff];simp;omega),hBw⟩
    ·go_wp2
     go_ret
     exact⟨aE (by rw[N.out,Bool.eq_iff_iff];simp;omega),hBw⟩
   ·go_wp2
    go_ret
    exact⟨aE (by rw[N.out,Bool.eq_iff_iff];simp;omega),hBw⟩
theorem gR (a:Option Addr) (cap:Nat) (zs:List Int) (w:World) (h:aN w a cap zs):
  Calls Try.prog 35 #[.slice a zs.length cap,.slice none 0 0] w fun e w'=>e= .returned (.bool zs.isEmpty)∧Below w.heap.size w w':=by
 cases zs with
 | nil=>exact dK a cap [] none 0 w h.2.1 h.1 (Or.inl rfl)
 | cons z r=>
  have hl:=h.2.1
  unfold maxLen at hl
  have hne:(((z::r).length:Int) !=0)=true:=by simp;omega
  have E:Hid ((z::r).isEmpty=false):=rfl
  generalize z::r=l at *
  go_enter Try.func35,Try.ntmps35
  go_wp2
  go_ret
  exact⟨aE E.out.symm,Below.refl _ _⟩
theorem r7 (a:Option Addr) (cap:Nat) (zs:List OpL) (w:World) (h:bR w a cap zs):
  Calls Try.prog 82 #[.slice a zs.length cap,.slice none 0 0] w fun e w'=>e= .returned (.bool zs.isEmpty)∧Below w.heap.size w w':=by
 cases zs with
 | nil=>exact jL a cap [] none 0 w h.2.1 h.1 (Or.inl rfl)
 | cons z r=>
  have hl:=h.2.1
  unfold maxLen at hl
  have hne:(((z::r).length:Int) !=0)=true:=by simp;omega
  have E:Hid ((z::r).isEmpty=false):=rfl
  generalize z::r=l at *
  go_enter Try.func82,Try.ntmps82
  go_wp2
  go_ret
  exact⟨aE E.out.symm,Below.refl _ _⟩
end Go.Proofs.Ytkoefoccbjhoiab
