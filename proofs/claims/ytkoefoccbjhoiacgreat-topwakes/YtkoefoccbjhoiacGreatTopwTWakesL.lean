/-
squeezed by tools/squeeze.py from: TWakesL
-/
import Derived.Test.YtkoefoccbjhoiacGreatTopw32
import Derived.Test.YtkoefoccbjhoiacGreatTopwTWakesM
import Derived.Test.YtkoefoccbjhoiacGreatTopw23
set_option linter.unusedVariables false
set_option linter.unusedSimpArgs false
set_option maxRecDepth 100000
set_option maxHeartbeats 4000000
namespace Go.Proofs.YtkoefoccbjhoiacGreat
open Go.RowKit
theorem Tryz.cellsN0:Tryz.zeroCells32=aE 201 zv:=by kernel_rfl
theorem LL (n:Int):∃j:Nat,j<6∧((wrap64 (n.tmod 6+6)).tmod 6)=(j:Int):=by
 have h1:=Int.tmod_lt_of_pos n (b:=6) (by decide)
 have h2: -6<n.tmod 6:=by
  have:=Int.lt_tmod_of_pos n (b:=6) (by decide)
  omega
 have h3:(n.tmod 6+6).tmod 6=(n.tmod 6+6) % 6:=Int.tmod_eq_emod_of_nonneg (by omega)
 have h4:wrap64 (n.tmod 6+6)=n.tmod 6+6:=by unfold wrap64;omega
 rw[h4]
 exact⟨((n.tmod 6+6) % 6).toNat,by omega,by rw[h3];omega⟩
theorem yN (w:World) (p:Nat) (k n m:Int):∃ad cap,(Value.agg #[.int .i64 k,.int .i64 n,.int .i64 m,.slice none 0 0])= .agg #[.int .i64 (⟨k,n,m,[]⟩:eE).kind,.int .i64 (⟨k,n,m,[]⟩:eE).n,.int .i64 (⟨k,n,m,[]⟩:eE).m,.slice ad (⟨k,n,m,[]⟩:eE).ops.length cap]∧bC w ad cap (⟨k,n,m,[]⟩:eE).ops∧∀b off,ad=some ⟨b,off,none⟩→(⟨k,n,m,[]⟩:eE).ops≠[]→b≠p:=
 ⟨none,0,rfl,⟨Or.inl rfl,Nat.zero_le _,Nat.le_refl _,fun _=>⟨rfl,rfl⟩⟩,fun _ _ e=>by cases e⟩
theorem J5 (n:Int) (y z:Value) (w:World):(Instr.field 38 (.agg #[.int .i64 n,y,z]) 0).run Tryz.prog w= .ok (.int .i64 n) w:=by rfl
theorem AS (a:Option Addr) (cap:Nat) (l:List eE) (n:Int) (w:World) (hl:l.length≤maxLen) (hA:jP w.heap.size w a l):
  Calls Tryz.prog 8 #[.slice a l.length cap,.int .i64 n] w fun e w'=>e= .returned (.bool true)∧Below w.heap.size w w':=by
 obtain⟨zn,hzn⟩:∃zn,zn=aE 201 zv:=⟨_,rfl⟩
 have hz1:=Tryz.zeroNode
 rw[←hzn] at hz1
 have hzc:=Tryz.cellsN0
 rw[←hzn] at hzc
 have hzm:zn.size=201:=by rw[hzn,aF]
 have HZN:Hid (zn=aE 201 zv):=hzn
 clear hzn
 go_enter Tryz.func8,Tryz.ntmps8
 go_wp2_with fail
 refine (AD l a cap w hl hA).mono ?_
 rintro e w1 ⟨p,rfl,hpw,⟨cv,hC1⟩,hb1⟩
 obtain⟨N,hN⟩:∃N,N=min l.length 150:=⟨_,rfl⟩
 rw[←hN] at hC1
 have hok:=nQ l N (by omega)
 obtain⟨c,hc⟩:∃c,c=gM l N:=⟨_,rfl⟩
 rw[←hc] at hC1 hok
 have hN1:N≤150:=by omega
 have HOK:Hid (dO c N):=hok
 have HC1:Hid (aC (p < ·) w1 p cv N c):=hC1
 have Hb1:Hid (Below w.heap.size w w1):=hb1
 have hzw1:=hb1.size
 clear hN hc hok hC1 hb1 hA
 obtain⟨j,hj,hjn⟩:=LL n
 have hrc:=J5
 go_upto_region 5 with fail
 try rw[hjn]
 clear hjn
 go_wp2_with fail
 refine (l0 j hj w1 HC1.out).mono ?_
 rintro e w2 ⟨nv,rfl,hnc,hb2⟩
 have hzw2:=hb2.size
 obtain⟨gr,hgr⟩:∃gr,gr=aE 201 nv:=⟨_,rfl⟩
 have gra:gr.all (·.oneCell')=true:=by rw[hgr];exact cA hnc.one
 have gri:(Tryz.prog.info? 32).map (·.size)=some gr.size:=by rw[hgr,aF];exact Tryz.infoNode
 have grz:zn.size=gr.size:=by rw[hgr,hzm,aF]
 have grt:iG Tryz.prog 32 gr.size:=⟨_,Tryz.underlying32,rfl,gri⟩
 rw[←hgr]
 have grZ:(w2.alloc (.cells zn 32)).heap[w2.heap.size]? =some (.cells zn 32 (0,0)):=aI _ _
 obtain⟨X,hX⟩:∃X,X=(w2.alloc (.cells zn 32)).setRow w2.heap.size gr:=⟨_,rfl⟩
 have HX:=hI9 hX
 have rX:X.heap[w2.heap.size]? =some (.cells gr 32 (0,0)):=by rw[hX];exact aH grZ
 have hbX2:Below w2.heap.size w2 X:=by rw[hX];exact aS ((Below.refl _ _).alloc (Nat.le_refl _) _) (Nat.le_refl _) _
 have zX:w2.heap.size<X.heap.size:=(Array.getElem?_eq_some_iff.1 rX).1
 have hbX:Below w1.heap.size w1 X:=hb2.trans (hbX2.mono hzw2)
 have HMX:Hid (bB (w1.heap.size≤·) X nv (c.st j)):=hnc.later (bK.of_size hbX2)
 have HNX:Hid (bB (· <X.heap.size) X nv (c.st j)):=hnc.any.below hbX2
 have HGgr:Hid (gr=aE 201 nv):=hgr
 clear hX hgr hnc hb2 hbX2
 have HCX:Hid (aC (p < ·) X p cv N c):=HC1.out.below hbX
 have HBX:Hid (Below w.heap.size w X):=Hb1.out.trans (hbX.mono hzw1)
 have hpX:p<w1.heap.size:=HC1.out.lt
 clear hbX HC1 Hb1
 go_upto_region 6 with (first
  | (refine b8 rfl 32 rfl zn hz1 ?_)
  | (refine wpList_store_row rfl 32 _ _ rfl (w2.heap.size) gr rfl rfl 32 _ grZ gri grz gra ?_)
  | fail)
 rw[←HX.out]
 clear HX grZ
 obtain⟨S,hS⟩:=HOK.out.inv
 cases tu:c.up j
 ·have hz:=wP hS hj tu
  rw[hz] at HNX
  clear hz hS
  go_wp2_with (first
   | ((with_reducible apply bW rX);(· rfl);(· exact grt);(· rfl);simp only[Act.put,sA,sZ,sS])
   | fail)
  rw[HGgr.out,HZN.out]
  refine (mK nv zv dF X HNX.out (jI _ _)).mono ?_
  rintro e w3 ⟨rfl,hb3⟩
  have HB3:Hid (Below w.heap.size w w3):=HBX.out.trans (hb3.mono HBX.out.size)
  clear hb3 rX
  go_wp2_with fail
  go_ret
  exact⟨rfl,HB3.out⟩
 ·obtain⟨k1,k2,k3,k4⟩:=IH hS hj tu
  obtain⟨c2,hc2⟩:∃c2,c2=(doA c ⟨6,(j:Int),0,[]⟩).1:=⟨_,rfl⟩
  have ok2:=HOK.out.act ⟨6,(j:Int),0,[]⟩
  rw[←hc2] at k2 k3 k4 ok2
  have HOK2:Hid (dO c2 (N+1)):=ok2
  obtain⟨c3,hc3⟩:∃c3,c3=(doA c2 ⟨8,(j:Int),0,[]⟩).1:=⟨_,rfl⟩
  rw[←hc3] at k3 k4
  have K1:Hid ((doA c ⟨6,(j:Int),0,[]⟩).2.code=0):=k1
  have K2:Hid ((doA c2 ⟨8,(j:Int),0,[]⟩).2.code=0):=k2
  have K4:Hid (c3.st j=c.st j):=k4
  have E2:Hid ((doA c ⟨6,(j:Int),0,[]⟩).1=c2):=hc2.symm
  have E3:Hid ((doA c2 ⟨8,(j:Int),0,[]⟩).1=c3):=hc3.symm
  clear k1 k2 k4 hc2 hc3 hS ok2
  go_wp2_with fail
  refine (qC ⟨6,(j:Int),0,[]⟩ _ X HCX.out (fun z hz=>by show p<z;omega) HOK.out (by omega) (yN X p 6 j 0)).mono ?_
  rintro e w3 ⟨ax,cx,cv3,rfl,_,hc3,hg3⟩
  rw[E2.out] at hc3
  rw[K1.out]
  have HC3:Hid (aC (p < ·) w3 p cv3 (N+1) c2):=hc3
  have hz3:=hg3.size
  have HB3:Hid (Below w.heap.size w w3):=HBX.out.grown hg3 (by omega) (fun z hz=>by cases hz;exact hpw)
  have rX3:w3.heap[w2.heap.size]? =some (.cells gr 32 (0,0)):=by rw[hg3.block _ zX (by intro e;cases e;omega)];exact rX
  have HN3:Hid (bB (w1.heap.size≤·) w3 nv (c.st j)):=HMX.out.later (fun k hk (h1:w1.heap.size≤k)=>hg3.block k hk (by intro e;cases e;omega))
  clear hc3 hg3 rX HNX HMX HCX HBX
  go_wp2_with fail
  refine (qC ⟨8,(j:Int),0,[]⟩ _ w3 HC3.out (fun z hz=>by show p<z;omega) HOK2.out (by omega) (yN w3 p 8 j 0)).mono ?_
  rintro e w4 ⟨ax',cx',cv4,rfl,_,hc4,hg4⟩
  rw[E3.out] at hc4
  rw[K2.out]
  have HC4:Hid (aC (p < ·) w4 p cv4 (N+1+1) c3):=hc4
  have hz4:=hg4.size
  have HB4:Hid (Below w.heap.size w w4):=HB3.out.grown hg4 (by omega) (fun z hz=>by cases hz;exact hpw)
  have rX4:w4.heap[w2.heap.size]? =some (.cells gr 32 (0,0)):=by rw[hg4.block _ (by omega) (by intro e;cases e;omega)];exact rX3
  have HN4:Hid (bB (w1.heap.size≤·) w4 nv (c.st j)):=HN3.out.later (fun k hk (h1:w1.heap.size≤k)=>hg4.block k hk (by intro e;cases e;omega))
  clear hc4 hg4 rX3 HN3 HC3 HB3 K1 K2 E2 E3
  go_wp2_with fail
  refine (l0 j hj w4 HC4.out).mono ?_
  rintro e w5 ⟨nv',rfl,hnc,hb2⟩
  have hzw5:=hb2.size
  obtain⟨hr,hhr⟩:∃hr,hr=aE 201 nv':=⟨_,rfl⟩
  have hra:hr.all (·.oneCell')=true:=by rw[hhr];exact cA hnc.one
  have hri:(Tryz.prog.info? 32).map (·.size)=some hr.size:=by rw[hhr,aF];exact Tryz.infoNode
  have hrz:zn.size=hr.size:=by rw[hhr,hzm,aF]
  have hrt:iG Tryz.prog 32 hr.size:=⟨_,Tryz.underlying32,rfl,hri⟩
  rw[←hhr]
  have hrZ:(w5.alloc (.cells zn 32)).heap[w5.heap.size]? =some (.cells zn 32 (0,0)):=aI _ _
  obtain⟨Y,hY⟩:∃Y,Y=(w5.alloc (.cells zn 32)).setRow w5.heap.size hr:=⟨_,rfl⟩
  have HY:=hI9 hY
  have rY:Y.heap[w5.heap.size]? =some (.cells hr 32 (0,0)):=by rw[hY];exact aH hrZ
  have hbY2:Below w5.heap.size w5 Y:=by rw[hY];exact aS ((Below.refl _ _).alloc (Nat.le_refl _) _) (Nat.le_refl _) _
  have zY:w5.heap.size<Y.heap.size:=(Array.getElem?_eq_some_iff.1 rY).1
  have hbY:Below w4.heap.size w4 Y:=hb2.trans (hbY2.mono hzw5)
  have HMY:Hid (bB (w4.heap.size≤·) Y nv' (c3.st j)):=hnc.later (bK.of_size hbY2)
  have HNY:Hid (bB (· <Y.heap.size) Y nv' (c3.st j)):=hnc.any.below hbY2
  have HGhr:Hid (hr=aE 201 nv'):=hhr
  clear hY hhr hnc hb2 hbY2
  rw[K4.out] at HNY
  rw[k3]
  have HBY:Hid (Below w.heap.size w Y):=HB4.out.trans (hbY.mono HB4.out.size)
  have rXY:Y.heap[w2.heap.size]? =some (.cells gr 32 (0,0)):=by rw[hbY.block _ (by omega)];exact rX4
  have HN5:Hid (bB (· <Y.heap.size) Y nv (c.st j)):=HN4.out.any.below hbY
  clear hbY HC4 HB4 rX4 HN4 k3 K4 HMY
  go_upto_region 11 with (first
   | (refine b8 rfl 32 rfl zn hz1 ?_)
   | (refine wpList_store_row rfl 32 _ _ rfl (w5.heap.size) hr rfl rfl 32 _ hrZ hri hrz hra ?_)
   | fail)
  rw[←HY.out]
  clear HY hrZ
  go_wp2_with (first
   | ((with_reducible apply bW rXY);(· rfl);(· exact grt);(· rfl);simp only[Act.put,sA,sZ,sS])
   | ((with_reducible apply bW rY);(· rfl);(· exact hrt);(· rfl);simp only[Act.put,sA,sZ,sS])
   | fail)
  rw[HGgr.out,HGhr.out]
  refine (mK nv nv' (c.st j) Y HN5.out HNY.out).mono ?_
  rintro e w6 ⟨rfl,hb6⟩
  have HB6:Hid (Below w.heap.size w w6):=HBY.out.trans (hb6.mono HBY.out.size)
  clear hb6 rXY rY
  go_wp2_with fail
  go_ret
  exact⟨rfl,HB6.out⟩
end Go.Proofs.YtkoefoccbjhoiacGreat
