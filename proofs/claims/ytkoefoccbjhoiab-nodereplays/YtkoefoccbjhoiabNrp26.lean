/-
squeezed by tools/squeeze.py from: NTakesW NFrs FrsIn RNFrs NTkLaw
-/
import Derived.Test.YtkoefoccbjhoiabNrp13
import Derived.Test.YtkoefoccbjhoiabNrp3
import Derived.Test.YtkoefoccbjhoiabNrp17
import Derived.Test.YtkoefoccbjhoiabNrp24
import Derived.Test.YtkoefoccbjhoiabNrp15
import Derived.Deep.CutRange
set_option linter.unusedVariables false
set_option linter.unusedSimpArgs false
set_option maxRecDepth 100000
set_option maxHeartbeats 4000000
namespace Go.Proofs.Ytkoefoccbjhoiab
open Go.RowKit
theorem vX (w:World):Calls Try.prog 30 #[] w fun r w'=>r= .returned (.bool true)∧Below w.heap.size w w':=by
 obtain⟨zr,hzr⟩:∃zr,zr=aD 201 zv:=⟨_,rfl⟩
 have hz0:=Try.zeroNode
 rw[←hzr] at hz0
 obtain⟨W,hW⟩:∃W,W=w.alloc (.cells #[.int .i64 2,.int .i64 1,.int .i64 9] 108):=⟨_,rfl⟩
 have hb:Below w.heap.size w W:=by rw[hW];exact (Below.refl _ _).alloc (Nat.le_refl _) _
 have r0:W.heap[w.heap.size]? =some (.cells #[.int .i64 2,.int .i64 1,.int .i64 9] 108 (0,0)):=by rw[hW];exact aH _ _
 have hzW:W.heap.size=w.heap.size+1:=by rw[hW];exact aB _ _
 have HF:Hid (bM W (.agg #[.int .i64 3,.int .i64 3,.int .i64 4,.slice (some ⟨w.heap.size,0,none⟩) 1 1,.slice none 0 0,.slice none 0 0,.slice none 0 0]) j6):=by
  refine⟨some ⟨w.heap.size,0,none⟩,1,none,0,none,0,none,0,rfl,⟨Or.inr ⟨w.heap.size,0,rfl,by omega,fun i hi=>?_⟩,by decide,Nat.le_refl _,fun h=>by cases h⟩,(dB (fun _=>True) _).1,(dB (fun _=>True) _).1,(dB (fun _=>True) _).1⟩
  have:i=0:=by
   have:i<1:=hi
   omega
  subst this
  exact⟨by rw[cell_of_row _ _ _ _ _ _ r0];rfl,by rw[cell_of_row _ _ _ _ _ _ r0];rfl,by rw[cell_of_row _ _ _ _ _ _ r0];rfl⟩
 have HT:=vB W #[.int .i64 3,.int .i64 3,.int .i64 4,.slice (some ⟨w.heap.size,0,none⟩) 1 1,.slice none 0 0,.slice none 0 0,.slice none 0 0] HF.out
 rw[←hzr] at HT
 obtain⟨T,t0,t1,t2,t3,HT⟩:=HT
 have T0:Hid (T.2.2=0):=t0
 have T1:Hid (T.2.1.length=2):=t1
 have T2:Hid (T.1.vals 1=9):=t2
 have T3:Hid (T.1.order.length=1):=t3
 have HZR:=hI9 hzr
 have HW:=hI9 hW
 have HTA:Hid (Calls Try.prog 23 #[.agg zr,.int .i64 3,.agg #[.int .i64 3,.int .i64 3,.int .i64 4,.slice (some ⟨w.heap.size,0,none⟩) 1 1,.slice none 0 0,.slice none 0 0,.slice none 0 0]] W fun r w'=>∃nv' x,r= .returned (.tuple #[.agg (aD 201 nv'),x,.int .i64 T.2.2])∧aJ (· <w'.heap.size) w' nv' T.1∧bD W.heap.size w' x T.2.1∧Below W.heap.size W w'):=HT
 clear t0 t1 t2 t3
 clear hzr hW r0 HT HF
 go_enter Try.func30,Try.ntmps30
 go_wp2_with fail
 rw[←HW.out,Try.zcNode,←HZR.out]
 refine HTA.out.mono ?_
 rintro r w1 ⟨nv1,x,rfl,hnc,hfs,hb1⟩
 rw[T0.out]
 obtain⟨fr,hfr⟩:∃fr,fr=aD 201 nv1:=⟨_,rfl⟩
 rw[←hfr]
 have hsf:(Try.prog.info? 41).map (·.size)=some fr.size:=by rw[hfr,aA];exact Try.infoNode
 have hzz:zr.size=fr.size:=by rw[hfr,HZR.out,aA,aA]
 have hone:fr.all (·.oneCell')=true:=by rw[hfr];exact aS hnc.one
 have hres:(w1.alloc (.cells zr 41)).heap[w1.heap.size]? =some (.cells zr 41 (0,0)):=aH _ _
 obtain⟨css,_,hown,_⟩:=hfs
 obtain⟨ax,cx,rfl,_⟩:=bF hown
 rw[T1.out]
 have hlen2:((2:Nat):Int)=2:=rfl
 obtain⟨X,hX⟩:∃X,X=(w1.alloc (.cells zr 41)).setRow w1.heap.size fr:=⟨_,rfl⟩
 have hbX:Below w1.heap.size w1 X:=by rw[hX];exact aG ((Below.refl _ _).alloc (Nat.le_refl _) _) (Nat.le_refl _) _
 have rX:aO 201 X w1.heap.size nv1:=⟨41,by rw[←hfr,hX];exact aM hres⟩
 have q1:X.cell? ⟨w1.heap.size,194,none⟩=some (.int .i64 9):=by
  rw[rX.cell (by omega),hnc.es.vals 1 (by omega),T2.out]
 obtain⟨ao,co,eo,_⟩:=hnc.order.sl
 have q2:X.cell? ⟨w1.heap.size,192,none⟩=some (.slice ao 1 co):=by
  rw[rX.cell (by omega),eo,T3.out]
 have HX:=hI9 hX
 have hbE:Below w.heap.size w X:=hb.trans ((hb1.mono (by omega)).trans (hbX.mono (by have:=hb1.size;omega)))
 clear hfr hX hnc hown eo rX hbX hb1
 go_upto_region 2 with (first
  | (refine bE rfl 41 rfl zr hz0 ?_)
  | (refine wpList_store_row rfl 41 _ _ rfl w1.heap.size fr rfl rfl 41 _ hres hsf hzz hone ?_))
 rw[←HX.out]
 clear HX hres
 go_wp2
 go_ret
 exact⟨rfl,hbE⟩
theorem cF {P:Program} {ops:Array Oper} {o:Oper} {a:Act} {w:World} {K:Act→World→Prop} {Q:Exit→Act→World→Prop} {E:Prop} (hgd:o.guard=none) (d:Option Tmp) (hd:o.dst=d) (ty:TypeId) (ho:o.op= .alloc ty) (cs:Array Value) (hz:(P.info? ty).map (·.zero)=some (some (.agg cs)))
  (h:K (a.put d (.pointer (some ⟨w.heap.size,0,none⟩))) (w.alloc (.cells cs ty))):if Region.wanted o (yielded ops a.tmps)=true then Oper.wp P o a w K Q else E:=by
 have hw:Region.wanted o (yielded ops a.tmps)=true:=by simp[Region.wanted,hgd]
 rw[if_pos hw]
 cases hq:P.info? ty with
 | none=>simp[hq] at hz
 | some i=>
  have hzz:i.zero=some (.agg cs):=by simpa [hq] using hz
  unfold Oper.wp execOp
  simp[ho,hd,Instr.alloc,zeroValue,typeInfo,hq,hzz,newVar,newRow,Value.cells,go_sem]
  exact h
theorem xA (a:Array Value):a.toList.toArray=a:=by simp
end Go.Proofs.Ytkoefoccbjhoiab
