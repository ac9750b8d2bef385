/-
squeezed by tools/squeeze.py from: CPtr CMost CDone Ints Union
-/
import Derived.Test.YtkoefoccbjhoiacGreatTops20
import Derived.Test.YtkoefoccbjhoiacGreatTops2
import Derived.Test.YtkoefoccbjhoiacGreatTops1
set_option linter.unusedVariables false
set_option linter.unusedSimpArgs false
set_option maxRecDepth 100000
set_option maxHeartbeats 4000000
namespace Go.Proofs.YtkoefoccbjhoiacGreat
open Go.RowKit
structure cM (lo B:Nat) (w:World) (nv:Nat→Value) (c:aG):Prop where
 row:w.heap[B]? =some (.cells (aC 24 nv) 47 (0,0))
 case:b7 (lo≤·) w nv c
 lt:B<lo
theorem cM.box {lo B:Nat} {w:World} {nv:Nat→Value} {c:aG} (h:cM lo B w nv c):bD B w (aC 24 nv) c:=⟨h.row,⟨nv,rfl,h.case.any⟩⟩
theorem cM.blk {lo B:Nat} {w:World} {nv:Nat→Value} {c:aG} (h:cM lo B w nv c):bE 24 w B nv:=⟨_,h.row⟩
theorem cM.later {lo B:Nat} {w w':World} {nv:Nat→Value} {c:aG} (h:cM lo B w nv c) (hb:Below w.heap.size w w'):cM lo B w' nv c:=
 ⟨by rw[hb.block B h.blk.lt];exact h.row,h.case.later (bQ.of_size hb),h.lt⟩
theorem cM.drew {lo B:Nat} {w:World} {nv:Nat→Value} {c:aG} (h:cM lo B w nv c):cM lo B w.drew nv c:=h.later (Below.drew (Below.refl _ _))
def bK (nv:Nat→Value) (m:Nat) (v:Value) (i:Nat):Value:=if i=m then v else nv i
theorem cM.put {lo B:Nat} {w:World} {nv:Nat→Value} {c c':aG} (h:cM lo B w nv c) (m:Nat) (v:Value) (hc:b7 (lo≤·) w (bK nv m v) c'):cM lo B (w.setCell ⟨B,m,none⟩ v) (bK nv m v) c':=by
 refine⟨?_,hc.later (fun k _ hk=>Below.heap_setCell _ _ _ _ (show k≠B by have:=h.lt;have:lo≤k:=hk;omega)),h.lt⟩
 rw[heap_setCell_same w B m _ _ _ h.row,dP]
 rfl
theorem b7.putTold {ok:Nat→Prop} {w:World} {nv:Nat→Value} {c:aG} (h:b7 ok w nv c) {n:Nat} (hn:n<6) (b:Bool):b7 ok w (bK nv (3+n) (.bool b)) { c with told:=upd c.told n b }:=by
 refine⟨?_,?_,?_,fun i hi=>?_,fun i hi=>?_,?_,fun i hi=>?_,fun i hi=>?_⟩
 ·unfold bK;rw[if_neg (by omega)];exact h.begun
 ·unfold bK;rw[if_neg (by omega)];exact h.fixed
 ·unfold bK;rw[if_neg (by omega)];exact h.ops
 ·unfold bK
  by_cases e:i=n
  ·subst e;rw[if_pos rfl];show _=Value.bool (upd c.told i b i);rw[aT]
  ·rw[if_neg (by omega)];show _=Value.bool (upd c.told n b i);rw[aQ _ _ e];exact h.told i hi
 ·unfold bK;rw[if_neg (by omega)];exact h.known i hi
 ·unfold bK;rw[if_neg (by omega)];exact h.deps
 ·unfold bK;rw[if_neg (by omega)];exact h.has i hi
 ·unfold bK;rw[if_neg (by omega)];exact h.vals i hi
theorem b7.putKnown {ok:Nat→Prop} {w:World} {nv:Nat→Value} {c:aG} (h:b7 ok w nv c) {n:Nat} (hn:n<6) (b:Bool):b7 ok w (bK nv (9+n) (.bool b)) { c with known:=upd c.known n b }:=by
 refine⟨?_,?_,?_,fun i hi=>?_,fun i hi=>?_,?_,fun i hi=>?_,fun i hi=>?_⟩
 ·unfold bK;rw[if_neg (by omega)];exact h.begun
 ·unfold bK;rw[if_neg (by omega)];exact h.fixed
 ·unfold bK;rw[if_neg (by omega)];exact h.ops
 ·unfold bK;rw[if_neg (by omega)];exact h.told i hi
 ·unfold bK
  by_cases e:i=n
  ·subst e;rw[if_pos rfl];show _=Value.bool (upd c.known i b i);rw[aT]
  ·rw[if_neg (by omega)];show _=Value.bool (upd c.known n b i);rw[aQ _ _ e];exact h.known i hi
 ·unfold bK;rw[if_neg (by omega)];exact h.deps
 ·unfold bK;rw[if_neg (by omega)];exact h.has i hi
 ·unfold bK;rw[if_neg (by omega)];exact h.vals i hi
theorem b7.putHas {ok:Nat→Prop} {w:World} {nv:Nat→Value} {c:aG} (h:b7 ok w nv c) {n:Nat} (hn:n<4) (b:Bool):b7 ok w (bK nv (16+n) (.bool b)) { c with has:=upd c.has n b }:=by
 refine⟨?_,?_,?_,fun i hi=>?_,fun i hi=>?_,?_,fun i hi=>?_,fun i hi=>?_⟩
 ·unfold bK;rw[if_neg (by omega)];exact h.begun
 ·unfold bK;rw[if_neg (by omega)];exact h.fixed
 ·unfold bK;rw[if_neg (by omega)];exact h.ops
 ·unfold bK;rw[if_neg (by omega)];exact h.told i hi
 ·unfold bK;rw[if_neg (by omega)];exact h.known i hi
 ·unfold bK;rw[if_neg (by omega)];exact h.deps
 ·unfold bK
  by_cases e:i=n
  ·subst e;rw[if_pos rfl];show _=Value.bool (upd c.has i b i);rw[aT]
  ·rw[if_neg (by omega)];show _=Value.bool (upd c.has n b i);rw[aQ _ _ e];exact h.has i hi
 ·unfold bK;rw[if_neg (by omega)];exact h.vals i hi
theorem b7.putVal {ok:Nat→Prop} {w:World} {nv:Nat→Value} {c:aG} (h:b7 ok w nv c) {n:Nat} (hn:n<4) (z:Int):b7 ok w (bK nv (20+n) (.int .i64 z)) { c with vals:=upd c.vals n z }:=by
 refine⟨?_,?_,?_,fun i hi=>?_,fun i hi=>?_,?_,fun i hi=>?_,fun i hi=>?_⟩
 ·unfold bK;rw[if_neg (by omega)];exact h.begun
 ·unfold bK;rw[if_neg (by omega)];exact h.fixed
 ·unfold bK;rw[if_neg (by omega)];exact h.ops
 ·unfold bK;rw[if_neg (by omega)];exact h.told i hi
 ·unfold bK;rw[if_neg (by omega)];exact h.known i hi
 ·unfold bK;rw[if_neg (by omega)];exact h.deps
 ·unfold bK;rw[if_neg (by omega)];exact h.has i hi
 ·unfold bK
  by_cases e:i=n
  ·subst e;rw[if_pos rfl];show _=Value.int .i64 (upd c.vals i z i);rw[aT]
  ·rw[if_neg (by omega)];show _=Value.int .i64 (upd c.vals n z i);rw[aQ _ _ e];exact h.vals i hi
theorem b7.putFixed {ok:Nat→Prop} {w:World} {nv:Nat→Value} {c:aG} (h:b7 ok w nv c) (b:Bool):b7 ok w (bK nv 1 (.bool b)) { c with fixed:=b }:=by
 refine⟨?_,?_,?_,fun i hi=>?_,fun i hi=>?_,?_,fun i hi=>?_,fun i hi=>?_⟩
 ·unfold bK;rw[if_neg (by omega)];exact h.begun
 ·rfl
 ·unfold bK;rw[if_neg (by omega)];exact h.ops
 ·unfold bK;rw[if_neg (by omega)];exact h.told i hi
 ·unfold bK;rw[if_neg (by omega)];exact h.known i hi
 ·unfold bK;rw[if_neg (by omega)];exact h.deps
 ·unfold bK;rw[if_neg (by omega)];exact h.has i hi
 ·unfold bK;rw[if_neg (by omega)];exact h.vals i hi
theorem b7.putDeps {ok:Nat→Prop} {w:World} {nv:Nat→Value} {c:aG} (h:b7 ok w nv c) {v:Value} {ds:List Int} (hv:IsI ok w v ds):b7 ok w (bK nv 15 v) { c with deps:=ds }:=by
 refine⟨?_,?_,?_,fun i hi=>?_,fun i hi=>?_,?_,fun i hi=>?_,fun i hi=>?_⟩
 ·unfold bK;rw[if_neg (by omega)];exact h.begun
 ·unfold bK;rw[if_neg (by omega)];exact h.fixed
 ·unfold bK;rw[if_neg (by omega)];exact h.ops
 ·unfold bK;rw[if_neg (by omega)];exact h.told i hi
 ·unfold bK;rw[if_neg (by omega)];exact h.known i hi
 ·exact hv
 ·unfold bK;rw[if_neg (by omega)];exact h.has i hi
 ·unfold bK;rw[if_neg (by omega)];exact h.vals i hi
theorem eH (w:World) (row:Option Nat):w.grownBy w row:=⟨rfl,rfl,rfl,Nat.le_refl _,fun _ _ _=>rfl⟩
theorem bZ {a w w':World} {B:Nat} (h:a.grownBy w (some B)) (hb:Below w.heap.size w w'):a.grownBy w' (some B):=
 ⟨hb.os.trans h.os,hb.tape.trans h.tape,hb.output.trans h.output,by have:=h.size;have:=hb.size;omega,fun k hk hr=>by rw[hb.block k (by have:=h.size;omega)];exact h.block k hk hr⟩
theorem gD {a w:World} {B:Nat} (h:a.grownBy w (some B)):a.grownBy w.drew (some B):=⟨h.os,h.tape,h.output,h.size,h.block⟩
theorem BS (lo B:Nat) (nv:Nat→Value) (c:aG) (v:Value) (f:aD) (w:World) (h:cM lo B w nv c) (hf:bS w v f) (hn:0≤f.node∧f.node<6):
  Calls Tryz.prog 118 #[.pointer (some ⟨B,0,none⟩),v] w fun e w'=>e= .returned (.tuple #[])∧∃nv',cM lo B w' nv' (if c.fixed then { c with known:=upd c.known f.node.toNat true } else c)∧w.grownBy w' (some B):=by
 obtain⟨d,hd⟩:∃d,d=(if c.fixed then { c with known:=upd c.known f.node.toNat true } else c):=⟨_,rfl⟩
 rw[←hd]
 have HD:=hI9 hd
 clear hd
 obtain⟨a3,c3,a4,c4,a5,c5,a6,c6,rfl,_⟩:=hf
 obtain⟨n,hn6,en⟩:∃n:Nat,n<6∧f.node=n:=⟨f.node.toNat,by omega,by omega⟩
 have HN:Hid (f.node.toNat=n):=by unfold Hid;omega
 obtain⟨W,hW⟩:∃W,W=w.alloc (.cells #[.int .i64 f.kind,.int .i64 f.node,.int .i64 f.id,.slice a3 f.ops.length c3,.slice a4 f.deps.length c4,.slice a5 f.ats.length c5,.slice a6 f.vals.length c6] 123):=⟨_,rfl⟩
 have hb:Below w.heap.size w W:=by rw[hW];exact (Below.refl _ _).alloc (Nat.le_refl _) _
 have hP:cM lo B W nv c:=h.later hb
 have r1:W.heap[w.heap.size]? =some (.cells #[.int .i64 f.kind,.int .i64 f.node,.int .i64 f.id,.slice a3 f.ops.length c3,.slice a4 f.deps.length c4,.slice a5 f.ats.length c5,.slice a6 f.vals.length c6] 123 (0,0)):=by rw[hW];exact aJ _ _
 have k1:W.cell? ⟨w.heap.size,1,none⟩=some (.int .i64 n):=by rw[cell_of_row _ _ _ _ _ _ r1,←en];rfl
 have q1:=hP.box.fixed
 have q9:=hP.box.known hn6
 have f9:W.frozen? ⟨B,9+n,none⟩=false:=hP.blk.frozen _
 have n1:(0:Int)≤(n:Int)∧(n:Int)<6:=by omega
 have HP:=hI9 hP
 have HW:=hI9 hW
 have HGr:Hid (w.grownBy W (some B)):=bZ (eH _ _) hb
 clear hW hP h r1 en hn
 go_enter Tryz.func118,Tryz.ntmps118
 go_upto_region 1 with fail
 rw[←HW.out]
 clear HW
 cases t0:c.fixed
 ·rw[t0] at q1
  have HE:Hid (d=c):=by unfold Hid;rw[HD.out,t0];rfl
  clear t0
  go_wp2
  go_end0
  exact⟨rfl,nv,by rw[HE.out];exact HP.out,HGr.out⟩
 ·rw[t0] at q1
  have HE:Hid (d={ c with known:=upd c.known n true }):=by unfold Hid;rw[HD.out,t0,HN.out];rfl
  clear t0
  go_wp2
  go_region
  all_goals
   go_wp2
   go_end0
   refine⟨rfl,bK nv (9+n) (.bool true),?_,?_⟩
   ·rw[HE.out]
    exact HP.out.drew.put (9+n) (.bool true) (HP.out.drew.case.putKnown hn6 true)
   ·exact aM (gD HGr.out) _ _
theorem pR {P:Program} {t e:TypeId} (ht:P.underlying t=some (.array 2 e)) (he:P.underlying e=some (.int .i64)) (hi:(P.info? e).map (·.size)=some 1) (x0 x1:Int) (w:World):
  (Instr.index t (.agg #[.int .i64 x0,.int .i64 x1]) (.int .i64 0)).run P w= .ok (.int .i64 x0) w∧(Instr.index t (.agg #[.int .i64 x0,.int .i64 x1]) (.int .i64 1)).run P w= .ok (.int .i64 x1) w:=by
 cases hq:P.info? e with
 | none=>simp[hq] at hi
 | some i=>
  have hs:i.size=1:=by simpa [hq] using hi
  constructor<;>simp[Instr.index,run_underlying ht,part,isAgg,run_underlying he,sizeOf,typeInfo,hq,hs,go_sem]
theorem vK (lo B:Nat) (nv:Nat→Value) (c:aG) (w:World) (h:cM lo B w nv c):
  Calls Tryz.prog 133 #[.pointer (some ⟨B,0,none⟩)] w fun e w'=>e= .returned (.bool (eA c.ops c.told))∧Below w.heap.size w w':=by
 obtain⟨W,hW⟩:∃W,W=w.alloc (.cells #[.int .i64 0,.int .i64 0] 187):=⟨_,rfl⟩
 have hb:Below w.heap.size w W:=by rw[hW];exact (Below.refl _ _).alloc (Nat.le_refl _) _
 have hzW:W.heap.size=w.heap.size+1:=by rw[hW];exact aA _ _
 have hP:cM lo B W nv c:=h.later hb
 have r0:W.heap[w.heap.size]? =some (.cells #[.int .i64 0,.int .i64 0] 187 (0,0)):=by rw[hW];exact aJ _ _
 have HW:=hI9 hW
 have HP:Hid (∀x,Below w.heap.size w x→cM lo B x nv c):=fun x hx=>h.later hx
 have rA:=hP.box.rTold
 have zA:=fF c.told
 obtain⟨A,hA⟩:∃A,A=aK 6 c.told:=⟨_,rfl⟩
 rw[←hA] at rA zA
 have HA:=hI9 hA
 have HR0:=hI9 r0
 have HB0:=hI9 hb
 have HM:=JY c.ops c.told
 have HM:Hid (eA c.ops c.told=(!(decide (fU c.told 0 6<2) && bJ c.ops 0) && !(decide (fU c.told 1 6<2) && bJ c.ops 1))):=HM
 clear hW h hA hP r0 hb
 go_enter Tryz.func133,Tryz.ntmps133
 go_upto_region 2 with fail
 rw[←HW.out]
 clear HW
 go_wp2_with (first
  | ((with_reducible apply dR rA);(· rfl);(· exact zA);(· rfl);simp only[Act.put,sA,sZ,sS])
  | fail)
 go_loopw [12] (fun i wr=>∃(k:Nat) (x0 x1:Int),k≤6∧i= .int .i64 k∧Hid (((fU c.told 0 k:Nat):Int)=x0)∧Hid (((fU c.told 1 k:Nat):Int)=x1)∧Hid (wr.heap[w.heap.size]? =some (.cells #[.int .i64 x0,.int .i64 x1] 187 (0,0)))∧Hid (Below w.heap.size w wr)) (fun i _=>6-(intOf i).toNat)
 case atStart=>exact⟨0,0,0,by omega,rfl,rfl,rfl,HR0,HB0⟩
 case round=>
  obtain⟨k,x0,x1,hk,rfl,Hx0,Hx1,HR,HBw⟩:=hrel
  have hsz:=HBw.out.size
  have bx0:0≤x0∧x0≤6:=by have:=Hx0.out;have:=wB c.told 0 k;omega
  have bx1:0≤x1∧x1≤6:=by have:=Hx1.out;have:=wB c.told 1 k;omega
  by_cases hlt:k<6
  ·have hix:=fun wx=>iF Tryz.underlying43 Tryz.underlying4 Tryz.infoBool c.told hlt wx
   rw[←HA.out] at hix
   have e0:wr.cell? ⟨w.heap.size,0,none⟩=some (.int .i64 x0):=by rw[cell_of_row _ _ _ _ _ _ HR.out];rfl
   have e1:wr.cell? ⟨w.heap.size,1,none⟩=some (.int .i64 x1):=by rw[cell_of_row _ _ _ _ _ _ HR.out];rfl
   have f0:wr.frozen? ⟨w.heap.size,0,none⟩=false:=frozen_of_row _ _ _ _ _ HR.out
   have f1:wr.frozen? ⟨w.heap.size,1,none⟩=false:=frozen_of_row _ _ _ _ _ HR.out
   have w0:IntKind.i64.wrap (x0+1)=x0+1:=fL _ (by omega) (by omega)
   have w1:IntKind.i64.wrap (x1+1)=x1+1:=fL _ (by omega) (by omega)
   have hkk:(k:Int)<6:=by omega
   cases tt:c.told k
   ·rw[tt] at hix
    have HC:Hid (fU c.told 0 (k+1)=fU c.told 0 k):=by unfold Hid;simp[fU,tt]
    have HC':Hid (fU c.told 1 (k+1)=fU c.told 1 k):=by unfold Hid;simp[fU,tt]
    go_wp2
    go_roundw
    case rel=>exact⟨k+1,x0,x1,by omega,by go_num,by rw[HC.out];exact Hx0,by rw[HC'.out];exact Hx1,HR,HBw⟩
    case measure=>simp[intOf];omega
   ·rw[tt] at hix
    by_cases h3:k<3
    ·have HO:Hid (ofL (k:Int)=0):=by unfold Hid ofL;rw[if_pos (by omega)]
     have hO:ofL (k:Int)=0:=HO.out
     have HC:Hid (fU c.told 0 (k+1)=fU c.told 0 k+1):=by unfold Hid;simp[fU,tt,HO.out]
     have HC':Hid (fU c.told 1 (k+1)=fU c.told 1 k):=by unfold Hid;simp[fU,tt,HO.out]
     go_wp2_with (go_at_call 122;refine (iN _ _).mono ?_;rintro e w' ⟨rfl,rfl⟩)
     go_roundw
     case rel=>
      refine⟨k+1,x0+1,x1,by omega,by go_num,?_,?_,?_,(Below.setCell HBw.out (Nat.le_refl _) _)⟩
      ·rw[HC.out];unfold Hid;have:=Hx0.out;omega
      ·rw[HC'.out];exact Hx1.out
      ·rw[heap_setCell_same _ _ _ _ _ _ HR.out];rfl
     case measure=>simp[intOf];omega
    ·have HO:Hid (ofL (k:Int)=1):=by unfold Hid ofL;rw[if_neg (by omega)]
     have hO:ofL (k:Int)=1:=HO.out
     have HC:Hid (fU c.told 1 (k+1)=fU c.told 1 k+1):=by unfold Hid;simp[fU,tt,HO.out]
     have HC':Hid (fU c.told 0 (k+1)=fU c.told 0 k):=by unfold Hid;simp[fU,tt,HO.out]
     go_wp2_with (go_at_call 122;refine (iN _ _).mono ?_;rintro e w' ⟨rfl,rfl⟩)
     go_roundw
     case rel=>
      refine⟨k+1,x0,x1+1,by omega,by go_num,?_,?_,?_,(Below.setCell HBw.out (Nat.le_refl _) _)⟩
      ·rw[HC'.out];exact Hx0.out
      ·rw[HC.out];unfold Hid;have:=Hx1.out;omega
      ·rw[heap_setCell_same _ _ _ _ _ _ HR.out];rfl
     case measure=>simp[intOf];omega
  ·have hk6:k=6:=by omega
   subst hk6
   have HPw:Hid (cM lo B wr nv c):=HP.out wr HBw.out
   obtain⟨a2,c2,q2,hs2,hl2⟩:=HPw.out.box.ops
   have e0:wr.cell? ⟨w.heap.size,0,none⟩=some (.int .i64 x0):=by rw[cell_of_row _ _ _ _ _ _ HR.out];rfl
   have e1:wr.cell? ⟨w.heap.size,1,none⟩=some (.int .i64 x1):=by rw[cell_of_row _ _ _ _ _ _ HR.out];rfl
   have HM2:Hid (eA c.ops c.told=(!(decide (x0<2) && bJ c.ops 0) && !(decide (x1<2) && bJ c.ops 1))):=by
    unfold Hid
    rw[HM.out,←Hx0.out,←Hx1.out]
    simp only[show ∀n:Nat,decide (n<2)=decide ((n:Int)<2) from fun n=>by rw[decide_eq_decide];omega]
   clear HM
   have ix0:=fun wx=>(pR Tryz.underlying187 Tryz.underlying3 Tryz.infoInt1 x0 x1 wx).1
   have ix1:=fun wx=>(pR Tryz.underlying187 Tryz.underlying3 Tryz.infoInt1 x0 x1 wx).2
   by_cases d0:x0<2
   ·have D0:Hid (decide (x0<2)=true):=decide_eq_true d0
    go_wp2_with fail
    refine wp_loop_rounds 3 ?_;rw[rounds_succ]
    go_wp2_with fail
    refine (fD a2 c2 c.ops 0 wr hs2.2.1 hs2.1).mono ?_
    rintro e w5 ⟨rfl,hb5⟩
    have HB5:Hid (Below w.heap.size w w5):=HBw.out.trans (hb5.mono hsz)
    have q5:w5.cell? ⟨B,2,none⟩=some (.slice a2 c.ops.length c2):=by rw[hb5.cell (p:=⟨B,2,none⟩) HPw.out.blk.lt];exact q2
    have hs5:=hs2.later hb5
    have hz5:=hb5.size
    clear hb5 q2
    cases u0:bJ c.ops 0
    ·by_cases d1:x1<2
     ·go_wp2_with fail
      rw[rounds_succ]
      go_wp2_with fail
      refine (fD a2 c2 c.ops 1 w5 hs5.2.1 hs5.1).mono ?_
      rintro e w6 ⟨rfl,hb6⟩
      have HB6:Hid (Below w.heap.size w w6):=HB5.out.trans (hb6.mono (by omega))
      clear hb6
      cases u1:bJ c.ops 1
      ·have HE:Hid (eA c.ops c.told=true):=by unfold Hid;rw[HM2.out,u0,u1];simp
       go_wp2_with fail
       rw[rounds_succ]
       go_wp2
       go_ret
       exact⟨aH HE.out.symm,HB6.out⟩
      ·have HE:Hid (eA c.ops c.told=false):=by unfold Hid;rw[HM2.out,u0,u1,decide_eq_true d1];simp
       go_wp2
       go_ret
       exact⟨aH HE.out.symm,HB6.out⟩
     ·have HE:Hid (eA c.ops c.told=true):=by unfold Hid;rw[HM2.out,u0,decide_eq_false d1];simp
      go_wp2_with fail
      rw[rounds_succ]
      go_wp2_with fail
      rw[rounds_succ]
      go_wp2
      go_ret
      exact⟨aH HE.out.symm,HB5.out⟩
    ·have HE:Hid (eA c.ops c.told=false):=by unfold Hid;rw[HM2.out,u0,D0.out];simp
     go_wp2
     go_ret
     exact⟨aH HE.out.symm,HB5.out⟩
   ·have D0:Hid (decide (x0<2)=false):=decide_eq_false d0
    go_wp2_with fail
    refine wp_loop_rounds 3 ?_;rw[rounds_succ]
    by_cases d1:x1<2
    ·go_wp2_with fail
     rw[rounds_succ]
     go_wp2_with fail
     refine (fD a2 c2 c.ops 1 wr hs2.2.1 hs2.1).mono ?_
     rintro e w6 ⟨rfl,hb6⟩
     have HB6:Hid (Below w.heap.size w w6):=HBw.out.trans (hb6.mono hsz)
     clear hb6
     cases u1:bJ c.ops 1
     ·have HE:Hid (eA c.ops c.told=true):=by unfold Hid;rw[HM2.out,u1,D0.out];simp
      go_wp2_with fail
      rw[rounds_succ]
      go_wp2
      go_ret
      exact⟨aH HE.out.symm,HB6.out⟩
     ·have HE:Hid (eA c.ops c.told=false):=by unfold Hid;rw[HM2.out,u1,D0.out,decide_eq_true d1];simp
      go_wp2
      go_ret
      exact⟨aH HE.out.symm,HB6.out⟩
    ·have HE:Hid (eA c.ops c.told=true):=by unfold Hid;rw[HM2.out,D0.out,decide_eq_false d1];simp
     go_wp2_with fail
     rw[rounds_succ]
     go_wp2_with fail
     rw[rounds_succ]
     go_wp2
     go_ret
     exact⟨aH HE.out.symm,HBw.out⟩
theorem DE (c:aG) (sh:Int) (l:List (Int × Int)) (p:Int × Int):c.dones sh (l++[p])=aG.done1 sh (c.dones sh l) p:=by
 unfold aG.dones
 rw[List.foldl_append]
 rfl
theorem yX {xs vs:List Int} {k:Nat} (hk:k<xs.length) (hv:k<vs.length):(xs.zip vs).take (k+1)=(xs.zip vs).take k++[(xs.getD k 0,vs.getD k 0)]:=by
 rw[List.take_add_one]
 congr 1
 have h1:(xs.zip vs)[k]? =some (xs[k],vs[k]):=by rw[List.getElem?_eq_getElem (by rw[List.length_zip];omega),List.getElem_zip]
 rw[h1]
 simp[List.getD,hk,hv]
theorem FV {f:aD} (hg:aN f=0):f.vals.length=f.ats.length∧(∀x∈f.ats,-1<x∧x<4):=by
 unfold aN at hg
 split at hg
 ·omega
 ·split at hg
  ·omega
  ·split at hg
   ·rename_i h
    simp only[Bool.and_eq_true,dZ,decide_eq_true_eq] at h
    have hl:=h.2.2.2.1
    exact⟨hl,(wW f.ats f.vals (-1) hl h.2.2.2.2).1⟩
   ·omega
theorem D8 (lo B:Nat) (nv:Nat→Value) (c:aG) (v:Value) (f:aD) (w:World) (h:cM lo B w nv c) (hf:dS B w v f) (hg:aN f=0):
  Calls Tryz.prog 119 #[.pointer (some ⟨B,0,none⟩),v] w fun e w'=>e= .returned (.tuple #[])∧∃nv',cM lo B w' nv' (if c.fixed then c.dones (ofL f.node) (f.ats.zip f.vals) else c)∧w.grownBy w' (some B):=by
 obtain⟨d,hd⟩:∃d,d=(if c.fixed then c.dones (ofL f.node) (f.ats.zip f.vals) else c):=⟨_,rfl⟩
 rw[←hd]
 have HD:=hI9 hd
 clear hd
 obtain⟨a3,c3,a4,c4,a5,c5,a6,c6,rfl,_,_,h5,h6⟩:=hf
 obtain⟨hvl,hats⟩:=FV hg
 have HVL:Hid (f.vals.length=f.ats.length):=hvl
 clear hvl
 obtain⟨W,hW⟩:∃W,W=w.alloc (.cells #[.int .i64 f.kind,.int .i64 f.node,.int .i64 f.id,.slice a3 f.ops.length c3,.slice a4 f.deps.length c4,.slice a5 f.ats.length c5,.slice a6 f.vals.length c6] 123):=⟨_,rfl⟩
 have hb:Below w.heap.size w W:=by rw[hW];exact (Below.refl _ _).alloc (Nat.le_refl _) _
 have hzW:W.heap.size=w.heap.size+1:=by rw[hW];exact aA _ _
 have hP:cM lo B W nv c:=h.later hb
 have hBw:B<w.heap.size:=h.blk.lt
 have r1:W.heap[w.heap.size]? =some (.cells #[.int .i64 f.kind,.int .i64 f.node,.int .i64 f.id,.slice a3 f.ops.length c3,.slice a4 f.deps.length c4,.slice a5 f.ats.length c5,.slice a6 f.vals.length c6] 123 (0,0)):=by rw[hW];exact aJ _ _
 have q1:=hP.box.fixed
 have HP:=hI9 hP
 have HW:=hI9 hW
 have HGw:Hid (w.grownBy W (some B)):=bZ (eH _ _) hb
 have HR:Hid (∀wx,W.grownBy wx (some B)→wx.heap[w.heap.size]? =some (.cells #[.int .i64 f.kind,.int .i64 f.node,.int .i64 f.id,.slice a3 f.ops.length c3,.slice a4 f.deps.length c4,.slice a5 f.ats.length c5,.slice a6 f.vals.length c6] 123 (0,0))):=fun wx hx=>by rw[hx.block _ (by omega) (fun e=>by cases e;omega)];exact r1
 have H5:Hid (∀wx,W.grownBy wx (some B)→cY (· <B) wx a5 f.ats):=fun wx hx=>h5.2.later (fun b hb' hk=>by have:b<B:=hk;rw[hx.block _ (by omega) (fun e=>by cases e;omega),hb.block _ (by omega)])
 have H6:Hid (∀wx,W.grownBy wx (some B)→cY (· <B) wx a6 f.vals):=fun wx hx=>h6.2.later (fun b hb' hk=>by have:b<B:=hk;rw[hx.block _ (by omega) (fun e=>by cases e;omega),hb.block _ (by omega)])
 have HAT:Hid (∀x∈f.ats,-1<x∧x<4):=hats
 have hl5:=h5.1.2.1
 unfold maxLen at hl5
 have e5:W.cell? ⟨w.heap.size,5,none⟩=some (.slice a5 f.ats.length c5):=by rw[cell_of_row _ _ _ _ _ _ r1];rfl
 clear hW hP h r1 h5 h6 hats hg
 go_enter Tryz.func119,Tryz.ntmps119
 go_upto_region 1 with fail
 rw[←HW.out]
 clear HW
 cases t0:c.fixed
 ·rw[t0] at q1
  have HE:Hid (d=c):=by unfold Hid;rw[HD.out,t0];rfl
  clear t0
  go_wp2
  (try simp only[Exit.inBlock,Exit.then])
  refine bodyPost_ret (results_none rfl _ _ _) rfl ?_
  exact⟨rfl,nv,by rw[HE.out];exact HP.out,HGw.out⟩
 ·rw[t0] at q1
  have HE:Hid (d=c.dones (ofL f.node) (f.ats.zip f.vals)):=by unfold Hid;rw[HD.out,t0];rfl
  clear t0
  go_wp2
  go_loopw [14] (fun i wr=>∃(k:Nat) (nv':Nat→Value),k≤f.ats.length∧i= .int .i64 k∧cM lo B wr nv' (c.dones (ofL f.node) ((f.ats.zip f.vals).take k))∧W.grownBy wr (some B)) (fun i _=>f.ats.length-(intOf i).toNat)
  case atStart=>exact⟨0,nv,Nat.zero_le _,rfl,HP.out,eH _ _⟩
  case round=>
   obtain⟨k,nv',hk,rfl,hPk,hGk⟩:=hrel
   have hsz:=hGk.size
   have hR:=HR.out wr hGk
   have HPk:Hid (cM lo B wr nv' (c.dones (ofL f.node) ((f.ats.zip f.vals).take k))):=hPk
   have HGr:Hid (W.grownBy wr (some B)):=hGk
   by_cases hlt:k<f.ats.length
   ·obtain⟨ck,hck⟩:∃ck,ck=c.dones (ofL f.node) ((f.ats.zip f.vals).take k):=⟨_,rfl⟩
    rw[←hck] at hPk HPk
    have hzs:=yX hlt (show k<f.vals.length by have:=HVL.out;omega)
    have HSn:Hid (c.dones (ofL f.node) ((f.ats.zip f.vals).take (k+1))=aG.done1 (ofL f.node) ck (f.ats.getD k 0,f.vals.getD k 0)):=by unfold Hid;rw[hzs,DE,hck]
    obtain⟨q,Hq,b5,o5,rfl,eq5⟩:=(cY.at (H5.out wr hGk)).get hlt
    obtain⟨u,Hu,b6,o6,ea6,eu6⟩:=(cY.at (H6.out wr hGk)).get (show k<f.vals.length by have:=HVL.out;omega)
    have hq4: -1<q∧q<4:=HAT.out q (by rw[←Hq.out];simp[List.getD,hlt])
    obtain⟨m,hm4,rfl⟩:∃m:Nat,m<4∧q=m:=⟨q.toNat,by omega,by omega⟩
    have hb6:b6<B:=by
     rcases H6.out wr hGk with e | ⟨b',o',e',hb',_⟩
     ·have hvl:=HVL.out;rw[e] at hvl;simp at hvl;omega
     ·rw[ea6] at e';cases e';exact hb'
    have HS0:Hid (c.dones (ofL f.node) ((f.ats.zip f.vals).take (k+1))=aG.done1 (ofL f.node) ck ((m:Int),u)):=by unfold Hid;rw[HSn.out,Hq.out,Hu.out]
    have k1:wr.cell? ⟨w.heap.size,1,none⟩=some (.int .i64 f.node):=by rw[cell_of_row _ _ _ _ _ _ hR];rfl
    have k6:wr.cell? ⟨w.heap.size,6,none⟩=some (.slice (some ⟨b6,o6,none⟩) f.vals.length c6):=by rw[cell_of_row _ _ _ _ _ _ hR,←ea6];rfl
    obtain⟨a2,c2,q2,hs2,hl2⟩:=hPk.box.ops
    have qh:=hPk.box.has hm4
    have n1:(0:Int)≤(k:Int)∧(k:Int)<(f.ats.length:Int):=by omega
    have n2:(0:Int)≤(k:Int)∧(k:Int)<(f.vals.length:Int):=by have:=HVL.out;omega
    have m1:(0:Int)≤(m:Int)∧(m:Int)<4:=by omega
    clear HSn Hq Hu hzs hR ea6 hGk hPk hck
    by_cases tl:m<ck.ops.length
    ·have dl:decide ((m:Int)<(ck.ops.length:Int))=true:=decide_eq_true (by omega)
     have m2:(0:Int)≤(m:Int)∧(m:Int)<(ck.ops.length:Int):=by omega
     rcases hs2.1 with h0 | ⟨b2,o2,rfl,hb2,hc2⟩
     ·rw[h0] at tl;simp at tl
     obtain⟨x0,x1,x2,Hx,e0,e1,e2⟩:=fJ.at hc2 hb2 (Below.refl _ _) tl
     have HT:Hid (jZ (ofL f.node) (ck.ops.getD m (0,0,0))=(x1 % 2 == ofL f.node)):=by unfold Hid;rw[Hx.out];rfl
     clear hc2 hs2 Hx
     cases tt:x1 % 2 == ofL f.node
     ·have HS:Hid (c.dones (ofL f.node) ((f.ats.zip f.vals).take (k+1))=ck):=by
       unfold Hid
       rw[HS0.out]
       unfold aG.done1
       rw[if_neg]
       rintro⟨_,e,_⟩
       have e:jZ (ofL f.node) (ck.ops.getD m (0,0,0))=true:=by simpa using e
       rw[HT.out,tt] at e;cases e
      clear tl
      go_wp2
      refine wp_region_held_drew (S:=fun w'=>w'.cell? ⟨B,2,none⟩=some (.slice (some ⟨b2,o2,none⟩) ck.ops.length c2)∧w'.cell? ⟨b2,o2+m*3+1,none⟩=some (.int .i64 x1)∧w'.cell? ⟨w.heap.size,1,none⟩=some (.int .i64 f.node)∧w'.cell? ⟨B,16+m,none⟩=some (.bool (ck.has m))) (by kernel_rfl) ⟨q2,e1,k1,qh⟩ ?_
      intro hH
      refine tkH 0 19 (.int .i64 m) hH ?_
      simp only[Act.put,sA,sZ,sS]
      refine tkH 1 20 (.pointer (some ⟨B,0,none⟩)) hH ?_
      simp only[Act.put,sA,sZ,sS]
      refine tkH 2 21 (.pointer (some ⟨B,0,none⟩)) hH ?_
      simp only[Act.put,sA,sZ,sS]
      refine tkH 3 22 (.pointer (some ⟨B,2,none⟩)) hH ?_
      simp only[Act.put,sA,sZ,sS]
      refine tkH 4 23 (.slice (some ⟨b2,o2,none⟩) ck.ops.length c2) hH ?_ (hy:=Or.inl ⟨by rfl,fun _ hS=>by obtain⟨hS1,hS2,hS3,hS4⟩:=hS;go_simp⟩)
      simp only[Act.put,sA,sZ,sS]
      refine tkH 5 24 (.int .i64 ck.ops.length) hH ?_
      simp only[Act.put,sA,sZ,sS]
      refine tkH 6 25 (.bool true) hH ?_
      simp only[Act.put,sA,sZ,sS]
      refine tkH 7 26 (.bool true) hH ?_
      simp only[Act.put,sA,sZ,sS]
      refine tkH 8 27 (.pointer (some ⟨B,0,none⟩)) hH ?_
      simp only[Act.put,sA,sZ,sS]
      refine tkH 9 28 (.pointer (some ⟨B,0,none⟩)) hH ?_
      simp only[Act.put,sA,sZ,sS]
      refine tkH 10 29 (.pointer (some ⟨B,2,none⟩)) hH ?_
      simp only[Act.put,sA,sZ,sS]
      refine tkH 11 30 (.slice (some ⟨b2,o2,none⟩) ck.ops.length c2) hH ?_ (hy:=Or.inl ⟨by rfl,fun _ hS=>by obtain⟨hS1,hS2,hS3,hS4⟩:=hS;go_simp⟩)
      simp only[Act.put,sA,sZ,sS]
      refine tkH 12 31 (.int .i64 m) hH ?_
      simp only[Act.put,sA,sZ,sS]
      refine tkH 13 32 (.pointer (some ⟨b2,o2+m*3,none⟩)) hH ?_
      simp only[Act.put,sA,sZ,sS]
      refine tkH 14 33 (.pointer (some ⟨b2,o2+m*3+1,none⟩)) hH ?_
      simp only[Act.put,sA,sZ,sS]
      refine tkH 15 34 (.int .i64 x1) hH ?_ (hy:=Or.inl ⟨by rfl,fun _ hS=>by obtain⟨hS1,hS2,hS3,hS4⟩:=hS;go_simp⟩)
      simp only[Act.put,sA,sZ,sS]
      refine tkH 17 36 (.pointer (some ⟨w.heap.size,1,none⟩)) hH ?_
      simp only[Act.put,sA,sZ,sS]
      refine tkH 18 37 (.int .i64 f.node) hH ?_ (hy:=Or.inl ⟨by rfl,fun _ hS=>by obtain⟨hS1,hS2,hS3,hS4⟩:=hS;go_simp⟩)
      simp only[Act.put,sA,sZ,sS]
      refine wpAnyH_ready (rs:=[16]) (by kernel_rfl) (by simp) ?_
      refine AllReadyH.cons rfl (fun K hK=>?_) AllReadyH.nil
      go_simp
      refine (gO _ _).mono ?_
      rintro e w1 ⟨rfl,hw1⟩
      subst hw1
      go_wp2_with fail
      refine hK.out _ _ (hH) (fun hH2=>?_)
      clear hK K hH
      have hH:=hH2
      clear hH2
      refine wpAnyH_ready (rs:=[19]) (by kernel_rfl) (by simp) ?_
      refine AllReadyH.cons rfl (fun K hK=>?_) AllReadyH.nil
      go_simp
      refine (iN _ _).mono ?_
      rintro e w1 ⟨rfl,hw1⟩
      subst hw1
      go_wp2_with fail
      refine hK.out _ _ (hH) (fun hH2=>?_)
      clear hK K hH
      have hH:=hH2
      clear hH2
      refine tkH 20 39 (.bool false) hH ?_
      simp only[Act.put,sA,sZ,sS]
      refine tkH 21 40 (.bool false) hH ?_
      simp only[Act.put,sA,sZ,sS]
      refine tkH 22 41 (.bool false) hH ?_
      simp only[Act.put,sA,sZ,sS]
      refine tkH 23 42 undef hH ?_ (hy:=Or.inr ⟨by rfl,rfl⟩)
      simp only[Act.put,sA,sZ,sS]
      refine tkH 24 43 undef hH ?_ (hy:=Or.inr ⟨by rfl,rfl⟩)
      simp only[Act.put,sA,sZ,sS]
      refine tkH 25 44 undef hH ?_ (hy:=Or.inr ⟨by rfl,rfl⟩)
      simp only[Act.put,sA,sZ,sS]
      refine tkH 26 45 undef hH ?_ (hy:=Or.inr ⟨by rfl,rfl⟩)
      simp only[Act.put,sA,sZ,sS]
      refine tkH 27 46 undef hH ?_ (hy:=Or.inr ⟨by rfl,rfl⟩)
      simp only[Act.put,sA,sZ,sS]
      refine tkH 28 47 undef hH ?_ (hy:=Or.inr ⟨by rfl,rfl⟩)
      simp only[Act.put,sA,sZ,sS]
      refine tkH 29 48 undef hH ?_ (hy:=Or.inr ⟨by rfl,rfl⟩)
      simp only[Act.put,sA,sZ,sS]
      refine tkH 30 49 (.bool false) hH ?_
      simp only[Act.put,sA,sZ,sS]
      refine wpAnyH_done (by kernel_rfl) ?_ _
      all_goals
       go_wp2
       go_roundw
       case rel=>exact⟨k+1,nv',by omega,by go_num,by rw[HS.out];exact HPk.out.drew,gD HGr.out⟩
       case measure=>simp[intOf];omega
     ·cases th:ck.has m
      ·rw[th] at qh
       have HS:Hid (c.dones (ofL f.node) ((f.ats.zip f.vals).take (k+1))={ ck with has:=upd ck.has m true,vals:=upd ck.vals m u }):=by
        unfold Hid
        rw[HS0.out]
        unfold aG.done1
        rw[if_pos]
        ·simp
        ·exact⟨by simpa using tl,by have:=HT.out.trans tt;simpa using this,by simpa using th⟩
       have fh:wr.frozen? ⟨B,16+m,none⟩=false:=HPk.out.blk.frozen _
       have fv:wr.frozen? ⟨B,20+m,none⟩=false:=HPk.out.blk.frozen _
       have qv:=HPk.out.box.vals hm4
       clear tl th
       go_wp2
       refine wp_region_held_drew (S:=fun w'=>w'.cell? ⟨B,2,none⟩=some (.slice (some ⟨b2,o2,none⟩) ck.ops.length c2)∧w'.cell? ⟨b2,o2+m*3+1,none⟩=some (.int .i64 x1)∧w'.cell? ⟨w.heap.size,1,none⟩=some (.int .i64 f.node)∧w'.cell? ⟨B,16+m,none⟩=some (.bool false)) (by kernel_rfl) ⟨q2,e1,k1,qh⟩ ?_
       intro hH
       refine tkH 0 19 (.int .i64 m) hH ?_
       simp only[Act.put,sA,sZ,sS]
       refine tkH 1 20 (.pointer (some ⟨B,0,none⟩)) hH ?_
       simp only[Act.put,sA,sZ,sS]
       refine tkH 2 21 (.pointer (some ⟨B,0,none⟩)) hH ?_
       simp only[Act.put,sA,sZ,sS]
       refine tkH 3 22 (.pointer (some ⟨B,2,none⟩)) hH ?_
       simp only[Act.put,sA,sZ,sS]
       refine tkH 4 23 (.slice (some ⟨b2,o2,none⟩) ck.ops.length c2) hH ?_ (hy:=Or.inl ⟨by rfl,fun _ hS=>by obtain⟨hS1,hS2,hS3,hS4⟩:=hS;go_simp⟩)
       simp only[Act.put,sA,sZ,sS]
       refine tkH 5 24 (.int .i64 ck.ops.length) hH ?_
       simp only[Act.put,sA,sZ,sS]
       refine tkH 6 25 (.bool true) hH ?_
       simp only[Act.put,sA,sZ,sS]
       refine tkH 7 26 (.bool true) hH ?_
       simp only[Act.put,sA,sZ,sS]
       refine tkH 8 27 (.pointer (some ⟨B,0,none⟩)) hH ?_
       simp only[Act.put,sA,sZ,sS]
       refine tkH 9 28 (.pointer (some ⟨B,0,none⟩)) hH ?_
       simp only[Act.put,sA,sZ,sS]
       refine tkH 10 29 (.pointer (some ⟨B,2,none⟩)) hH ?_
       simp only[Act.put,sA,sZ,sS]
       refine tkH 11 30 (.slice (some ⟨b2,o2,none⟩) ck.ops.length c2) hH ?_ (hy:=Or.inl ⟨by rfl,fun _ hS=>by obtain⟨hS1,hS2,hS3,hS4⟩:=hS;go_simp⟩)
       simp only[Act.put,sA,sZ,sS]
       refine tkH 12 31 (.int .i64 m) hH ?_
       simp only[Act.put,sA,sZ,sS]
       refine tkH 13 32 (.pointer (some ⟨b2,o2+m*3,none⟩)) hH ?_
       simp only[Act.put,sA,sZ,sS]
       refine tkH 14 33 (.pointer (some ⟨b2,o2+m*3+1,none⟩)) hH ?_
       simp only[Act.put,sA,sZ,sS]
       refine tkH 15 34 (.int .i64 x1) hH ?_ (hy:=Or.inl ⟨by rfl,fun _ hS=>by obtain⟨hS1,hS2,hS3,hS4⟩:=hS;go_simp⟩)
       simp only[Act.put,sA,sZ,sS]
       refine tkH 17 36 (.pointer (some ⟨w.heap.size,1,none⟩)) hH ?_
       simp only[Act.put,sA,sZ,sS]
       refine tkH 18 37 (.int .i64 f.node) hH ?_ (hy:=Or.inl ⟨by rfl,fun _ hS=>by obtain⟨hS1,hS2,hS3,hS4⟩:=hS;go_simp⟩)
       simp only[Act.put,sA,sZ,sS]
       refine wpAnyH_ready (rs:=[16]) (by kernel_rfl) (by simp) ?_
       refine AllReadyH.cons rfl (fun K hK=>?_) AllReadyH.nil
       go_simp
       refine (gO _ _).mono ?_
       rintro e w1 ⟨rfl,hw1⟩
       subst hw1
       go_wp2_with fail
       refine hK.out _ _ (hH) (fun hH2=>?_)
       clear hK K hH
       have hH:=hH2
       clear hH2
       refine wpAnyH_ready (rs:=[19]) (by kernel_rfl) (by simp) ?_
       refine AllReadyH.cons rfl (fun K hK=>?_) AllReadyH.nil
       go_simp
       refine (iN _ _).mono ?_
       rintro e w1 ⟨rfl,hw1⟩
       subst hw1
       go_wp2_with fail
       refine hK.out _ _ (hH) (fun hH2=>?_)
       clear hK K hH
       have hH:=hH2
       clear hH2
       refine tkH 20 39 (.bool true) hH ?_
       simp only[Act.put,sA,sZ,sS]
       refine tkH 21 40 (.bool true) hH ?_
       simp only[Act.put,sA,sZ,sS]
       refine tkH 22 41 (.bool true) hH ?_
       simp only[Act.put,sA,sZ,sS]
       refine tkH 23 42 (.pointer (some ⟨B,0,none⟩)) hH ?_
       simp only[Act.put,sA,sZ,sS]
       refine tkH 24 43 (.int .i64 m) hH ?_
       simp only[Act.put,sA,sZ,sS]
       refine tkH 25 44 (.pointer (some ⟨B,0,none⟩)) hH ?_
       simp only[Act.put,sA,sZ,sS]
       refine tkH 26 45 (.pointer (some ⟨B,16,none⟩)) hH ?_
       simp only[Act.put,sA,sZ,sS]
       refine tkH 27 46 (.pointer (some ⟨B,16+m,none⟩)) hH ?_
       simp only[Act.put,sA,sZ,sS]
       refine tkH 28 47 (.bool false) hH ?_ (hy:=Or.inl ⟨by rfl,fun _ hS=>by obtain⟨hS1,hS2,hS3,hS4⟩:=hS;go_simp⟩)
       simp only[Act.put,sA,sZ,sS]
       refine tkH 29 48 (.bool true) hH ?_
       simp only[Act.put,sA,sZ,sS]
       refine tkH 30 49 (.bool true) hH ?_
       simp only[Act.put,sA,sZ,sS]
       refine wpAnyH_done (by kernel_rfl) ?_ _
       go_wp2
       have z1:¬ b6=B:=by omega
       have z2:¬ w.heap.size=B:=by omega
       go_region
       all_goals
        go_wp2
        go_roundw
        case rel=>
         have p1:=HPk.out.drew.drew.put (16+m) (.bool true) (HPk.out.drew.drew.case.putHas hm4 true)
         have p2:=p1.put (20+m) (.int .i64 u) (p1.case.putVal hm4 u)
         exact⟨k+1,_,by omega,by go_num,by rw[HS.out];exact p2,aM (aM (gD (gD HGr.out)) _ _) _ _⟩
        case measure=>simp[intOf];omega
      ·rw[th] at qh
       have HS:Hid (c.dones (ofL f.node) ((f.ats.zip f.vals).take (k+1))=ck):=by
        unfold Hid
        rw[HS0.out]
        unfold aG.done1
        rw[if_neg]
        rintro⟨_,_,e⟩
        have e:ck.has m=false:=by simpa using e
        rw[th] at e;cases e
       clear tl th
       go_wp2
       refine wp_region_held_drew (S:=fun w'=>w'.cell? ⟨B,2,none⟩=some (.slice (some ⟨b2,o2,none⟩) ck.ops.length c2)∧w'.cell? ⟨b2,o2+m*3+1,none⟩=some (.int .i64 x1)∧w'.cell? ⟨w.heap.size,1,none⟩=some (.int .i64 f.node)∧w'.cell? ⟨B,16+m,none⟩=some (.bool true)) (by kernel_rfl) ⟨q2,e1,k1,qh⟩ ?_
       intro hH
       refine tkH 0 19 (.int .i64 m) hH ?_
       simp only[Act.put,sA,sZ,sS]
       refine tkH 1 20 (.pointer (some ⟨B,0,none⟩)) hH ?_
       simp only[Act.put,sA,sZ,sS]
       refine tkH 2 21 (.pointer (some ⟨B,0,none⟩)) hH ?_
       simp only[Act.put,sA,sZ,sS]
       refine tkH 3 22 (.pointer (some ⟨B,2,none⟩)) hH ?_
       simp only[Act.put,sA,sZ,sS]
       refine tkH 4 23 (.slice (some ⟨b2,o2,none⟩) ck.ops.length c2) hH ?_ (hy:=Or.inl ⟨by rfl,fun _ hS=>by obtain⟨hS1,hS2,hS3,hS4⟩:=hS;go_simp⟩)
       simp only[Act.put,sA,sZ,sS]
       refine tkH 5 24 (.int .i64 ck.ops.length) hH ?_
       simp only[Act.put,sA,sZ,sS]
       refine tkH 6 25 (.bool true) hH ?_
       simp only[Act.put,sA,sZ,sS]
       refine tkH 7 26 (.bool true) hH ?_
       simp only[Act.put,sA,sZ,sS]
       refine tkH 8 27 (.pointer (some ⟨B,0,none⟩)) hH ?_
       simp only[Act.put,sA,sZ,sS]
       refine tkH 9 28 (.pointer (some ⟨B,0,none⟩)) hH ?_
       simp only[Act.put,sA,sZ,sS]
       refine tkH 10 29 (.pointer (some ⟨B,2,none⟩)) hH ?_
       simp only[Act.put,sA,sZ,sS]
       refine tkH 11 30 (.slice (some ⟨b2,o2,none⟩) ck.ops.length c2) hH ?_ (hy:=Or.inl ⟨by rfl,fun _ hS=>by obtain⟨hS1,hS2,hS3,hS4⟩:=hS;go_simp⟩)
       simp only[Act.put,sA,sZ,sS]
       refine tkH 12 31 (.int .i64 m) hH ?_
       simp only[Act.put,sA,sZ,sS]
       refine tkH 13 32 (.pointer (some ⟨b2,o2+m*3,none⟩)) hH ?_
       simp only[Act.put,sA,sZ,sS]
       refine tkH 14 33 (.pointer (some ⟨b2,o2+m*3+1,none⟩)) hH ?_
       simp only[Act.put,sA,sZ,sS]
       refine tkH 15 34 (.int .i64 x1) hH ?_ (hy:=Or.inl ⟨by rfl,fun _ hS=>by obtain⟨hS1,hS2,hS3,hS4⟩:=hS;go_simp⟩)
       simp only[Act.put,sA,sZ,sS]
       refine tkH 17 36 (.pointer (some ⟨w.heap.size,1,none⟩)) hH ?_
       simp only[Act.put,sA,sZ,sS]
       refine tkH 18 37 (.int .i64 f.node) hH ?_ (hy:=Or.inl ⟨by rfl,fun _ hS=>by obtain⟨hS1,hS2,hS3,hS4⟩:=hS;go_simp⟩)
       simp only[Act.put,sA,sZ,sS]
       refine wpAnyH_ready (rs:=[16]) (by kernel_rfl) (by simp) ?_
       refine AllReadyH.cons rfl (fun K hK=>?_) AllReadyH.nil
       go_simp
       refine (gO _ _).mono ?_
       rintro e w1 ⟨rfl,hw1⟩
       subst hw1
       go_wp2_with fail
       refine hK.out _ _ (hH) (fun hH2=>?_)
       clear hK K hH
       have hH:=hH2
       clear hH2
       refine wpAnyH_ready (rs:=[19]) (by kernel_rfl) (by simp) ?_
       refine AllReadyH.cons rfl (fun K hK=>?_) AllReadyH.nil
       go_simp
       refine (iN _ _).mono ?_
       rintro e w1 ⟨rfl,hw1⟩
       subst hw1
       go_wp2_with fail
       refine hK.out _ _ (hH) (fun hH2=>?_)
       clear hK K hH
       have hH:=hH2
       clear hH2
       refine tkH 20 39 (.bool true) hH ?_
       simp only[Act.put,sA,sZ,sS]
       refine tkH 21 40 (.bool true) hH ?_
       simp only[Act.put,sA,sZ,sS]
       refine tkH 22 41 (.bool true) hH ?_
       simp only[Act.put,sA,sZ,sS]
       refine tkH 23 42 (.pointer (some ⟨B,0,none⟩)) hH ?_
       simp only[Act.put,sA,sZ,sS]
       refine tkH 24 43 (.int .i64 m) hH ?_
       simp only[Act.put,sA,sZ,sS]
       refine tkH 25 44 (.pointer (some ⟨B,0,none⟩)) hH ?_
       simp only[Act.put,sA,sZ,sS]
       refine tkH 26 45 (.pointer (some ⟨B,16,none⟩)) hH ?_
       simp only[Act.put,sA,sZ,sS]
       refine tkH 27 46 (.pointer (some ⟨B,16+m,none⟩)) hH ?_
       simp only[Act.put,sA,sZ,sS]
       refine tkH 28 47 (.bool true) hH ?_ (hy:=Or.inl ⟨by rfl,fun _ hS=>by obtain⟨hS1,hS2,hS3,hS4⟩:=hS;go_simp⟩)
       simp only[Act.put,sA,sZ,sS]
       refine tkH 29 48 (.bool false) hH ?_
       simp only[Act.put,sA,sZ,sS]
       refine tkH 30 49 (.bool false) hH ?_
       simp only[Act.put,sA,sZ,sS]
       refine wpAnyH_done (by kernel_rfl) ?_ _
       all_goals
        go_wp2
        go_roundw
        case rel=>exact⟨k+1,nv',by omega,by go_num,by rw[HS.out];exact HPk.out.drew,gD HGr.out⟩
        case measure=>simp[intOf];omega
    ·have dl:decide ((m:Int)<(ck.ops.length:Int))=false:=decide_eq_false (by omega)
     have HS:Hid (c.dones (ofL f.node) ((f.ats.zip f.vals).take (k+1))=ck):=by
      unfold Hid
      rw[HS0.out]
      unfold aG.done1
      rw[if_neg]
      rintro⟨e,_⟩
      exact tl (by simpa using e)
     have tl':ck.ops.length≤m:=by omega
     clear tl
     go_wp2
     refine wp_region_held_drew (S:=fun w'=>w'.cell? ⟨B,2,none⟩=some (.slice a2 ck.ops.length c2)∧w'.cell? ⟨w.heap.size,1,none⟩=some (.int .i64 f.node)∧w'.cell? ⟨B,16+m,none⟩=some (.bool (ck.has m))) (by kernel_rfl) ⟨q2,k1,qh⟩ ?_
     intro hH
     refine tkH 0 19 (.int .i64 m) hH ?_
     simp only[Act.put,sA,sZ,sS]
     refine tkH 1 20 (.pointer (some ⟨B,0,none⟩)) hH ?_
     simp only[Act.put,sA,sZ,sS]
     refine tkH 2 21 (.pointer (some ⟨B,0,none⟩)) hH ?_
     simp only[Act.put,sA,sZ,sS]
     refine tkH 3 22 (.pointer (some ⟨B,2,none⟩)) hH ?_
     simp only[Act.put,sA,sZ,sS]
     refine tkH 4 23 (.slice a2 ck.ops.length c2) hH ?_ (hy:=Or.inl ⟨by rfl,fun _ hS=>by obtain⟨hS1,hS3,hS4⟩:=hS;go_simp⟩)
     simp only[Act.put,sA,sZ,sS]
     refine tkH 5 24 (.int .i64 ck.ops.length) hH ?_
     simp only[Act.put,sA,sZ,sS]
     refine tkH 6 25 (.bool false) hH ?_
     simp only[Act.put,sA,sZ,sS]
     refine tkH 7 26 (.bool false) hH ?_
     simp only[Act.put,sA,sZ,sS]
     refine tkH 8 27 undef hH ?_ (hy:=Or.inr ⟨by rfl,rfl⟩)
     simp only[Act.put,sA,sZ,sS]
     refine tkH 9 28 undef hH ?_ (hy:=Or.inr ⟨by rfl,rfl⟩)
     simp only[Act.put,sA,sZ,sS]
     refine tkH 10 29 undef hH ?_ (hy:=Or.inr ⟨by rfl,rfl⟩)
     simp only[Act.put,sA,sZ,sS]
     refine tkH 11 30 undef hH ?_ (hy:=Or.inr ⟨by rfl,rfl⟩)
     simp only[Act.put,sA,sZ,sS]
     refine tkH 12 31 undef hH ?_ (hy:=Or.inr ⟨by rfl,rfl⟩)
     simp only[Act.put,sA,sZ,sS]
     refine tkH 13 32 undef hH ?_ (hy:=Or.inr ⟨by rfl,rfl⟩)
     simp only[Act.put,sA,sZ,sS]
     refine tkH 14 33 undef hH ?_ (hy:=Or.inr ⟨by rfl,rfl⟩)
     simp only[Act.put,sA,sZ,sS]
     refine tkH 15 34 undef hH ?_ (hy:=Or.inr ⟨by rfl,rfl⟩)
     simp only[Act.put,sA,sZ,sS]
     refine tkH 16 35 undef hH ?_ (hy:=Or.inr ⟨by rfl,rfl⟩)
     simp only[Act.put,sA,sZ,sS]
     refine tkH 17 36 undef hH ?_ (hy:=Or.inr ⟨by rfl,rfl⟩)
     simp only[Act.put,sA,sZ,sS]
     refine tkH 18 37 undef hH ?_ (hy:=Or.inr ⟨by rfl,rfl⟩)
     simp only[Act.put,sA,sZ,sS]
     refine tkH 19 38 undef hH ?_ (hy:=Or.inr ⟨by rfl,rfl⟩)
     simp only[Act.put,sA,sZ,sS]
     refine tkH 20 39 undef hH ?_ (hy:=Or.inr ⟨by rfl,rfl⟩)
     simp only[Act.put,sA,sZ,sS]
     refine tkH 21 40 (.bool false) hH ?_
     simp only[Act.put,sA,sZ,sS]
     refine tkH 22 41 (.bool false) hH ?_
     simp only[Act.put,sA,sZ,sS]
     refine tkH 23 42 undef hH ?_ (hy:=Or.inr ⟨by rfl,rfl⟩)
     simp only[Act.put,sA,sZ,sS]
     refine tkH 24 43 undef hH ?_ (hy:=Or.inr ⟨by rfl,rfl⟩)
     simp only[Act.put,sA,sZ,sS]
     refine tkH 25 44 undef hH ?_ (hy:=Or.inr ⟨by rfl,rfl⟩)
     simp only[Act.put,sA,sZ,sS]
     refine tkH 26 45 undef hH ?_ (hy:=Or.inr ⟨by rfl,rfl⟩)
     simp only[Act.put,sA,sZ,sS]
     refine tkH 27 46 undef hH ?_ (hy:=Or.inr ⟨by rfl,rfl⟩)
     simp only[Act.put,sA,sZ,sS]
     refine tkH 28 47 undef hH ?_ (hy:=Or.inr ⟨by rfl,rfl⟩)
     simp only[Act.put,sA,sZ,sS]
     refine tkH 29 48 undef hH ?_ (hy:=Or.inr ⟨by rfl,rfl⟩)
     simp only[Act.put,sA,sZ,sS]
     refine tkH 30 49 (.bool false) hH ?_
     simp only[Act.put,sA,sZ,sS]
     refine wpAnyH_done (by kernel_rfl) ?_ _
     all_goals
      go_wp2
      go_roundw
      case rel=>exact⟨k+1,nv',by omega,by go_num,by rw[HS.out];exact HPk.out.drew,gD HGr.out⟩
      case measure=>simp[intOf];omega
   ·have hke:k=f.ats.length:=by omega
    have HF:Hid (cM lo B wr nv' d):=by
     unfold Hid
     rw[HE.out]
     have:(f.ats.zip f.vals).take k=f.ats.zip f.vals:=List.take_of_length_le (by have:=HVL.out;rw[List.length_zip];omega)
     rw[←this]
     exact HPk.out
    have HGF:Hid (w.grownBy wr (some B)):=gG HGw.out HGr.out
    clear hPk hGk hke
    go_wp2
    go_end0
    exact⟨rfl,nv',HF.out,HGF.out⟩
theorem tH (c:Nat) (S:Nat→Bool) (a:Option Addr) (cap:Nat) (zs:List Int) (w:World) (hl:zs.length≤maxLen) (hz:dA c w a zs) (hs:c7 32 w c S):
  Calls Tryz.prog 137 #[.pointer (some ⟨c,0,none⟩),.slice a zs.length cap] w fun e w'=>e= .returned (.tuple #[])∧c7 32 w' c (fun i=>S i || zs.contains (i:Int))∧Below c w w':=by
 unfold maxLen at hl
 rcases hz with rfl | ⟨b,off,rfl,hb,hc⟩
 ·go_enter Tryz.func137,Tryz.ntmps137
  go_wp2
  refine wp_loop_rounds 1 ?_;rw[rounds_succ]
  go_wp2
  go_end0
  exact⟨rfl,hs.congr (by simp),Below.refl _ _⟩
 ·go_enter Tryz.func137,Tryz.ntmps137
  go_wp2
  go_loopw [8] (fun i wr=>∃k:Nat,k≤zs.length∧i= .int .i64 k∧c7 32 wr c (fun i=>S i || (zs.take k).contains (i:Int))∧Below c w wr) (fun i _=>zs.length-(intOf i).toNat)
  case atStart=>exact⟨0,Nat.zero_le _,rfl,hs.congr (by simp),Below.refl _ _⟩
  case round=>
   obtain⟨k,hk,rfl,hS,hBw⟩:=hrel
   have hsz:=hBw.size
   by_cases hlt:k<zs.length
   ·obtain⟨q,Hq⟩:∃q:Int,Hid (zs.getD k 0=q):=⟨_,rfl⟩
    have e0:wr.cell? ⟨b,off+k,none⟩=some (.int .i64 q):=by rw[hBw.cell (p:=⟨b,off+k,none⟩) hb,←Hq.out];exact hc k hlt
    have cs:=nL hlt Hq.out
    have HC:Hid (∀i:Nat,(zs.take (k+1)).contains (i:Int)=((zs.take k).contains (i:Int) || (i:Int) == q)):=cs
    clear cs hc
    by_cases t1:0≤q
    ·by_cases t2:q<32
     ·obtain⟨m,rfl⟩:=Int.eq_ofNat_of_zero_le t1
      have hm:m<32:=by omega
      have f0:=hS.cell hm
      have f1:=hS.frozen m
      have HS:Hid (c7 32 wr c (fun i=>S i || (zs.take k).contains (i:Int))):=hS
      clear hS
      go_wp2
      go_roundw
      case rel=>exact⟨k+1,by omega,by go_num,(HS.out.put m true).congr (fun i _=>by rw[HC.out];exact wF _ _ _ _),hBw.setCell (by simp) _⟩
      case measure=>simp[intOf];omega
     ·go_wp2
      go_roundw
      case rel=>exact⟨k+1,by omega,by go_num,hS.congr (fun i hi=>by rw[HC.out];exact CY _ _ (by omega)),hBw⟩
      case measure=>simp[intOf];omega
    ·go_wp2
     go_roundw
     case rel=>exact⟨k+1,by omega,by go_num,hS.congr (fun i hi=>by rw[HC.out];exact CY _ _ (by omega)),hBw⟩
     case measure=>simp[intOf];omega
   ·go_wp2
    go_end0
    exact⟨rfl,hS.congr (fun i hi=>by rw[List.take_of_length_le (by omega)]),hBw⟩
def kI (a b:List Int) (i:Nat):Bool:=a.contains (i:Int) || b.contains (i:Int)
def gK (a b:List Int):List Int:=cN (kI a b) 32
theorem yF (a:Option Addr) (cap:Nat) (zs:List Int) (a':Option Addr) (cap':Nat) (ys:List Int) (w:World) (hl:zs.length≤maxLen) (hz:dA w.heap.size w a zs) (hl':ys.length≤maxLen) (hy:dA w.heap.size w a' ys):
  Calls Tryz.prog 132 #[.slice a zs.length cap,.slice a' ys.length cap'] w fun e w'=>∃v,e= .returned v∧w'.ownsRow w.heap.size 3 1 v (gK zs ys).length ((gK zs ys).map (Value.int .i64))∧Below w.heap.size w w':=by
 obtain⟨i0,hi,hz0,hz1,hz2⟩:=info_parts Tryz.infoInt
 go_enter Tryz.func132,Tryz.ntmps132
 go_wp2_with fail
 have hb0:Below w.heap.size w (w.alloc (.cells (aK 32 (fun _=>false)) 62)):=(Below.refl _ _).alloc (Nat.le_refl _) _
 have hS0:c7 32 (w.alloc (.cells (aK 32 (fun _=>false)) 62)) w.heap.size (fun _=>false):=⟨62,aJ _ _⟩
 rw[←Tryz.zero62]
 refine (tH w.heap.size (fun _=>false) a cap zs _ hl (hz.later hb0) hS0).mono ?_
 rintro e w1 ⟨rfl,hS1,hb1⟩
 have hb2:=hb0.trans hb1
 clear hb0 hS0 hb1
 go_wp2_with fail
 refine (tH w.heap.size _ a' cap' ys _ hl' (hy.later hb2) hS1).mono ?_
 rintro e w2 ⟨rfl,hS2,hb3⟩
 have hb4:=hb2.trans hb3
 have hS:c7 32 w2 w.heap.size (kI zs ys):=hS2.congr (fun i _=>by simp[kI])
 clear hb2 hS1 hb3 hS2
 obtain⟨t,ht⟩:=hS
 go_wp2_with (refine wpList_load_row rfl 62 _ rfl w.heap.size rfl t _ (0,0) _ ht Tryz.underlying62 rfl (by rw[lG];exact Tryz.infoSet) ?_)
 have hsz:=hb4.size
 clear ht
 go_loopw [6,14] (fun v i wr=>∃k:Nat,k≤32∧i= .int .i64 k∧wr.ownsRow w.heap.size 3 1 v (cN (kI zs ys) k).length ((cN (kI zs ys) k).map (Value.int .i64))∧Below w.heap.size w wr) (fun _ i _=>32-(intOf i).toNat)
 case atStart=>exact⟨0,Nat.zero_le _,rfl,World.ownsRow_nil _ _ _ _,hb4⟩
 case round=>
  obtain⟨k,hk,rfl,hown,hB⟩:=hrel
  have hsz1:=hB.size
  by_cases hlt:k<32
  ·have hix:=fun wx=>iF Tryz.underlying62 Tryz.underlying4 Tryz.infoBool (kI zs ys) hlt wx
   have hlen:=lU (kI zs ys) k
   cases tk:kI zs ys k
   ·rw[tk] at hix
    have HM:Hid (cN (kI zs ys) (k+1)=cN (kI zs ys) k):=lC tk
    go_wp2
    go_roundw
    case rel=>exact⟨k+1,by omega,by go_num,by rw[HM.out];exact hown,hB⟩
    case measure=>simp[intOf];omega
   ·rw[tk] at hix
    have HM:Hid (cN (kI zs ys) (k+1)=cN (kI zs ys) k++[(k:Int)]):=pJ tk
    go_wp2_with (first
     | (at_builtin;refine wpList_append_own _ rfl _ _ 26 rfl w.heap.size 3 i0 (.int .i64 0) 1 8 Tryz.underlying26 hi hz0 hz1 hz2 rfl (by decide) _ _ _ rfl (hown.alloc _) ⟨wr.heap.size,0,none⟩ 1 1 [.int .i64 k] rfl rfl ?c1 ?c2 ?c3 ?c4 ?c5 ?_)
     | go_in)
    case c1=>
     intro j u hj
     match j,hj with
     | 0,hj=>simp at hj;subst hj;simp[Addr.add]
    case c2=>intro u hu;simp at hu;subst hu;rfl
    case c3=>unfold maxLen;omega
    case c4=>omega
    case c5=>simp;omega
    ·intro v' w3 hown' hgrow _
     have hB':Below w.heap.size w w3:=(hB.alloc hsz1 _).grown hgrow (by simp;omega) (gH hown)
     clear hgrow hown hix
     go_wp2
     go_roundw
     case rel=>exact⟨k+1,by omega,by go_num,by rw[HM.out];simpa using hown',hB'⟩
     case measure=>simp[intOf];omega
  ·have e:k=32:=by omega
   subst e
   go_wp2
   go_ret
   exact⟨_,rfl,hown,hB⟩
end Go.Proofs.YtkoefoccbjhoiacGreat
