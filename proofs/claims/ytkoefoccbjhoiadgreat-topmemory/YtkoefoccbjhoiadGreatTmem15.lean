/-
squeezed by tools/squeeze.py from: CTakeA CTakeB CTakeC CTakeD CTake QComeC QTakeA QTakeB
-/
import Derived.Test.YtkoefoccbjhoiadGreatTmem13
import Derived.Test.YtkoefoccbjhoiadGreatTmem14
set_option linter.unusedVariables false
set_option linter.unusedSimpArgs false
set_option maxRecDepth 100000
set_option maxHeartbeats 16000000
namespace Go.Proofs.YtkoefoccbjhoiadGreat
open Go.RowKit
theorem ML (gr:Array Value) (c:aE) (id:Int) (v:Value) (f:aD) (w:World) (h:cM w gr c) (hf:bP w v f) (t0:eX c id f≠0):
    Calls Tryz.prog 90 #[.agg gr,.int .i64 id,v] w fun e w'=>∃gr' x,e= .returned (.tuple #[.agg gr',x,.int .i64 (aO c id f).2.2])∧mG w.heap.size w' gr' (aO c id f).1∧aI w.heap.size w' x (aO c id f).2.1∧Below w.heap.size w w':=by
  have Ht0:Hid (eX c id f≠0):=t0
  clear t0
  have HE:Hid (aO c id f=(c,[],eX c id f)):=AT Ht0.out
  have d0:(eX c id f !=0)=true:=by have:=Ht0.out;simpa using this
  have HFB:Hid (dN w.heap.size w v f):=hf.b
  obtain⟨a3,c3,a4,c4,a5,c5,a6,c6,rfl,_⟩:=hf
  obtain⟨zr,hzr⟩:=zNm (aB 24 zcv)
  have HZL:Hid ((#[.bool false,.bool false,.slice none 0 0,.bool false,.bool false,.bool false,.bool false,.bool false,.bool false,.bool false,.bool false,.bool false,.bool false,.bool false,.bool false,.slice none 0 0,.bool false,.bool false,.bool false,.bool false,.int .i64 0,.int .i64 0,.int .i64 0,.int .i64 0]:Array Value)=zr):=by unfold Hid;rw[hzr];rfl
  have hzz:zr.size=24:=by rw[hzr,aH]
  obtain⟨W,hW⟩:=zNm (((w.alloc (.cells gr 51)).alloc (.cells #[.int .i64 f.kind,.int .i64 f.node,.int .i64 f.id,.slice a3 f.ops.length c3,.slice a4 f.deps.length c4,.slice a5 f.ats.length c5,.slice a6 f.vals.length c6] 104)).alloc (.cells zr 51))
  have hb:=zB3 hW
  have hzW:W.heap.size=w.heap.size+3:=by rw[hW,size_push,size_push,size_push]
  obtain⟨r0,r1,r2⟩:=qE w (.cells gr 51) (.cells #[.int .i64 f.kind,.int .i64 f.node,.int .i64 f.id,.slice a3 f.ops.length c3,.slice a4 f.deps.length c4,.slice a5 f.ats.length c5,.slice a6 f.vals.length c6] 104) (.cells zr 51)
  rw[←hW] at r0 r1 r2
  have hB:aZ w.heap.size W gr c:=⟨r0,h.later hb⟩
  obtain⟨a2,c2,q2,hs2,hl2⟩:=hB.ops
  obtain⟨a15,c15,q15,hs15,hl15⟩:=hB.deps
  obtain⟨nv,hnv,hcc⟩:=h
  have HW:Hid (W=((w.alloc (.cells gr 51)).alloc (.cells #[.int .i64 f.kind,.int .i64 f.node,.int .i64 f.id,.slice a3 f.ops.length c3,.slice a4 f.deps.length c4,.slice a5 f.ats.length c5,.slice a6 f.vals.length c6] 104)).alloc (.cells zr 51)):=hW
  have HR1:Hid (W.heap[w.heap.size+1]? =some (.cells #[.int .i64 f.kind,.int .i64 f.node,.int .i64 f.id,.slice a3 f.ops.length c3,.slice a4 f.deps.length c4,.slice a5 f.ats.length c5,.slice a6 f.vals.length c6] 104 (0,0))):=r1
  have HR2:Hid (W.heap[w.heap.size+2]? =some (.cells zr 51 (0,0))):=r2
  have Hbw:Hid (Below w.heap.size w W):=hb
  have HC1:Hid (∀wx,wx=W.drew→Calls Tryz.prog 35 #[.slice a2 c.ops.length c2] wx fun e w'=>∃ao co,e= .returned (.slice ao c.ops.length co)∧Hid (w'.ownsRow W.heap.size 46 3 (.slice ao c.ops.length co) c.ops.length (cE c.ops))∧Hid (Below W.heap.size W w')∧w'.cell? ⟨w.heap.size,15,none⟩=some (.slice a15 c.deps.length c15)):=by
    rintro wx rfl
    refine (gG a2 c2 c.ops _ (hs2.later (Below.drew (Below.refl _ _))) hl2).mono ?_
    rintro e w1 ⟨v,rfl,hv,_,hb1⟩
    obtain⟨ao,co,rfl,_,_⟩:=bD hv
    have hb1':Below W.heap.size W w1:=(Below.drew (Below.refl _ _)).trans hb1
    exact⟨ao,co,rfl,hv,hb1',by rw[hb1'.cell (p:=⟨w.heap.size,15,none⟩) (show w.heap.size<W.heap.size by omega)];exact q15⟩
  have HC2:Hid (∀wx,Below W.heap.size W wx→Calls Tryz.prog 36 #[.slice a15 c.deps.length c15] wx fun e w'=>∃ad cd,e= .returned (.slice ad c.deps.length cd)∧Hid (w'.ownsRow wx.heap.size 3 1 (.slice ad c.deps.length cd) c.deps.length (aS c.deps))∧Hid (Below wx.heap.size wx w')∧
      w'.cell? ⟨w.heap.size,2,none⟩=some (.slice a2 c.ops.length c2)∧w'.cell? ⟨w.heap.size,15,none⟩=some (.slice a15 c.deps.length c15)∧w'.frozen? ⟨w.heap.size,2,none⟩=false∧w'.frozen? ⟨w.heap.size,15,none⟩=false):=by
    intro wx hx
    refine (cY a15 c15 c.deps wx (hs15.later hx) hl15).mono ?_
    rintro e w1 ⟨v,rfl,hv,_,hb1⟩
    obtain⟨ad,cd,rfl,_,_⟩:=bD hv
    have hz:=hx.size
    have hrow:w1.heap[w.heap.size]? =some (.cells gr 51 (0,0)):=by rw[hb1.block _ (by omega),hx.block _ (by omega)];exact r0
    refine⟨ad,cd,rfl,hv,hb1,?_,?_,frozen_of_row _ _ _ _ _ hrow,frozen_of_row _ _ _ _ _ hrow⟩
    ·rw[hb1.cell (p:=⟨w.heap.size,2,none⟩) (show w.heap.size<wx.heap.size by omega),hx.cell (p:=⟨w.heap.size,2,none⟩) (show w.heap.size<W.heap.size by omega)];exact q2
    ·rw[hb1.cell (p:=⟨w.heap.size,15,none⟩) (show w.heap.size<wx.heap.size by omega),hx.cell (p:=⟨w.heap.size,15,none⟩) (show w.heap.size<W.heap.size by omega)];exact q15
  have HPT:Hid (∀w1 w2 ao co ad cd,w1.ownsRow W.heap.size 46 3 (.slice ao c.ops.length co) c.ops.length (cE c.ops)→Below W.heap.size W w1→w2.ownsRow w1.heap.size 3 1 (.slice ad c.deps.length cd) c.deps.length (aS c.deps)→Below w1.heap.size w1 w2→
      ∃mv,cH (w.heap.size+3) w.heap.size ((w2.setCell ⟨w.heap.size,2,none⟩ (.slice ao c.ops.length co)).setCell ⟨w.heap.size,15,none⟩ (.slice ad c.deps.length cd)) mv c):=by
    intro w1 w2 ao co ad cd h1 hb1 h2 hb2
    have hz1:=hb1.size
    have hz2:=hb2.size
    have i1:IsO (w.heap.size+3≤·) w2 (.slice ao c.ops.length co) c.ops:=((IsO.of_owns h1 hl2).later (bI.of_size hb2)).mono (fun b _ hb=>by have:=hb.1;show w.heap.size+3≤b;omega)
    have i2:IsI (w.heap.size+3≤·) w2 (.slice ad c.deps.length cd) c.deps:=(IsI.of_owns h2 hl15).mono (fun b _ hb=>by have:=hb.1;show w.heap.size+3≤b;omega)
    refine⟨bJ (bJ nv 2 (.slice ao c.ops.length co)) 15 (.slice ad c.deps.length cd),?_,?_,by omega⟩
    ·rw[heap_setCell_same _ _ _ _ _ _ (heap_setCell_same w2 w.heap.size 2 _ _ _ (show w2.heap[w.heap.size]? =some (.cells gr 51 (0,0)) by rw[hb2.block _ (by omega),hb1.block _ (by omega)];exact r0)),hnv,eJ,eJ]
     rfl
    ·have hoth:bI (w.heap.size+3≤·) w2 ((w2.setCell ⟨w.heap.size,2,none⟩ (.slice ao c.ops.length co)).setCell ⟨w.heap.size,15,none⟩ (.slice ad c.deps.length cd)):=fun k _ hk=>by
        have:w.heap.size+3≤k:=hk
        rw[Below.heap_setCell _ _ _ _ (show k≠w.heap.size by omega),Below.heap_setCell _ _ _ _ (show k≠w.heap.size by omega)]
     refine bT.later ?_ hoth
     exact⟨hcc.begun,hcc.fixed,i1,fun i hi=>by unfold bJ;rw[if_neg (by omega),if_neg (by omega)];exact hcc.told i hi,fun i hi=>by unfold bJ;rw[if_neg (by omega),if_neg (by omega)];exact hcc.known i hi,i2,fun i hi=>by unfold bJ;rw[if_neg (by omega),if_neg (by omega)];exact hcc.has i hi,fun i hi=>by unfold bJ;rw[if_neg (by omega),if_neg (by omega)];exact hcc.vals i hi⟩
  clear hW r0 r1 r2 hB hs2 hs15 hb hzr hnv hcc
  go_enter Tryz.func90,Tryz.ntmps90
  go_upto_region 1 with fail
  rw[HZL.out,←HW.out]
  clear HW HZL
  go_region_with (first
    | (go_at_call 35;refine (HC1.out _ rfl).mono ?_;rintro e w1 ⟨ao,co,rfl,HO1,HB1,k15⟩)
    | (go_at_call 36;refine (HC2.out w1 HB1.out).mono ?_;rintro e w2 ⟨ad,cd,rfl,HO2,HB2,j2,j15,g2,g15⟩))
  all_goals
    obtain⟨mv,hmv⟩:=HPT.out w1 w2 ao co ad cd HO1.out HB1.out HO2.out HB2.out
    obtain⟨X,hX⟩:=zNm ((w2.setCell ⟨w.heap.size,2,none⟩ (.slice ao c.ops.length co)).setCell ⟨w.heap.size,15,none⟩ (.slice ad c.deps.length cd))
    have hzX:w.heap.size+3≤X.heap.size:=by
      have e1:=HB1.out.size
      have e2:=HB2.out.size
      have e3:X.heap.size=w2.heap.size:=by rw[hX];simp[World.setCell]
      omega
    have HGX:Hid (W.grownBy X (some w.heap.size)):=by
      unfold Hid
      rw[hX]
      exact aM (aM (bU (bU (dZ _ _) HB1.out) HB2.out) _ _) _ _
    have HX:Hid (X=(w2.setCell ⟨w.heap.size,2,none⟩ (.slice ao c.ops.length co)).setCell ⟨w.heap.size,15,none⟩ (.slice ad c.deps.length cd)):=hX
    rw[←hX] at hmv
    have HP:Hid (cH (w.heap.size+3) w.heap.size X mv c):=hmv
    obtain⟨hr,ehr⟩:=zNm (aB 24 mv)
    have rX:X.heap[w.heap.size]? =some (.cells hr 51 (0,0)):=by rw[ehr];exact hmv.row
    have tX:iQ Tryz.prog 51 hr.size:=by rw[ehr];exact hmv.box.case.row
    have HCX:Hid (cM X hr c):=by unfold Hid;rw[ehr];exact hmv.box.case
    have HHR:Hid (hr=aB 24 mv):=ehr
    have rF:X.heap[w.heap.size+1]? =some (.cells #[.int .i64 f.kind,.int .i64 f.node,.int .i64 f.id,.slice a3 f.ops.length c3,.slice a4 f.deps.length c4,.slice a5 f.ats.length c5,.slice a6 f.vals.length c6] 104 (0,0)):=by rw[HGX.out.block _ (by omega) (fun e=>by have:=Option.some.inj e;omega)];exact HR1.out
    have HFX:Hid (dN w.heap.size X (.agg #[.int .i64 f.kind,.int .i64 f.node,.int .i64 f.id,.slice a3 f.ops.length c3,.slice a4 f.deps.length c4,.slice a5 f.ats.length c5,.slice a6 f.vals.length c6]) f):=HFB.out.later (j7 Hbw.out HGX.out (by omega))
    clear hX hmv ehr HO1 HO2 HB1 HB2 j2 j15 g2 g15 k15
    rw[←HX.out]
    clear HX
    go_wp2_with (first
      | ((with_reducible apply b7 rX);(· rfl);(· exact tX);(· rfl);simp only[Act.put,sA,sZ,sS])
      | ((with_reducible apply b7 rF);(· rfl);(· exact eB);(· rfl);simp only[Act.put,sA,sZ,sS])
      | fail)
    refine (oN hr c id _ f X HCX.out HFX.out.v).mono ?_
    rintro e w3 ⟨rfl,hb3⟩
    have HP3:Hid (cH (w.heap.size+3) w.heap.size w3 mv c):=HP.out.later hb3
    have HG3:Hid (W.grownBy w3 (some w.heap.size)):=bU HGX.out hb3
    have HF3:Hid (dN w.heap.size w3 (.agg #[.int .i64 f.kind,.int .i64 f.node,.int .i64 f.id,.slice a3 f.ops.length c3,.slice a4 f.deps.length c4,.slice a5 f.ats.length c5,.slice a6 f.vals.length c6]) f):=HFX.out.later (hb3.mono (by omega))
    have hz3:w.heap.size+3≤w3.heap.size:=by have:=hb3.size;omega
    have r3:w3.heap[w.heap.size]? =some (.cells hr 51 (0,0)):=by rw[HHR.out];exact HP3.out.row
    have rF3:=zBk hb3 rF
    have rZ3:w3.heap[w.heap.size+2]? =some (.cells zr 51 (0,0)):=by rw[HG3.out.block _ (by omega) (fun e=>by have:=Option.some.inj e;omega)];exact HR2.out
    have k03:=zCr rF3 0 (.int .i64 f.kind)
    clear hb3 rX rF HP HGX HFX
    have r9:w3.heap[w.heap.size]? =some (.cells hr 51 (0,0)):=by rw[HHR.out];exact HP3.out.row
    have t9:iQ Tryz.prog 51 hr.size:=by rw[HHR.out];exact HP3.out.box.case.row
    have i9:(Tryz.prog.info? 51).map (·.size)=some hr.size:=by rw[HHR.out];exact HP3.out.box.case.info
    have s9:zr.size=hr.size:=by rw[HHR.out,aH];exact hzz
    have o9:hr.all (·.oneCell')=true:=by rw[HHR.out];exact HP3.out.box.case.one
    have rZ9:w3.heap[w.heap.size+2]? =some (.cells zr 51 (0,0)):=by rw[HG3.out.block _ (by omega) (fun e=>by have:=Option.some.inj e;omega)];exact HR2.out
    go_wp2_with (first
      | ((with_reducible apply b7 r9);(· rfl);(· exact t9);(· rfl);simp only[Act.put,sA,sZ,sS])
      | (refine wpList_store_row rfl 51 _ _ rfl (w.heap.size+2) hr rfl rfl 51 _ rZ9 i9 s9 o9 ?_)
      | fail)
    refine bodyPost_ret (v:= .tuple #[.agg hr,.slice none 0 0,.int .i64 (eX c id f)]) (fK Tryz.results90 _ _ (w.heap.size+2) 51 hr (0,0) _ rfl (aU rZ9) Tryz.underlying51 rfl i9 _ _ rfl rfl) rfl ⟨_,_,by rw[HE.out],by rw[HE.out];have hh:=HP3.out.out hr;rw[←HHR.out] at hh;exact hh,by rw[HE.out];exact aI.nil _ _,aP (j7 Hbw.out HG3.out (by omega)) (by omega) _⟩
theorem MM (gr:Array Value) (c:aE) (id:Int) (v:Value) (f:aD) (w:World) (h:cM w gr c) (hf:bP w v f) (t0:eX c id f=0) (t1:f.kind=2):
    Calls Tryz.prog 90 #[.agg gr,.int .i64 id,v] w fun e w'=>∃gr' x,e= .returned (.tuple #[.agg gr',x,.int .i64 (aO c id f).2.2])∧mG w.heap.size w' gr' (aO c id f).1∧aI w.heap.size w' x (aO c id f).2.1∧Below w.heap.size w w':=by
  have Ht0:Hid (eX c id f=0):=t0
  have Ht1:Hid (f.kind=2):=t1
  clear t0 t1
  have HE:Hid (aO c id f=((mT c f).1,(mT c f).2,0)):=IH Ht0.out Ht1.out
  have d0:(eX c id f !=0)=false:=by have:=Ht0.out;simpa using this
  have d2:(f.kind == 2)=true:=by rw[Ht1.out];decide
  have d4:(f.kind == 4)=false:=by rw[Ht1.out];decide
  have d5:(f.kind == 5)=false:=by rw[Ht1.out];decide
  have hg:aL f=0:=(pK Ht0.out).2.2.1
  have HFB:Hid (dN w.heap.size w v f):=hf.b
  obtain⟨a3,c3,a4,c4,a5,c5,a6,c6,rfl,_⟩:=hf
  obtain⟨zr,hzr⟩:=zNm (aB 24 zcv)
  have HZL:Hid ((#[.bool false,.bool false,.slice none 0 0,.bool false,.bool false,.bool false,.bool false,.bool false,.bool false,.bool false,.bool false,.bool false,.bool false,.bool false,.bool false,.slice none 0 0,.bool false,.bool false,.bool false,.bool false,.int .i64 0,.int .i64 0,.int .i64 0,.int .i64 0]:Array Value)=zr):=by unfold Hid;rw[hzr];rfl
  have hzz:zr.size=24:=by rw[hzr,aH]
  obtain⟨W,hW⟩:=zNm (((w.alloc (.cells gr 51)).alloc (.cells #[.int .i64 f.kind,.int .i64 f.node,.int .i64 f.id,.slice a3 f.ops.length c3,.slice a4 f.deps.length c4,.slice a5 f.ats.length c5,.slice a6 f.vals.length c6] 104)).alloc (.cells zr 51))
  have hb:=zB3 hW
  have hzW:W.heap.size=w.heap.size+3:=by rw[hW,size_push,size_push,size_push]
  obtain⟨r0,r1,r2⟩:=qE w (.cells gr 51) (.cells #[.int .i64 f.kind,.int .i64 f.node,.int .i64 f.id,.slice a3 f.ops.length c3,.slice a4 f.deps.length c4,.slice a5 f.ats.length c5,.slice a6 f.vals.length c6] 104) (.cells zr 51)
  rw[←hW] at r0 r1 r2
  have hB:aZ w.heap.size W gr c:=⟨r0,h.later hb⟩
  obtain⟨a2,c2,q2,hs2,hl2⟩:=hB.ops
  obtain⟨a15,c15,q15,hs15,hl15⟩:=hB.deps
  obtain⟨nv,hnv,hcc⟩:=h
  have HW:Hid (W=((w.alloc (.cells gr 51)).alloc (.cells #[.int .i64 f.kind,.int .i64 f.node,.int .i64 f.id,.slice a3 f.ops.length c3,.slice a4 f.deps.length c4,.slice a5 f.ats.length c5,.slice a6 f.vals.length c6] 104)).alloc (.cells zr 51)):=hW
  have HR1:Hid (W.heap[w.heap.size+1]? =some (.cells #[.int .i64 f.kind,.int .i64 f.node,.int .i64 f.id,.slice a3 f.ops.length c3,.slice a4 f.deps.length c4,.slice a5 f.ats.length c5,.slice a6 f.vals.length c6] 104 (0,0))):=r1
  have HR2:Hid (W.heap[w.heap.size+2]? =some (.cells zr 51 (0,0))):=r2
  have Hbw:Hid (Below w.heap.size w W):=hb
  have HC1:Hid (∀wx,wx=W.drew→Calls Tryz.prog 35 #[.slice a2 c.ops.length c2] wx fun e w'=>∃ao co,e= .returned (.slice ao c.ops.length co)∧Hid (w'.ownsRow W.heap.size 46 3 (.slice ao c.ops.length co) c.ops.length (cE c.ops))∧Hid (Below W.heap.size W w')∧w'.cell? ⟨w.heap.size,15,none⟩=some (.slice a15 c.deps.length c15)):=by
    rintro wx rfl
    refine (gG a2 c2 c.ops _ (hs2.later (Below.drew (Below.refl _ _))) hl2).mono ?_
    rintro e w1 ⟨v,rfl,hv,_,hb1⟩
    obtain⟨ao,co,rfl,_,_⟩:=bD hv
    have hb1':Below W.heap.size W w1:=(Below.drew (Below.refl _ _)).trans hb1
    exact⟨ao,co,rfl,hv,hb1',by rw[hb1'.cell (p:=⟨w.heap.size,15,none⟩) (show w.heap.size<W.heap.size by omega)];exact q15⟩
  have HC2:Hid (∀wx,Below W.heap.size W wx→Calls Tryz.prog 36 #[.slice a15 c.deps.length c15] wx fun e w'=>∃ad cd,e= .returned (.slice ad c.deps.length cd)∧Hid (w'.ownsRow wx.heap.size 3 1 (.slice ad c.deps.length cd) c.deps.length (aS c.deps))∧Hid (Below wx.heap.size wx w')∧
      w'.cell? ⟨w.heap.size,2,none⟩=some (.slice a2 c.ops.length c2)∧w'.cell? ⟨w.heap.size,15,none⟩=some (.slice a15 c.deps.length c15)∧w'.frozen? ⟨w.heap.size,2,none⟩=false∧w'.frozen? ⟨w.heap.size,15,none⟩=false):=by
    intro wx hx
    refine (cY a15 c15 c.deps wx (hs15.later hx) hl15).mono ?_
    rintro e w1 ⟨v,rfl,hv,_,hb1⟩
    obtain⟨ad,cd,rfl,_,_⟩:=bD hv
    have hz:=hx.size
    have hrow:w1.heap[w.heap.size]? =some (.cells gr 51 (0,0)):=by rw[hb1.block _ (by omega),hx.block _ (by omega)];exact r0
    refine⟨ad,cd,rfl,hv,hb1,?_,?_,frozen_of_row _ _ _ _ _ hrow,frozen_of_row _ _ _ _ _ hrow⟩
    ·rw[hb1.cell (p:=⟨w.heap.size,2,none⟩) (show w.heap.size<wx.heap.size by omega),hx.cell (p:=⟨w.heap.size,2,none⟩) (show w.heap.size<W.heap.size by omega)];exact q2
    ·rw[hb1.cell (p:=⟨w.heap.size,15,none⟩) (show w.heap.size<wx.heap.size by omega),hx.cell (p:=⟨w.heap.size,15,none⟩) (show w.heap.size<W.heap.size by omega)];exact q15
  have HPT:Hid (∀w1 w2 ao co ad cd,w1.ownsRow W.heap.size 46 3 (.slice ao c.ops.length co) c.ops.length (cE c.ops)→Below W.heap.size W w1→w2.ownsRow w1.heap.size 3 1 (.slice ad c.deps.length cd) c.deps.length (aS c.deps)→Below w1.heap.size w1 w2→
      ∃mv,cH (w.heap.size+3) w.heap.size ((w2.setCell ⟨w.heap.size,2,none⟩ (.slice ao c.ops.length co)).setCell ⟨w.heap.size,15,none⟩ (.slice ad c.deps.length cd)) mv c):=by
    intro w1 w2 ao co ad cd h1 hb1 h2 hb2
    have hz1:=hb1.size
    have hz2:=hb2.size
    have i1:IsO (w.heap.size+3≤·) w2 (.slice ao c.ops.length co) c.ops:=((IsO.of_owns h1 hl2).later (bI.of_size hb2)).mono (fun b _ hb=>by have:=hb.1;show w.heap.size+3≤b;omega)
    have i2:IsI (w.heap.size+3≤·) w2 (.slice ad c.deps.length cd) c.deps:=(IsI.of_owns h2 hl15).mono (fun b _ hb=>by have:=hb.1;show w.heap.size+3≤b;omega)
    refine⟨bJ (bJ nv 2 (.slice ao c.ops.length co)) 15 (.slice ad c.deps.length cd),?_,?_,by omega⟩
    ·rw[heap_setCell_same _ _ _ _ _ _ (heap_setCell_same w2 w.heap.size 2 _ _ _ (show w2.heap[w.heap.size]? =some (.cells gr 51 (0,0)) by rw[hb2.block _ (by omega),hb1.block _ (by omega)];exact r0)),hnv,eJ,eJ]
     rfl
    ·have hoth:bI (w.heap.size+3≤·) w2 ((w2.setCell ⟨w.heap.size,2,none⟩ (.slice ao c.ops.length co)).setCell ⟨w.heap.size,15,none⟩ (.slice ad c.deps.length cd)):=fun k _ hk=>by
        have:w.heap.size+3≤k:=hk
        rw[Below.heap_setCell _ _ _ _ (show k≠w.heap.size by omega),Below.heap_setCell _ _ _ _ (show k≠w.heap.size by omega)]
     refine bT.later ?_ hoth
     exact⟨hcc.begun,hcc.fixed,i1,fun i hi=>by unfold bJ;rw[if_neg (by omega),if_neg (by omega)];exact hcc.told i hi,fun i hi=>by unfold bJ;rw[if_neg (by omega),if_neg (by omega)];exact hcc.known i hi,i2,fun i hi=>by unfold bJ;rw[if_neg (by omega),if_neg (by omega)];exact hcc.has i hi,fun i hi=>by unfold bJ;rw[if_neg (by omega),if_neg (by omega)];exact hcc.vals i hi⟩
  clear hW r0 r1 r2 hB hs2 hs15 hb hzr hnv hcc
  go_enter Tryz.func90,Tryz.ntmps90
  go_upto_region 1 with fail
  rw[HZL.out,←HW.out]
  clear HW HZL
  go_region_with (first
    | (go_at_call 35;refine (HC1.out _ rfl).mono ?_;rintro e w1 ⟨ao,co,rfl,HO1,HB1,k15⟩)
    | (go_at_call 36;refine (HC2.out w1 HB1.out).mono ?_;rintro e w2 ⟨ad,cd,rfl,HO2,HB2,j2,j15,g2,g15⟩))
  all_goals
    obtain⟨mv,hmv⟩:=HPT.out w1 w2 ao co ad cd HO1.out HB1.out HO2.out HB2.out
    obtain⟨X,hX⟩:=zNm ((w2.setCell ⟨w.heap.size,2,none⟩ (.slice ao c.ops.length co)).setCell ⟨w.heap.size,15,none⟩ (.slice ad c.deps.length cd))
    have hzX:w.heap.size+3≤X.heap.size:=by
      have e1:=HB1.out.size
      have e2:=HB2.out.size
      have e3:X.heap.size=w2.heap.size:=by rw[hX];simp[World.setCell]
      omega
    have HGX:Hid (W.grownBy X (some w.heap.size)):=by
      unfold Hid
      rw[hX]
      exact aM (aM (bU (bU (dZ _ _) HB1.out) HB2.out) _ _) _ _
    have HX:Hid (X=(w2.setCell ⟨w.heap.size,2,none⟩ (.slice ao c.ops.length co)).setCell ⟨w.heap.size,15,none⟩ (.slice ad c.deps.length cd)):=hX
    rw[←hX] at hmv
    have HP:Hid (cH (w.heap.size+3) w.heap.size X mv c):=hmv
    obtain⟨hr,ehr⟩:=zNm (aB 24 mv)
    have rX:X.heap[w.heap.size]? =some (.cells hr 51 (0,0)):=by rw[ehr];exact hmv.row
    have tX:iQ Tryz.prog 51 hr.size:=by rw[ehr];exact hmv.box.case.row
    have HCX:Hid (cM X hr c):=by unfold Hid;rw[ehr];exact hmv.box.case
    have HHR:Hid (hr=aB 24 mv):=ehr
    have rF:X.heap[w.heap.size+1]? =some (.cells #[.int .i64 f.kind,.int .i64 f.node,.int .i64 f.id,.slice a3 f.ops.length c3,.slice a4 f.deps.length c4,.slice a5 f.ats.length c5,.slice a6 f.vals.length c6] 104 (0,0)):=by rw[HGX.out.block _ (by omega) (fun e=>by have:=Option.some.inj e;omega)];exact HR1.out
    have HFX:Hid (dN w.heap.size X (.agg #[.int .i64 f.kind,.int .i64 f.node,.int .i64 f.id,.slice a3 f.ops.length c3,.slice a4 f.deps.length c4,.slice a5 f.ats.length c5,.slice a6 f.vals.length c6]) f):=HFB.out.later (j7 Hbw.out HGX.out (by omega))
    clear hX hmv ehr HO1 HO2 HB1 HB2 j2 j15 g2 g15 k15
    rw[←HX.out]
    clear HX
    go_wp2_with (first
      | ((with_reducible apply b7 rX);(· rfl);(· exact tX);(· rfl);simp only[Act.put,sA,sZ,sS])
      | ((with_reducible apply b7 rF);(· rfl);(· exact eB);(· rfl);simp only[Act.put,sA,sZ,sS])
      | fail)
    refine (oN hr c id _ f X HCX.out HFX.out.v).mono ?_
    rintro e w3 ⟨rfl,hb3⟩
    have HP3:Hid (cH (w.heap.size+3) w.heap.size w3 mv c):=HP.out.later hb3
    have HG3:Hid (W.grownBy w3 (some w.heap.size)):=bU HGX.out hb3
    have HF3:Hid (dN w.heap.size w3 (.agg #[.int .i64 f.kind,.int .i64 f.node,.int .i64 f.id,.slice a3 f.ops.length c3,.slice a4 f.deps.length c4,.slice a5 f.ats.length c5,.slice a6 f.vals.length c6]) f):=HFX.out.later (hb3.mono (by omega))
    have hz3:w.heap.size+3≤w3.heap.size:=by have:=hb3.size;omega
    have r3:w3.heap[w.heap.size]? =some (.cells hr 51 (0,0)):=by rw[HHR.out];exact HP3.out.row
    have rF3:=zBk hb3 rF
    have rZ3:w3.heap[w.heap.size+2]? =some (.cells zr 51 (0,0)):=by rw[HG3.out.block _ (by omega) (fun e=>by have:=Option.some.inj e;omega)];exact HR2.out
    have k03:=zCr rF3 0 (.int .i64 f.kind)
    clear hb3 rX rF HP HGX HFX
    have HCall:=D1 (w.heap.size+3) w.heap.size mv c _ f w3 HP3.out HF3.out hg hz3
    obtain⟨d,hd⟩:=zNm ((mT c f).1)
    rw[←hd] at HCall
    have HCall:Hid _:=HCall
    have HD:Hid (d=(mT c f).1):=hd
    clear hd
    go_wp2_with (first
      | ((with_reducible apply b7 rF3);(· rfl);(· exact eB);(· rfl);simp only[Act.put,sA,sZ,sS])
      | fail)
    refine Calls.mono HCall.out ?_
    rintro e w4 ⟨nv4,x4,rfl,hP4,hF4,hG4⟩
    have HF4:Hid (aI w3.heap.size w4 x4 (mT c f).2):=hF4
    clear hF4
    have HP4:Hid (cH (w.heap.size+3) w.heap.size w4 nv4 d):=hP4
    have HG4:Hid (W.grownBy w4 (some w.heap.size)):=gH HG3.out hG4
    have hz4:w3.heap.size≤w4.heap.size:=hG4.size
    obtain⟨hs,ehs⟩:=zNm (aB 24 nv4)
    have HHS:Hid (hs=aB 24 nv4):=ehs
    clear hP4 hG4 ehs r3 rF3 rZ3 k03 HCall HP3
    have r9:w4.heap[w.heap.size]? =some (.cells hs 51 (0,0)):=by rw[HHS.out];exact HP4.out.row
    have t9:iQ Tryz.prog 51 hs.size:=by rw[HHS.out];exact HP4.out.box.case.row
    have i9:(Tryz.prog.info? 51).map (·.size)=some hs.size:=by rw[HHS.out];exact HP4.out.box.case.info
    have s9:zr.size=hs.size:=by rw[HHS.out,aH];exact hzz
    have o9:hs.all (·.oneCell')=true:=by rw[HHS.out];exact HP4.out.box.case.one
    have rZ9:w4.heap[w.heap.size+2]? =some (.cells zr 51 (0,0)):=by rw[HG4.out.block _ (by omega) (fun e=>by have:=Option.some.inj e;omega)];exact HR2.out
    go_wp2_with (first
      | ((with_reducible apply b7 r9);(· rfl);(· exact t9);(· rfl);simp only[Act.put,sA,sZ,sS])
      | (refine wpList_store_row rfl 51 _ _ rfl (w.heap.size+2) hs rfl rfl 51 _ rZ9 i9 s9 o9 ?_)
      | fail)
    refine bodyPost_ret (v:= .tuple #[.agg hs,x4,.int .i64 0]) (fK Tryz.results90 _ _ (w.heap.size+2) 51 hs (0,0) _ rfl (aU rZ9) Tryz.underlying51 rfl i9 _ _ rfl rfl) rfl ⟨hs,x4,by rw[HE.out],by rw[HE.out];have hh:=HP4.out.out hs;rw[←HHS.out,HD.out] at hh;exact hh,by rw[HE.out];exact (HF4.out.same (fun b _ hb=>bB _ _ (by omega))).mono (by omega),aP (j7 Hbw.out HG4.out (by omega)) (by omega) _⟩
theorem MN (gr:Array Value) (c:aE) (id:Int) (v:Value) (f:aD) (w:World) (h:cM w gr c) (hf:bP w v f) (t0:eX c id f=0) (t1:f.kind=4):
    Calls Tryz.prog 90 #[.agg gr,.int .i64 id,v] w fun e w'=>∃gr' x,e= .returned (.tuple #[.agg gr',x,.int .i64 (aO c id f).2.2])∧mG w.heap.size w' gr' (aO c id f).1∧aI w.heap.size w' x (aO c id f).2.1∧Below w.heap.size w w':=by
  have Ht0:Hid (eX c id f=0):=t0
  have Ht1:Hid (f.kind=4):=t1
  clear t0 t1
  have HE:Hid (aO c id f=((if c.fixed then { c with known:=upd c.known f.node.toNat true } else c),[],0)):=EQ Ht0.out Ht1.out
  have d0:(eX c id f !=0)=false:=by have:=Ht0.out;simpa using this
  have d2:(f.kind == 2)=false:=by rw[Ht1.out];decide
  have d4:(f.kind == 4)=true:=by rw[Ht1.out];decide
  have d5:(f.kind == 5)=false:=by rw[Ht1.out];decide
  have hg:aL f=0:=(pK Ht0.out).2.2.1
  have HFB:Hid (dN w.heap.size w v f):=hf.b
  obtain⟨a3,c3,a4,c4,a5,c5,a6,c6,rfl,_⟩:=hf
  obtain⟨zr,hzr⟩:=zNm (aB 24 zcv)
  have HZL:Hid ((#[.bool false,.bool false,.slice none 0 0,.bool false,.bool false,.bool false,.bool false,.bool false,.bool false,.bool false,.bool false,.bool false,.bool false,.bool false,.bool false,.slice none 0 0,.bool false,.bool false,.bool false,.bool false,.int .i64 0,.int .i64 0,.int .i64 0,.int .i64 0]:Array Value)=zr):=by unfold Hid;rw[hzr];rfl
  have hzz:zr.size=24:=by rw[hzr,aH]
  obtain⟨W,hW⟩:=zNm (((w.alloc (.cells gr 51)).alloc (.cells #[.int .i64 f.kind,.int .i64 f.node,.int .i64 f.id,.slice a3 f.ops.length c3,.slice a4 f.deps.length c4,.slice a5 f.ats.length c5,.slice a6 f.vals.length c6] 104)).alloc (.cells zr 51))
  have hb:=zB3 hW
  have hzW:W.heap.size=w.heap.size+3:=by rw[hW,size_push,size_push,size_push]
  obtain⟨r0,r1,r2⟩:=qE w (.cells gr 51) (.cells #[.int .i64 f.kind,.int .i64 f.node,.int .i64 f.id,.slice a3 f.ops.length c3,.slice a4 f.deps.length c4,.slice a5 f.ats.length c5,.slice a6 f.vals.length c6] 104) (.cells zr 51)
  rw[←hW] at r0 r1 r2
  have hB:aZ w.heap.size W gr c:=⟨r0,h.later hb⟩
  obtain⟨a2,c2,q2,hs2,hl2⟩:=hB.ops
  obtain⟨a15,c15,q15,hs15,hl15⟩:=hB.deps
  obtain⟨nv,hnv,hcc⟩:=h
  have HW:Hid (W=((w.alloc (.cells gr 51)).alloc (.cells #[.int .i64 f.kind,.int .i64 f.node,.int .i64 f.id,.slice a3 f.ops.length c3,.slice a4 f.deps.length c4,.slice a5 f.ats.length c5,.slice a6 f.vals.length c6] 104)).alloc (.cells zr 51)):=hW
  have HR1:Hid (W.heap[w.heap.size+1]? =some (.cells #[.int .i64 f.kind,.int .i64 f.node,.int .i64 f.id,.slice a3 f.ops.length c3,.slice a4 f.deps.length c4,.slice a5 f.ats.length c5,.slice a6 f.vals.length c6] 104 (0,0))):=r1
  have HR2:Hid (W.heap[w.heap.size+2]? =some (.cells zr 51 (0,0))):=r2
  have Hbw:Hid (Below w.heap.size w W):=hb
  have HC1:Hid (∀wx,wx=W.drew→Calls Tryz.prog 35 #[.slice a2 c.ops.length c2] wx fun e w'=>∃ao co,e= .returned (.slice ao c.ops.length co)∧Hid (w'.ownsRow W.heap.size 46 3 (.slice ao c.ops.length co) c.ops.length (cE c.ops))∧Hid (Below W.heap.size W w')∧w'.cell? ⟨w.heap.size,15,none⟩=some (.slice a15 c.deps.length c15)):=by
    rintro wx rfl
    refine (gG a2 c2 c.ops _ (hs2.later (Below.drew (Below.refl _ _))) hl2).mono ?_
    rintro e w1 ⟨v,rfl,hv,_,hb1⟩
    obtain⟨ao,co,rfl,_,_⟩:=bD hv
    have hb1':Below W.heap.size W w1:=(Below.drew (Below.refl _ _)).trans hb1
    exact⟨ao,co,rfl,hv,hb1',by rw[hb1'.cell (p:=⟨w.heap.size,15,none⟩) (show w.heap.size<W.heap.size by omega)];exact q15⟩
  have HC2:Hid (∀wx,Below W.heap.size W wx→Calls Tryz.prog 36 #[.slice a15 c.deps.length c15] wx fun e w'=>∃ad cd,e= .returned (.slice ad c.deps.length cd)∧Hid (w'.ownsRow wx.heap.size 3 1 (.slice ad c.deps.length cd) c.deps.length (aS c.deps))∧Hid (Below wx.heap.size wx w')∧
      w'.cell? ⟨w.heap.size,2,none⟩=some (.slice a2 c.ops.length c2)∧w'.cell? ⟨w.heap.size,15,none⟩=some (.slice a15 c.deps.length c15)∧w'.frozen? ⟨w.heap.size,2,none⟩=false∧w'.frozen? ⟨w.heap.size,15,none⟩=false):=by
    intro wx hx
    refine (cY a15 c15 c.deps wx (hs15.later hx) hl15).mono ?_
    rintro e w1 ⟨v,rfl,hv,_,hb1⟩
    obtain⟨ad,cd,rfl,_,_⟩:=bD hv
    have hz:=hx.size
    have hrow:w1.heap[w.heap.size]? =some (.cells gr 51 (0,0)):=by rw[hb1.block _ (by omega),hx.block _ (by omega)];exact r0
    refine⟨ad,cd,rfl,hv,hb1,?_,?_,frozen_of_row _ _ _ _ _ hrow,frozen_of_row _ _ _ _ _ hrow⟩
    ·rw[hb1.cell (p:=⟨w.heap.size,2,none⟩) (show w.heap.size<wx.heap.size by omega),hx.cell (p:=⟨w.heap.size,2,none⟩) (show w.heap.size<W.heap.size by omega)];exact q2
    ·rw[hb1.cell (p:=⟨w.heap.size,15,none⟩) (show w.heap.size<wx.heap.size by omega),hx.cell (p:=⟨w.heap.size,15,none⟩) (show w.heap.size<W.heap.size by omega)];exact q15
  have HPT:Hid (∀w1 w2 ao co ad cd,w1.ownsRow W.heap.size 46 3 (.slice ao c.ops.length co) c.ops.length (cE c.ops)→Below W.heap.size W w1→w2.ownsRow w1.heap.size 3 1 (.slice ad c.deps.length cd) c.deps.length (aS c.deps)→Below w1.heap.size w1 w2→
      ∃mv,cH (w.heap.size+3) w.heap.size ((w2.setCell ⟨w.heap.size,2,none⟩ (.slice ao c.ops.length co)).setCell ⟨w.heap.size,15,none⟩ (.slice ad c.deps.length cd)) mv c):=by
    intro w1 w2 ao co ad cd h1 hb1 h2 hb2
    have hz1:=hb1.size
    have hz2:=hb2.size
    have i1:IsO (w.heap.size+3≤·) w2 (.slice ao c.ops.length co) c.ops:=((IsO.of_owns h1 hl2).later (bI.of_size hb2)).mono (fun b _ hb=>by have:=hb.1;show w.heap.size+3≤b;omega)
    have i2:IsI (w.heap.size+3≤·) w2 (.slice ad c.deps.length cd) c.deps:=(IsI.of_owns h2 hl15).mono (fun b _ hb=>by have:=hb.1;show w.heap.size+3≤b;omega)
    refine⟨bJ (bJ nv 2 (.slice ao c.ops.length co)) 15 (.slice ad c.deps.length cd),?_,?_,by omega⟩
    ·rw[heap_setCell_same _ _ _ _ _ _ (heap_setCell_same w2 w.heap.size 2 _ _ _ (show w2.heap[w.heap.size]? =some (.cells gr 51 (0,0)) by rw[hb2.block _ (by omega),hb1.block _ (by omega)];exact r0)),hnv,eJ,eJ]
     rfl
    ·have hoth:bI (w.heap.size+3≤·) w2 ((w2.setCell ⟨w.heap.size,2,none⟩ (.slice ao c.ops.length co)).setCell ⟨w.heap.size,15,none⟩ (.slice ad c.deps.length cd)):=fun k _ hk=>by
        have:w.heap.size+3≤k:=hk
        rw[Below.heap_setCell _ _ _ _ (show k≠w.heap.size by omega),Below.heap_setCell _ _ _ _ (show k≠w.heap.size by omega)]
     refine bT.later ?_ hoth
     exact⟨hcc.begun,hcc.fixed,i1,fun i hi=>by unfold bJ;rw[if_neg (by omega),if_neg (by omega)];exact hcc.told i hi,fun i hi=>by unfold bJ;rw[if_neg (by omega),if_neg (by omega)];exact hcc.known i hi,i2,fun i hi=>by unfold bJ;rw[if_neg (by omega),if_neg (by omega)];exact hcc.has i hi,fun i hi=>by unfold bJ;rw[if_neg (by omega),if_neg (by omega)];exact hcc.vals i hi⟩
  clear hW r0 r1 r2 hB hs2 hs15 hb hzr hnv hcc
  go_enter Tryz.func90,Tryz.ntmps90
  go_upto_region 1 with fail
  rw[HZL.out,←HW.out]
  clear HW HZL
  go_region_with (first
    | (go_at_call 35;refine (HC1.out _ rfl).mono ?_;rintro e w1 ⟨ao,co,rfl,HO1,HB1,k15⟩)
    | (go_at_call 36;refine (HC2.out w1 HB1.out).mono ?_;rintro e w2 ⟨ad,cd,rfl,HO2,HB2,j2,j15,g2,g15⟩))
  all_goals
    obtain⟨mv,hmv⟩:=HPT.out w1 w2 ao co ad cd HO1.out HB1.out HO2.out HB2.out
    obtain⟨X,hX⟩:=zNm ((w2.setCell ⟨w.heap.size,2,none⟩ (.slice ao c.ops.length co)).setCell ⟨w.heap.size,15,none⟩ (.slice ad c.deps.length cd))
    have hzX:w.heap.size+3≤X.heap.size:=by
      have e1:=HB1.out.size
      have e2:=HB2.out.size
      have e3:X.heap.size=w2.heap.size:=by rw[hX];simp[World.setCell]
      omega
    have HGX:Hid (W.grownBy X (some w.heap.size)):=by
      unfold Hid
      rw[hX]
      exact aM (aM (bU (bU (dZ _ _) HB1.out) HB2.out) _ _) _ _
    have HX:Hid (X=(w2.setCell ⟨w.heap.size,2,none⟩ (.slice ao c.ops.length co)).setCell ⟨w.heap.size,15,none⟩ (.slice ad c.deps.length cd)):=hX
    rw[←hX] at hmv
    have HP:Hid (cH (w.heap.size+3) w.heap.size X mv c):=hmv
    obtain⟨hr,ehr⟩:=zNm (aB 24 mv)
    have rX:X.heap[w.heap.size]? =some (.cells hr 51 (0,0)):=by rw[ehr];exact hmv.row
    have tX:iQ Tryz.prog 51 hr.size:=by rw[ehr];exact hmv.box.case.row
    have HCX:Hid (cM X hr c):=by unfold Hid;rw[ehr];exact hmv.box.case
    have HHR:Hid (hr=aB 24 mv):=ehr
    have rF:X.heap[w.heap.size+1]? =some (.cells #[.int .i64 f.kind,.int .i64 f.node,.int .i64 f.id,.slice a3 f.ops.length c3,.slice a4 f.deps.length c4,.slice a5 f.ats.length c5,.slice a6 f.vals.length c6] 104 (0,0)):=by rw[HGX.out.block _ (by omega) (fun e=>by have:=Option.some.inj e;omega)];exact HR1.out
    have HFX:Hid (dN w.heap.size X (.agg #[.int .i64 f.kind,.int .i64 f.node,.int .i64 f.id,.slice a3 f.ops.length c3,.slice a4 f.deps.length c4,.slice a5 f.ats.length c5,.slice a6 f.vals.length c6]) f):=HFB.out.later (j7 Hbw.out HGX.out (by omega))
    clear hX hmv ehr HO1 HO2 HB1 HB2 j2 j15 g2 g15 k15
    rw[←HX.out]
    clear HX
    go_wp2_with (first
      | ((with_reducible apply b7 rX);(· rfl);(· exact tX);(· rfl);simp only[Act.put,sA,sZ,sS])
      | ((with_reducible apply b7 rF);(· rfl);(· exact eB);(· rfl);simp only[Act.put,sA,sZ,sS])
      | fail)
    refine (oN hr c id _ f X HCX.out HFX.out.v).mono ?_
    rintro e w3 ⟨rfl,hb3⟩
    have HP3:Hid (cH (w.heap.size+3) w.heap.size w3 mv c):=HP.out.later hb3
    have HG3:Hid (W.grownBy w3 (some w.heap.size)):=bU HGX.out hb3
    have HF3:Hid (dN w.heap.size w3 (.agg #[.int .i64 f.kind,.int .i64 f.node,.int .i64 f.id,.slice a3 f.ops.length c3,.slice a4 f.deps.length c4,.slice a5 f.ats.length c5,.slice a6 f.vals.length c6]) f):=HFX.out.later (hb3.mono (by omega))
    have hz3:w.heap.size+3≤w3.heap.size:=by have:=hb3.size;omega
    have r3:w3.heap[w.heap.size]? =some (.cells hr 51 (0,0)):=by rw[HHR.out];exact HP3.out.row
    have rF3:=zBk hb3 rF
    have rZ3:w3.heap[w.heap.size+2]? =some (.cells zr 51 (0,0)):=by rw[HG3.out.block _ (by omega) (fun e=>by have:=Option.some.inj e;omega)];exact HR2.out
    have k03:=zCr rF3 0 (.int .i64 f.kind)
    clear hb3 rX rF HP HGX HFX
    have HCall:=BN (w.heap.size+3) w.heap.size mv c _ f w3 HP3.out HF3.out.v (fO hg).2
    obtain⟨d,hd⟩:=zNm ((if c.fixed then { c with known:=upd c.known f.node.toNat true } else c))
    rw[←hd] at HCall
    have HCall:Hid _:=HCall
    have HD:Hid (d=(if c.fixed then { c with known:=upd c.known f.node.toNat true } else c)):=hd
    clear hd
    go_wp2_with (first
      | ((with_reducible apply b7 rF3);(· rfl);(· exact eB);(· rfl);simp only[Act.put,sA,sZ,sS])
      | fail)
    refine Calls.mono HCall.out ?_
    rintro e w4 ⟨rfl,nv4,hP4,hG4⟩
    have HP4:Hid (cH (w.heap.size+3) w.heap.size w4 nv4 d):=hP4
    have HG4:Hid (W.grownBy w4 (some w.heap.size)):=gH HG3.out hG4
    have hz4:w3.heap.size≤w4.heap.size:=hG4.size
    obtain⟨hs,ehs⟩:=zNm (aB 24 nv4)
    have HHS:Hid (hs=aB 24 nv4):=ehs
    clear hP4 hG4 ehs r3 rF3 rZ3 k03 HCall HP3
    have r9:w4.heap[w.heap.size]? =some (.cells hs 51 (0,0)):=by rw[HHS.out];exact HP4.out.row
    have t9:iQ Tryz.prog 51 hs.size:=by rw[HHS.out];exact HP4.out.box.case.row
    have i9:(Tryz.prog.info? 51).map (·.size)=some hs.size:=by rw[HHS.out];exact HP4.out.box.case.info
    have s9:zr.size=hs.size:=by rw[HHS.out,aH];exact hzz
    have o9:hs.all (·.oneCell')=true:=by rw[HHS.out];exact HP4.out.box.case.one
    have rZ9:w4.heap[w.heap.size+2]? =some (.cells zr 51 (0,0)):=by rw[HG4.out.block _ (by omega) (fun e=>by have:=Option.some.inj e;omega)];exact HR2.out
    go_wp2_with (first
      | ((with_reducible apply b7 r9);(· rfl);(· exact t9);(· rfl);simp only[Act.put,sA,sZ,sS])
      | (refine wpList_store_row rfl 51 _ _ rfl (w.heap.size+2) hs rfl rfl 51 _ rZ9 i9 s9 o9 ?_)
      | fail)
    refine bodyPost_ret (v:= .tuple #[.agg hs,.slice none 0 0,.int .i64 0]) (fK Tryz.results90 _ _ (w.heap.size+2) 51 hs (0,0) _ rfl (aU rZ9) Tryz.underlying51 rfl i9 _ _ rfl rfl) rfl ⟨hs,.slice none 0 0,by rw[HE.out],by rw[HE.out];have hh:=HP4.out.out hs;rw[←HHS.out,HD.out] at hh;exact hh,by rw[HE.out];exact aI.nil _ _,aP (j7 Hbw.out HG4.out (by omega)) (by omega) _⟩
theorem MO (gr:Array Value) (c:aE) (id:Int) (v:Value) (f:aD) (w:World) (h:cM w gr c) (hf:bP w v f) (t0:eX c id f=0) (t1:f.kind=5):
    Calls Tryz.prog 90 #[.agg gr,.int .i64 id,v] w fun e w'=>∃gr' x,e= .returned (.tuple #[.agg gr',x,.int .i64 (aO c id f).2.2])∧mG w.heap.size w' gr' (aO c id f).1∧aI w.heap.size w' x (aO c id f).2.1∧Below w.heap.size w w':=by
  have Ht0:Hid (eX c id f=0):=t0
  have Ht1:Hid (f.kind=5):=t1
  clear t0 t1
  have HE:Hid (aO c id f=((if c.fixed then c.dones (ofL f.node) (f.ats.zip f.vals) else c),[],0)):=IE Ht0.out Ht1.out
  have d0:(eX c id f !=0)=false:=by have:=Ht0.out;simpa using this
  have d2:(f.kind == 2)=false:=by rw[Ht1.out];decide
  have d4:(f.kind == 4)=false:=by rw[Ht1.out];decide
  have d5:(f.kind == 5)=true:=by rw[Ht1.out];decide
  have hg:aL f=0:=(pK Ht0.out).2.2.1
  have HFB:Hid (dN w.heap.size w v f):=hf.b
  obtain⟨a3,c3,a4,c4,a5,c5,a6,c6,rfl,_⟩:=hf
  obtain⟨zr,hzr⟩:=zNm (aB 24 zcv)
  have HZL:Hid ((#[.bool false,.bool false,.slice none 0 0,.bool false,.bool false,.bool false,.bool false,.bool false,.bool false,.bool false,.bool false,.bool false,.bool false,.bool false,.bool false,.slice none 0 0,.bool false,.bool false,.bool false,.bool false,.int .i64 0,.int .i64 0,.int .i64 0,.int .i64 0]:Array Value)=zr):=by unfold Hid;rw[hzr];rfl
  have hzz:zr.size=24:=by rw[hzr,aH]
  obtain⟨W,hW⟩:=zNm (((w.alloc (.cells gr 51)).alloc (.cells #[.int .i64 f.kind,.int .i64 f.node,.int .i64 f.id,.slice a3 f.ops.length c3,.slice a4 f.deps.length c4,.slice a5 f.ats.length c5,.slice a6 f.vals.length c6] 104)).alloc (.cells zr 51))
  have hb:=zB3 hW
  have hzW:W.heap.size=w.heap.size+3:=by rw[hW,size_push,size_push,size_push]
  obtain⟨r0,r1,r2⟩:=qE w (.cells gr 51) (.cells #[.int .i64 f.kind,.int .i64 f.node,.int .i64 f.id,.slice a3 f.ops.length c3,.slice a4 f.deps.length c4,.slice a5 f.ats.length c5,.slice a6 f.vals.length c6] 104) (.cells zr 51)
  rw[←hW] at r0 r1 r2
  have hB:aZ w.heap.size W gr c:=⟨r0,h.later hb⟩
  obtain⟨a2,c2,q2,hs2,hl2⟩:=hB.ops
  obtain⟨a15,c15,q15,hs15,hl15⟩:=hB.deps
  obtain⟨nv,hnv,hcc⟩:=h
  have HW:Hid (W=((w.alloc (.cells gr 51)).alloc (.cells #[.int .i64 f.kind,.int .i64 f.node,.int .i64 f.id,.slice a3 f.ops.length c3,.slice a4 f.deps.length c4,.slice a5 f.ats.length c5,.slice a6 f.vals.length c6] 104)).alloc (.cells zr 51)):=hW
  have HR1:Hid (W.heap[w.heap.size+1]? =some (.cells #[.int .i64 f.kind,.int .i64 f.node,.int .i64 f.id,.slice a3 f.ops.length c3,.slice a4 f.deps.length c4,.slice a5 f.ats.length c5,.slice a6 f.vals.length c6] 104 (0,0))):=r1
  have HR2:Hid (W.heap[w.heap.size+2]? =some (.cells zr 51 (0,0))):=r2
  have Hbw:Hid (Below w.heap.size w W):=hb
  have HC1:Hid (∀wx,wx=W.drew→Calls Tryz.prog 35 #[.slice a2 c.ops.length c2] wx fun e w'=>∃ao co,e= .returned (.slice ao c.ops.length co)∧Hid (w'.ownsRow W.heap.size 46 3 (.slice ao c.ops.length co) c.ops.length (cE c.ops))∧Hid (Below W.heap.size W w')∧w'.cell? ⟨w.heap.size,15,none⟩=some (.slice a15 c.deps.length c15)):=by
    rintro wx rfl
    refine (gG a2 c2 c.ops _ (hs2.later (Below.drew (Below.refl _ _))) hl2).mono ?_
    rintro e w1 ⟨v,rfl,hv,_,hb1⟩
    obtain⟨ao,co,rfl,_,_⟩:=bD hv
    have hb1':Below W.heap.size W w1:=(Below.drew (Below.refl _ _)).trans hb1
    exact⟨ao,co,rfl,hv,hb1',by rw[hb1'.cell (p:=⟨w.heap.size,15,none⟩) (show w.heap.size<W.heap.size by omega)];exact q15⟩
  have HC2:Hid (∀wx,Below W.heap.size W wx→Calls Tryz.prog 36 #[.slice a15 c.deps.length c15] wx fun e w'=>∃ad cd,e= .returned (.slice ad c.deps.length cd)∧Hid (w'.ownsRow wx.heap.size 3 1 (.slice ad c.deps.length cd) c.deps.length (aS c.deps))∧Hid (Below wx.heap.size wx w')∧
      w'.cell? ⟨w.heap.size,2,none⟩=some (.slice a2 c.ops.length c2)∧w'.cell? ⟨w.heap.size,15,none⟩=some (.slice a15 c.deps.length c15)∧w'.frozen? ⟨w.heap.size,2,none⟩=false∧w'.frozen? ⟨w.heap.size,15,none⟩=false):=by
    intro wx hx
    refine (cY a15 c15 c.deps wx (hs15.later hx) hl15).mono ?_
    rintro e w1 ⟨v,rfl,hv,_,hb1⟩
    obtain⟨ad,cd,rfl,_,_⟩:=bD hv
    have hz:=hx.size
    have hrow:w1.heap[w.heap.size]? =some (.cells gr 51 (0,0)):=by rw[hb1.block _ (by omega),hx.block _ (by omega)];exact r0
    refine⟨ad,cd,rfl,hv,hb1,?_,?_,frozen_of_row _ _ _ _ _ hrow,frozen_of_row _ _ _ _ _ hrow⟩
    ·rw[hb1.cell (p:=⟨w.heap.size,2,none⟩) (show w.heap.size<wx.heap.size by omega),hx.cell (p:=⟨w.heap.size,2,none⟩) (show w.heap.size<W.heap.size by omega)];exact q2
    ·rw[hb1.cell (p:=⟨w.heap.size,15,none⟩) (show w.heap.size<wx.heap.size by omega),hx.cell (p:=⟨w.heap.size,15,none⟩) (show w.heap.size<W.heap.size by omega)];exact q15
  have HPT:Hid (∀w1 w2 ao co ad cd,w1.ownsRow W.heap.size 46 3 (.slice ao c.ops.length co) c.ops.length (cE c.ops)→Below W.heap.size W w1→w2.ownsRow w1.heap.size 3 1 (.slice ad c.deps.length cd) c.deps.length (aS c.deps)→Below w1.heap.size w1 w2→
      ∃mv,cH (w.heap.size+3) w.heap.size ((w2.setCell ⟨w.heap.size,2,none⟩ (.slice ao c.ops.length co)).setCell ⟨w.heap.size,15,none⟩ (.slice ad c.deps.length cd)) mv c):=by
    intro w1 w2 ao co ad cd h1 hb1 h2 hb2
    have hz1:=hb1.size
    have hz2:=hb2.size
    have i1:IsO (w.heap.size+3≤·) w2 (.slice ao c.ops.length co) c.ops:=((IsO.of_owns h1 hl2).later (bI.of_size hb2)).mono (fun b _ hb=>by have:=hb.1;show w.heap.size+3≤b;omega)
    have i2:IsI (w.heap.size+3≤·) w2 (.slice ad c.deps.length cd) c.deps:=(IsI.of_owns h2 hl15).mono (fun b _ hb=>by have:=hb.1;show w.heap.size+3≤b;omega)
    refine⟨bJ (bJ nv 2 (.slice ao c.ops.length co)) 15 (.slice ad c.deps.length cd),?_,?_,by omega⟩
    ·rw[heap_setCell_same _ _ _ _ _ _ (heap_setCell_same w2 w.heap.size 2 _ _ _ (show w2.heap[w.heap.size]? =some (.cells gr 51 (0,0)) by rw[hb2.block _ (by omega),hb1.block _ (by omega)];exact r0)),hnv,eJ,eJ]
     rfl
    ·have hoth:bI (w.heap.size+3≤·) w2 ((w2.setCell ⟨w.heap.size,2,none⟩ (.slice ao c.ops.length co)).setCell ⟨w.heap.size,15,none⟩ (.slice ad c.deps.length cd)):=fun k _ hk=>by
        have:w.heap.size+3≤k:=hk
        rw[Below.heap_setCell _ _ _ _ (show k≠w.heap.size by omega),Below.heap_setCell _ _ _ _ (show k≠w.heap.size by omega)]
     refine bT.later ?_ hoth
     exact⟨hcc.begun,hcc.fixed,i1,fun i hi=>by unfold bJ;rw[if_neg (by omega),if_neg (by omega)];exact hcc.told i hi,fun i hi=>by unfold bJ;rw[if_neg (by omega),if_neg (by omega)];exact hcc.known i hi,i2,fun i hi=>by unfold bJ;rw[if_neg (by omega),if_neg (by omega)];exact hcc.has i hi,fun i hi=>by unfold bJ;rw[if_neg (by omega),if_neg (by omega)];exact hcc.vals i hi⟩
  clear hW r0 r1 r2 hB hs2 hs15 hb hzr hnv hcc
  go_enter Tryz.func90,Tryz.ntmps90
  go_upto_region 1 with fail
  rw[HZL.out,←HW.out]
  clear HW HZL
  go_region_with (first
    | (go_at_call 35;refine (HC1.out _ rfl).mono ?_;rintro e w1 ⟨ao,co,rfl,HO1,HB1,k15⟩)
    | (go_at_call 36;refine (HC2.out w1 HB1.out).mono ?_;rintro e w2 ⟨ad,cd,rfl,HO2,HB2,j2,j15,g2,g15⟩))
  all_goals
    obtain⟨mv,hmv⟩:=HPT.out w1 w2 ao co ad cd HO1.out HB1.out HO2.out HB2.out
    obtain⟨X,hX⟩:=zNm ((w2.setCell ⟨w.heap.size,2,none⟩ (.slice ao c.ops.length co)).setCell ⟨w.heap.size,15,none⟩ (.slice ad c.deps.length cd))
    have hzX:w.heap.size+3≤X.heap.size:=by
      have e1:=HB1.out.size
      have e2:=HB2.out.size
      have e3:X.heap.size=w2.heap.size:=by rw[hX];simp[World.setCell]
      omega
    have HGX:Hid (W.grownBy X (some w.heap.size)):=by
      unfold Hid
      rw[hX]
      exact aM (aM (bU (bU (dZ _ _) HB1.out) HB2.out) _ _) _ _
    have HX:Hid (X=(w2.setCell ⟨w.heap.size,2,none⟩ (.slice ao c.ops.length co)).setCell ⟨w.heap.size,15,none⟩ (.slice ad c.deps.length cd)):=hX
    rw[←hX] at hmv
    have HP:Hid (cH (w.heap.size+3) w.heap.size X mv c):=hmv
    obtain⟨hr,ehr⟩:=zNm (aB 24 mv)
    have rX:X.heap[w.heap.size]? =some (.cells hr 51 (0,0)):=by rw[ehr];exact hmv.row
    have tX:iQ Tryz.prog 51 hr.size:=by rw[ehr];exact hmv.box.case.row
    have HCX:Hid (cM X hr c):=by unfold Hid;rw[ehr];exact hmv.box.case
    have HHR:Hid (hr=aB 24 mv):=ehr
    have rF:X.heap[w.heap.size+1]? =some (.cells #[.int .i64 f.kind,.int .i64 f.node,.int .i64 f.id,.slice a3 f.ops.length c3,.slice a4 f.deps.length c4,.slice a5 f.ats.length c5,.slice a6 f.vals.length c6] 104 (0,0)):=by rw[HGX.out.block _ (by omega) (fun e=>by have:=Option.some.inj e;omega)];exact HR1.out
    have HFX:Hid (dN w.heap.size X (.agg #[.int .i64 f.kind,.int .i64 f.node,.int .i64 f.id,.slice a3 f.ops.length c3,.slice a4 f.deps.length c4,.slice a5 f.ats.length c5,.slice a6 f.vals.length c6]) f):=HFB.out.later (j7 Hbw.out HGX.out (by omega))
    clear hX hmv ehr HO1 HO2 HB1 HB2 j2 j15 g2 g15 k15
    rw[←HX.out]
    clear HX
    go_wp2_with (first
      | ((with_reducible apply b7 rX);(· rfl);(· exact tX);(· rfl);simp only[Act.put,sA,sZ,sS])
      | ((with_reducible apply b7 rF);(· rfl);(· exact eB);(· rfl);simp only[Act.put,sA,sZ,sS])
      | fail)
    refine (oN hr c id _ f X HCX.out HFX.out.v).mono ?_
    rintro e w3 ⟨rfl,hb3⟩
    have HP3:Hid (cH (w.heap.size+3) w.heap.size w3 mv c):=HP.out.later hb3
    have HG3:Hid (W.grownBy w3 (some w.heap.size)):=bU HGX.out hb3
    have HF3:Hid (dN w.heap.size w3 (.agg #[.int .i64 f.kind,.int .i64 f.node,.int .i64 f.id,.slice a3 f.ops.length c3,.slice a4 f.deps.length c4,.slice a5 f.ats.length c5,.slice a6 f.vals.length c6]) f):=HFX.out.later (hb3.mono (by omega))
    have hz3:w.heap.size+3≤w3.heap.size:=by have:=hb3.size;omega
    have r3:w3.heap[w.heap.size]? =some (.cells hr 51 (0,0)):=by rw[HHR.out];exact HP3.out.row
    have rF3:=zBk hb3 rF
    have rZ3:w3.heap[w.heap.size+2]? =some (.cells zr 51 (0,0)):=by rw[HG3.out.block _ (by omega) (fun e=>by have:=Option.some.inj e;omega)];exact HR2.out
    have k03:=zCr rF3 0 (.int .i64 f.kind)
    clear hb3 rX rF HP HGX HFX
    have HCall:=DZ (w.heap.size+3) w.heap.size mv c _ f w3 HP3.out HF3.out hg
    obtain⟨d,hd⟩:=zNm ((if c.fixed then c.dones (ofL f.node) (f.ats.zip f.vals) else c))
    rw[←hd] at HCall
    have HCall:Hid _:=HCall
    have HD:Hid (d=(if c.fixed then c.dones (ofL f.node) (f.ats.zip f.vals) else c)):=hd
    clear hd
    go_wp2_with (first
      | ((with_reducible apply b7 rF3);(· rfl);(· exact eB);(· rfl);simp only[Act.put,sA,sZ,sS])
      | fail)
    refine Calls.mono HCall.out ?_
    rintro e w4 ⟨rfl,nv4,hP4,hG4⟩
    have HP4:Hid (cH (w.heap.size+3) w.heap.size w4 nv4 d):=hP4
    have HG4:Hid (W.grownBy w4 (some w.heap.size)):=gH HG3.out hG4
    have hz4:w3.heap.size≤w4.heap.size:=hG4.size
    obtain⟨hs,ehs⟩:=zNm (aB 24 nv4)
    have HHS:Hid (hs=aB 24 nv4):=ehs
    clear hP4 hG4 ehs r3 rF3 rZ3 k03 HCall HP3
    have r9:w4.heap[w.heap.size]? =some (.cells hs 51 (0,0)):=by rw[HHS.out];exact HP4.out.row
    have t9:iQ Tryz.prog 51 hs.size:=by rw[HHS.out];exact HP4.out.box.case.row
    have i9:(Tryz.prog.info? 51).map (·.size)=some hs.size:=by rw[HHS.out];exact HP4.out.box.case.info
    have s9:zr.size=hs.size:=by rw[HHS.out,aH];exact hzz
    have o9:hs.all (·.oneCell')=true:=by rw[HHS.out];exact HP4.out.box.case.one
    have rZ9:w4.heap[w.heap.size+2]? =some (.cells zr 51 (0,0)):=by rw[HG4.out.block _ (by omega) (fun e=>by have:=Option.some.inj e;omega)];exact HR2.out
    go_wp2_with (first
      | ((with_reducible apply b7 r9);(· rfl);(· exact t9);(· rfl);simp only[Act.put,sA,sZ,sS])
      | (refine wpList_store_row rfl 51 _ _ rfl (w.heap.size+2) hs rfl rfl 51 _ rZ9 i9 s9 o9 ?_)
      | fail)
    refine bodyPost_ret (v:= .tuple #[.agg hs,.slice none 0 0,.int .i64 0]) (fK Tryz.results90 _ _ (w.heap.size+2) 51 hs (0,0) _ rfl (aU rZ9) Tryz.underlying51 rfl i9 _ _ rfl rfl) rfl ⟨hs,.slice none 0 0,by rw[HE.out],by rw[HE.out];have hh:=HP4.out.out hs;rw[←HHS.out,HD.out] at hh;exact hh,by rw[HE.out];exact aI.nil _ _,aP (j7 Hbw.out HG4.out (by omega)) (by omega) _⟩
theorem FU {f:aD} (h:aL f=0):1≤f.kind∧f.kind≤5:=by
 unfold aL at h
 split at h
 ·omega
 ·omega
theorem GT (gr:Array Value) (c:aE) (id:Int) (v:Value) (f:aD) (w:World) (h:cM w gr c) (hf:bP w v f):
  Calls Tryz.prog 90 #[.agg gr,.int .i64 id,v] w fun e w'=>∃gr' x,e= .returned (.tuple #[.agg gr',x,.int .i64 (aO c id f).2.2])∧mG w.heap.size w' gr' (aO c id f).1∧aI w.heap.size w' x (aO c id f).2.1∧Below w.heap.size w w':=by
 by_cases t0:eX c id f=0
 ·obtain⟨_,_,h3,h4,h5⟩:=pK t0
  have hk:=FU h3
  by_cases k2:f.kind=2
  ·exact MM gr c id v f w h hf t0 k2
  ·by_cases k4:f.kind=4
   ·exact MN gr c id v f w h hf t0 k4
   ·exact MO gr c id v f w h hf t0 (by omega)
 ·exact ML gr c id v f w h hf t0
theorem wW {lo q B:Nat} {w:World} {r:Array Value} {nv:Nat→Value} {c:aE} (h:bT (fun b=>lo≤b) w nv c) (hq:q<lo) (hB:B≤lo):bT (B≤·) (w.setRow q r) nv c:=
 (h.later (w':=w.setRow q r) (fun b _ hb=>bB _ _ (by have hb':lo≤b:=hb;omega))).mono (fun b _ hb=>by have hb':lo≤b:=hb;show B≤b;omega)
theorem wV {lo:Nat} {w:World} {r:Array Value} {o:Obj} {nv:Nat→Value} {c:aE} (h:bT (fun b=>lo≤b) w nv c):bT (lo≤·) ((w.alloc o).setRow w.heap.size r) nv c:=
 h.later (bI.of_size (aP ((Below.refl _ _).alloc (Nat.le_refl _) o) (Nat.le_refl _) r))
theorem D7 {ok:Nat→Prop} {p:Nat} {cv:Nat→Value} {acts:Nat} {c:aK} (k:Nat) (hk:k<32) (v:Value) (f:aD) (w:World) (h:aC ok w p cv acts c) (hok:∀b,w.heap.size≤b→ok b) (hf:bP w v f) (hfi:f.id=(k:Int)) (t:(aO (c.cs k) (k:Int) f).2.2≠0):
  Calls Tryz.prog 60 #[.pointer (some ⟨p,0,none⟩),v] w fun e w'=>DoP ok p acts w e w' (c,⟨(aO (c.cs k) (k:Int) f).2.2,0,[]⟩):=by
 have HTE:Hid ((aO (c.cs k) (k:Int) f).2.2≠0):=t
 clear t
 have hfi32:(k:Int)<32:=by omega
 have HFI:Hid (f.id=(k:Int)):=hfi
 obtain⟨a3,c3,a4,c4,a5,c5,a6,c6,ev,hfx0⟩:=id hf
 subst ev
 have hp:=h.lt
 have hop:=h.out
 obtain⟨W,hW⟩:=zNm ((w.alloc (.cells #[.int .i64 f.kind,.int .i64 f.node,.int .i64 f.id,.slice a3 f.ops.length c3,.slice a4 f.deps.length c4,.slice a5 f.ats.length c5,.slice a6 f.vals.length c6] 104)).alloc (.cells #[.int .i64 0,.int .i64 0,.slice none 0 0] 33))
 have HW:Hid (W=(w.alloc (.cells #[.int .i64 f.kind,.int .i64 f.node,.int .i64 f.id,.slice a3 f.ops.length c3,.slice a4 f.deps.length c4,.slice a5 f.ats.length c5,.slice a6 f.vals.length c6] 104)).alloc (.cells #[.int .i64 0,.int .i64 0,.slice none 0 0] 33)):=hW
 have hbW:=zB2 hW
 obtain⟨rA,rR⟩:=bY w (.cells #[.int .i64 f.kind,.int .i64 f.node,.int .i64 f.id,.slice a3 f.ops.length c3,.slice a4 f.deps.length c4,.slice a5 f.ats.length c5,.slice a6 f.vals.length c6] 104) (.cells #[.int .i64 0,.int .i64 0,.slice none 0 0] 33)
 rw[←hW] at rA rR
 have zW1:w.heap.size+2≤W.heap.size:=by rw[hW,size_push,size_push];exact Nat.le_refl _
 have HCW:Hid (aC (fun x=>ok x∧x≠w.heap.size+1) W p cv acts c):=(h.mono (fun k hk ho=>⟨ho,by omega⟩) (fun h1=>hop h1.1)).below hbW
 have HbW:Hid (Below w.heap.size w W):=hbW
 have HOW:Hid (∀x,W.heap.size≤x→ok x∧x≠w.heap.size+1):=fun x hx=>⟨hok x (by omega),by omega⟩
 clear hW hbW
 obtain⟨E,hE⟩:=zNm ((aO (c.cs k) (k:Int) f).2.2)
 obtain⟨T2,hT2⟩:=zNm ((aO (c.cs k) (k:Int) f).2.1)
 obtain⟨T1,hT1⟩:=zNm ((aO (c.cs k) (k:Int) f).1)
 have HE:Hid (E=(aO (c.cs k) (k:Int) f).2.2):=hE
 have HT2:Hid (T2=(aO (c.cs k) (k:Int) f).2.1):=hT2
 have HT1:Hid (T1=(aO (c.cs k) (k:Int) f).1):=hT1
 obtain⟨zr,hzr⟩:=zNm (aB 24 zcv)
 have hz0:=Tryz.zeroCase
 rw[←hzr] at hz0
 have hzz:zr.size=24:=by rw[hzr,aH]
 obtain⟨g1,hg1⟩:=zNm ((aB 24 fun i=>cv (1232+k*24+i)).toList)
 obtain⟨g2,hg2⟩:=zNm ((#[.int .i64 f.kind,.int .i64 f.node,.int .i64 f.id,.slice a3 f.ops.length c3,.slice a4 f.deps.length c4,.slice a5 f.ats.length c5,.slice a6 f.vals.length c6]:Array Value).toList:List Value)
 have zG:(Tryz.prog.info? 51).map (·.size)=some g1.length:=by rw[hg1,Array.length_toList,aH];exact Tryz.infoCase
 have zF:(Tryz.prog.info? 104).map (·.size)=some g2.length:=by rw[hg2];exact Tryz.infoFrame7
 have hpW:p<W.heap.size:=HCW.out.lt
 have HR:Hid (∀x,Below W.heap.size W x→x.rangeAt p (1232+k*24) g1):=fun x hx=>by rw[hg1];exact gK (HCW.out.range (by omega)) hx hpW
 have HRF:Hid (∀x,Below W.heap.size W x→x.rangeAt w.heap.size 0 g2):=fun x hx=>by rw[hg2];exact gK (dB (by rw[Array.toArray_toList];exact rA)) hx (by omega)
 have HId:Hid (∀x,Below W.heap.size W x→x.cell? ⟨w.heap.size,2,none⟩=some (.int .i64 k)):=fun x hx=>by rw[hx.cell (p:=⟨w.heap.size,2,none⟩) (show w.heap.size<W.heap.size by omega),cell_of_row _ _ _ _ _ _ rA,←HFI.out];rfl
 have HTk:Hid (∀x,Below W.heap.size W x→Calls Tryz.prog 90 #[.agg g1.toArray,.int .i64 k,.agg g2.toArray] x fun e w'=>∃gr' y,e= .returned (.tuple #[.agg gr',y,.int .i64 E])∧mG x.heap.size w' gr' T1∧aI x.heap.size w' y T2∧Below x.heap.size x w'):=fun x hx=>by
  rw[hg1,hg2,hE,hT2,hT1,Array.toArray_toList,Array.toArray_toList]
  exact GT _ (c.cs k) (k:Int) _ f x ⟨_,rfl,((HCW.out.clu.cs k hk).any).below hx⟩ ((hf.later HbW.out).later hx)
 clear hE hT2 hT1 hzr hg1 hg2 h hf hfx0 hfi
 go_enter Tryz.func60,Tryz.ntmps60
 go_upto_region 1 with fail
 rw[←HW.out]
 clear HW
 try simp only[Act.put,sA,sZ,sS]
 go_cut [5,6,7] from 8 (fun p5 v6 v7 wc=>∃(q:Nat) (gr:Array Value) (nv:Nat→Value) (x:Value),p5= .pointer (some ⟨q,0,none⟩)∧v6=x∧v7= .int .i64 E∧gr=aB 24 nv∧wc.heap[q]? =some (.cells gr 51 (0,0))∧W.heap.size≤q∧bT (W.heap.size≤·) wc nv T1∧aI W.heap.size wc x T2∧Below W.heap.size W wc)
 case first=>
  refine wp_region_held_drew (S:=fun x=>Below W.heap.size W x) (by kernel_rfl) (Below.drew (Below.refl _ _)) ?_
  intro hH
  refine tkH 0 9 (.pointer (some ⟨p,0,none⟩)) hH ?_
  simp only[Act.put,sA,sZ,sS]
  refine tkH 1 10 (.pointer (some ⟨w.heap.size,2,none⟩)) hH ?_
  simp only[Act.put,sA,sZ,sS]
  refine tkH 2 11 (.int .i64 k) hH ?_ (hy:=Or.inl ⟨by rfl,fun x hx=>by have q:=HId.out x hx;go_simp⟩)
  simp only[Act.put,sA,sZ,sS]
  refine tkH 3 12 (.pointer (some ⟨p,0,none⟩)) hH ?_
  simp only[Act.put,sA,sZ,sS]
  refine tkH 4 13 (.pointer (some ⟨p,1232,none⟩)) hH ?_
  simp only[Act.put,sA,sZ,sS]
  refine tkH 5 14 (.pointer (some ⟨p,1232+k*24,none⟩)) hH ?_
  simp only[Act.put,sA,sZ,sS]
  refine tkH 6 15 (.agg g1.toArray) hH ?_ (hy:=yieldsIf_load_mid (by rfl) _ _ rfl _ _ rfl g1 _ (fun x hx=>HR.out x hx) Tryz.underlying51 rfl zG)
  simp only[Act.put,sA,sZ,sS]
  refine tkH 7 16 (.pointer (some ⟨w.heap.size,2,none⟩)) hH ?_
  simp only[Act.put,sA,sZ,sS]
  refine tkH 8 17 (.int .i64 k) hH ?_ (hy:=Or.inl ⟨by rfl,fun x hx=>by have q:=HId.out x hx;go_simp⟩)
  simp only[Act.put,sA,sZ,sS]
  refine tkH 9 18 (.agg g2.toArray) hH ?_ (hy:=yieldsIf_load_mid (by rfl) _ _ rfl _ _ rfl g2 _ (fun x hx=>HRF.out x hx) Tryz.underlying104 rfl zF)
  simp only[Act.put,sA,sZ,sS]
  refine wpAnyH_ready (rs:=[10,15]) (by kernel_rfl) (by simp) ?_
  refine AllReadyH.cons rfl (fun K hK=>?_) (AllReadyH.cons rfl (fun K hK=>?_) AllReadyH.nil)
  ·go_simp
   refine Calls.mono (HTk.out _ hH) ?_
   rintro e wb ⟨gr,x,rfl,⟨nv2,hgr,hcc⟩,hfx,hbb⟩
   have HGR:Hid (gr=aB 24 nv2):=hgr
   have hga:gr.all (·.oneCell')=true:=by rw[hgr];exact b8 hcc.one
   have hgi:=zIr hgr Tryz.infoCase
   have hgz:zr.size=gr.size:=by rw[hgr,hzz,aH]
   clear hgr
   go_wp2_with fail
   refine hK.out _ _ (hH.trans (hbb.mono hH.size)) (fun hH2=>?_)
   clear hK K hH
   have hH:=hH2
   clear hH2
   have hzb:=hbb.size
   refine tkH 11 8 (.tuple #[.agg gr,x,.int .i64 E]) hH ?_
   simp only[Act.put,sA,sZ,sS]
   refine tkH 12 20 (.agg gr) hH ?_
   simp only[Act.put,sA,sZ,sS]
   refine tkH 13 21 x hH ?_
   simp only[Act.put,sA,sZ,sS]
   refine tkH 14 22 (.int .i64 E) hH ?_
   simp only[Act.put,sA,sZ,sS]
   refine wpAnyH_ready (rs:=[15]) (by kernel_rfl) (by simp) ?_
   refine AllReadyH.cons rfl (fun K hK=>?_) AllReadyH.nil
   rw[if_pos (by rfl)]
   refine eR 51 rfl zr hz0 (some 5) rfl ?_
   refine hK.out _ _ (hH.alloc hH.size _) (fun hH2=>?_)
   clear hK K hH
   have hH:=hH2
   clear hH2
   simp only[Act.put,sA,sZ,sS]
   have hrow:(wb.alloc (.cells zr 51)).heap[wb.heap.size]? =some (.cells zr 51 (0,0)):=aR _ _
   have hVp:W.heap.size≤wb.heap.size:=hzb
   refine wpAnyH_ready (rs:=[16]) (by kernel_rfl) (by simp) ?_
   refine AllReadyH.cons rfl (fun K hK=>?_) AllReadyH.nil
   rw[if_pos (by rfl)]
   refine wp_store_row 51 _ _ rfl (wb.heap.size) gr rfl rfl 51 _ hrow hgi hgz hga ?_
   refine hK.out _ _ (aP hH hVp _) (fun hH2=>?_)
   clear hK K hH
   have hH:=hH2
   clear hH2
   refine tkH 17 6 x hH ?_
   simp only[Act.put,sA,sZ,sS]
   refine tkH 18 7 (.int .i64 E) hH ?_
   simp only[Act.put,sA,sZ,sS]
   refine wpAnyH_done (by kernel_rfl) ?_ _
   go_wp2
   go_meet
   case rel=>exact⟨wb.heap.size,gr,nv2,x,rfl,rfl,rfl,HGR.out,aU hrow,hVp,wV hcc,kK hfx,hH⟩
  ·rw[if_pos (by rfl)]
   refine eR 51 rfl zr hz0 (some 5) rfl ?_
   refine hK.out _ _ (hH.alloc hH.size _) (fun hH2=>?_)
   clear hK K hH
   have hH:=hH2
   clear hH2
   simp only[Act.put,sA,sZ,sS]
   refine wpAnyH_ready (rs:=[10]) (by kernel_rfl) (by simp) ?_
   refine AllReadyH.cons rfl (fun K hK=>?_) AllReadyH.nil
   go_simp
   refine Calls.mono (HTk.out _ hH) ?_
   rintro e wb ⟨gr,x,rfl,⟨nv2,hgr,hcc⟩,hfx,hbb⟩
   have HGR:Hid (gr=aB 24 nv2):=hgr
   have hga:gr.all (·.oneCell')=true:=by rw[hgr];exact b8 hcc.one
   have hgi:=zIr hgr Tryz.infoCase
   have hgz:zr.size=gr.size:=by rw[hgr,hzz,aH]
   clear hgr
   go_wp2_with fail
   refine hK.out _ _ (hH.trans (hbb.mono hH.size)) (fun hH2=>?_)
   clear hK K hH
   have hH:=hH2
   clear hH2
   have hzb:=hbb.size
   refine tkH 11 8 (.tuple #[.agg gr,x,.int .i64 E]) hH ?_
   simp only[Act.put,sA,sZ,sS]
   refine tkH 12 20 (.agg gr) hH ?_
   simp only[Act.put,sA,sZ,sS]
   refine tkH 13 21 x hH ?_
   simp only[Act.put,sA,sZ,sS]
   refine tkH 14 22 (.int .i64 E) hH ?_
   simp only[Act.put,sA,sZ,sS]
   have hrow:wb.heap[W.heap.size]? =some (.cells zr 51 (0,0)):=by rw[hbb.block _ (by show W.heap.size<(W.heap.push (.cells zr 51)).size;simp)];show (W.heap.push (.cells zr 51))[W.heap.size]? =_;simp
   have hVp:W.heap.size≤W.heap.size:=Nat.le_refl _
   refine wpAnyH_ready (rs:=[16]) (by kernel_rfl) (by simp) ?_
   refine AllReadyH.cons rfl (fun K hK=>?_) AllReadyH.nil
   rw[if_pos (by rfl)]
   refine wp_store_row 51 _ _ rfl (W.heap.size) gr rfl rfl 51 _ hrow hgi hgz hga ?_
   refine hK.out _ _ (aP hH hVp _) (fun hH2=>?_)
   clear hK K hH
   have hH:=hH2
   clear hH2
   refine tkH 17 6 x hH ?_
   simp only[Act.put,sA,sZ,sS]
   refine tkH 18 7 (.int .i64 E) hH ?_
   simp only[Act.put,sA,sZ,sS]
   refine wpAnyH_done (by kernel_rfl) ?_ _
   go_wp2
   go_meet
   case rel=>exact⟨W.heap.size,gr,nv2,x,rfl,rfl,rfl,HGR.out,aU hrow,hVp,wW hcc (by show W.heap.size<(W.heap.push (.cells zr 51)).size;simp) (by show W.heap.size≤(W.heap.push (.cells zr 51)).size;simp),kL hfx (by show W.heap.size<(W.heap.push (.cells zr 51)).size;simp) (by show W.heap.size≤(W.heap.push (.cells zr 51)).size;simp),hH⟩
 case rest=>
  obtain⟨q,gr,nv,x,rfl,rfl,rfl,hgr,rq,hqW,hcc,hfr,hbc⟩:=hcut
  obtain⟨ax,cx,rfl⟩:=hfr.form
  have hzc:=hbc.size
  have HGR:Hid (gr=aB 24 nv):=hgr
  have HCC:Hid (bT (fun x=>ok x∧x≠w.heap.size+1) wc nv T1):=hcc.mono (fun b _ hb=>HOW.out b hb)
  have HFx:Hid (aI W.heap.size wc (.slice ax T2.length cx) T2):=hfr
  have Hbw:Hid (Below w.heap.size w wc):=HbW.out.trans (hbc.mono (by omega))
  have HCc:Hid (aC (fun x=>ok x∧x≠w.heap.size+1) wc p cv acts c):=HCW.out.below hbc
  have rRc:wc.heap[w.heap.size+1]? =some (.cells #[.int .i64 0,.int .i64 0,.slice none 0 0] 33 (0,0)):=by rw[hbc.block _ (by omega)];exact rR
  have HIdc:Hid (wc.cell? ⟨w.heap.size,2,none⟩=some (.int .i64 k)):=HId.out wc hbc
  clear hgr hcc hfr hbc HTk HRF HR rA rR HId
  have de:(E !=0)=true:=by have:=HTE.out;rw[←HE.out] at this;simpa using this
  go_wp2_with fail
  refine (fE E wc).mono ?_
  rintro e wz ⟨rfl,hbz⟩
  have rz:=zBk hbz rRc
  have HCz:Hid (∃cv',aC (fun x=>ok x∧x≠w.heap.size+1) wz p cv' acts c):=⟨_,HCc.out.below hbz⟩
  have HGz:Hid (w.grownBy wz (some p)):=aQ (aX Hbw.out _) (aX hbz _)
  clear hbz
  go_wp2_with (first
   | (refine cZ (w.heap.size+1) rfl _ _ rfl rfl rfl rz rfl ?_)
   | fail)
  refine eI Tryz.results60 rfl rfl rz ?_
  rw[←HE.out];exact (DoP.refused (E:=0) HCz.out HGz.out hp (by omega) hop _)
theorem BX {ok:Nat→Prop} {p:Nat} {cv:Nat→Value} {acts:Nat} {c:aK} (k:Nat) (hk:k<32) (v:Value) (f:aD) (w:World) (h:aC ok w p cv acts c) (hok:∀b,w.heap.size≤b→ok b) (hf:bP w v f) (hfi:f.id=(k:Int)) (t:(aO (c.cs k) (k:Int) f).2.2=0) (hgd:∀g∈(aO (c.cs k) (k:Int) f).2.1,aL g=0) (hn:c.net.length≤60):
  Calls Tryz.prog 60 #[.pointer (some ⟨p,0,none⟩),v] w fun e w'=>DoP ok p acts w e w' ({ c with cs:=upd c.cs k (aO (c.cs k) (k:Int) f).1,net:=cF c.net (aO (c.cs k) (k:Int) f).2.1 },⟨0,(k:Int),(cP (aO (c.cs k) (k:Int) f).1).1⟩):=by
 have HTE:Hid ((aO (c.cs k) (k:Int) f).2.2=0):=t
 have HGd:Hid (∀g∈(aO (c.cs k) (k:Int) f).2.1,aL g=0):=hgd
 have HNt:Hid (c.net.length≤60):=hn
 clear t hgd hn
 have hfi32:(k:Int)<32:=by omega
 have HFI:Hid (f.id=(k:Int)):=hfi
 obtain⟨a3,c3,a4,c4,a5,c5,a6,c6,ev,hfx0⟩:=id hf
 subst ev
 have hp:=h.lt
 have hop:=h.out
 obtain⟨W,hW⟩:=zNm ((w.alloc (.cells #[.int .i64 f.kind,.int .i64 f.node,.int .i64 f.id,.slice a3 f.ops.length c3,.slice a4 f.deps.length c4,.slice a5 f.ats.length c5,.slice a6 f.vals.length c6] 104)).alloc (.cells #[.int .i64 0,.int .i64 0,.slice none 0 0] 33))
 have HW:Hid (W=(w.alloc (.cells #[.int .i64 f.kind,.int .i64 f.node,.int .i64 f.id,.slice a3 f.ops.length c3,.slice a4 f.deps.length c4,.slice a5 f.ats.length c5,.slice a6 f.vals.length c6] 104)).alloc (.cells #[.int .i64 0,.int .i64 0,.slice none 0 0] 33)):=hW
 have hbW:=zB2 hW
 obtain⟨rA,rR⟩:=bY w (.cells #[.int .i64 f.kind,.int .i64 f.node,.int .i64 f.id,.slice a3 f.ops.length c3,.slice a4 f.deps.length c4,.slice a5 f.ats.length c5,.slice a6 f.vals.length c6] 104) (.cells #[.int .i64 0,.int .i64 0,.slice none 0 0] 33)
 rw[←hW] at rA rR
 have zW1:w.heap.size+2≤W.heap.size:=by rw[hW,size_push,size_push];exact Nat.le_refl _
 have HCW:Hid (aC (fun x=>ok x∧x≠w.heap.size+1) W p cv acts c):=(h.mono (fun k hk ho=>⟨ho,by omega⟩) (fun h1=>hop h1.1)).below hbW
 have HbW:Hid (Below w.heap.size w W):=hbW
 have HOW:Hid (∀x,W.heap.size≤x→ok x∧x≠w.heap.size+1):=fun x hx=>⟨hok x (by omega),by omega⟩
 clear hW hbW
 obtain⟨E,hE⟩:=zNm ((aO (c.cs k) (k:Int) f).2.2)
 obtain⟨T2,hT2⟩:=zNm ((aO (c.cs k) (k:Int) f).2.1)
 obtain⟨T1,hT1⟩:=zNm ((aO (c.cs k) (k:Int) f).1)
 have HE:Hid (E=(aO (c.cs k) (k:Int) f).2.2):=hE
 have HT2:Hid (T2=(aO (c.cs k) (k:Int) f).2.1):=hT2
 have HT1:Hid (T1=(aO (c.cs k) (k:Int) f).1):=hT1
 obtain⟨zr,hzr⟩:=zNm (aB 24 zcv)
 have hz0:=Tryz.zeroCase
 rw[←hzr] at hz0
 have hzz:zr.size=24:=by rw[hzr,aH]
 obtain⟨g1,hg1⟩:=zNm ((aB 24 fun i=>cv (1232+k*24+i)).toList)
 obtain⟨g2,hg2⟩:=zNm ((#[.int .i64 f.kind,.int .i64 f.node,.int .i64 f.id,.slice a3 f.ops.length c3,.slice a4 f.deps.length c4,.slice a5 f.ats.length c5,.slice a6 f.vals.length c6]:Array Value).toList:List Value)
 have zG:(Tryz.prog.info? 51).map (·.size)=some g1.length:=by rw[hg1,Array.length_toList,aH];exact Tryz.infoCase
 have zF:(Tryz.prog.info? 104).map (·.size)=some g2.length:=by rw[hg2];exact Tryz.infoFrame7
 have hpW:p<W.heap.size:=HCW.out.lt
 have HR:Hid (∀x,Below W.heap.size W x→x.rangeAt p (1232+k*24) g1):=fun x hx=>by rw[hg1];exact gK (HCW.out.range (by omega)) hx hpW
 have HRF:Hid (∀x,Below W.heap.size W x→x.rangeAt w.heap.size 0 g2):=fun x hx=>by rw[hg2];exact gK (dB (by rw[Array.toArray_toList];exact rA)) hx (by omega)
 have HId:Hid (∀x,Below W.heap.size W x→x.cell? ⟨w.heap.size,2,none⟩=some (.int .i64 k)):=fun x hx=>by rw[hx.cell (p:=⟨w.heap.size,2,none⟩) (show w.heap.size<W.heap.size by omega),cell_of_row _ _ _ _ _ _ rA,←HFI.out];rfl
 have HTk:Hid (∀x,Below W.heap.size W x→Calls Tryz.prog 90 #[.agg g1.toArray,.int .i64 k,.agg g2.toArray] x fun e w'=>∃gr' y,e= .returned (.tuple #[.agg gr',y,.int .i64 E])∧mG x.heap.size w' gr' T1∧aI x.heap.size w' y T2∧Below x.heap.size x w'):=fun x hx=>by
  rw[hg1,hg2,hE,hT2,hT1,Array.toArray_toList,Array.toArray_toList]
  exact GT _ (c.cs k) (k:Int) _ f x ⟨_,rfl,((HCW.out.clu.cs k hk).any).below hx⟩ ((hf.later HbW.out).later hx)
 clear hE hT2 hT1 hzr hg1 hg2 h hf hfx0 hfi
 go_enter Tryz.func60,Tryz.ntmps60
 go_upto_region 1 with fail
 rw[←HW.out]
 clear HW
 try simp only[Act.put,sA,sZ,sS]
 go_cut [5,6,7] from 8 (fun p5 v6 v7 wc=>∃(q:Nat) (gr:Array Value) (nv:Nat→Value) (x:Value),p5= .pointer (some ⟨q,0,none⟩)∧v6=x∧v7= .int .i64 E∧gr=aB 24 nv∧wc.heap[q]? =some (.cells gr 51 (0,0))∧W.heap.size≤q∧bT (W.heap.size≤·) wc nv T1∧aI W.heap.size wc x T2∧Below W.heap.size W wc)
 case first=>
  refine wp_region_held_drew (S:=fun x=>Below W.heap.size W x) (by kernel_rfl) (Below.drew (Below.refl _ _)) ?_
  intro hH
  refine tkH 0 9 (.pointer (some ⟨p,0,none⟩)) hH ?_
  simp only[Act.put,sA,sZ,sS]
  refine tkH 1 10 (.pointer (some ⟨w.heap.size,2,none⟩)) hH ?_
  simp only[Act.put,sA,sZ,sS]
  refine tkH 2 11 (.int .i64 k) hH ?_ (hy:=Or.inl ⟨by rfl,fun x hx=>by have q:=HId.out x hx;go_simp⟩)
  simp only[Act.put,sA,sZ,sS]
  refine tkH 3 12 (.pointer (some ⟨p,0,none⟩)) hH ?_
  simp only[Act.put,sA,sZ,sS]
  refine tkH 4 13 (.pointer (some ⟨p,1232,none⟩)) hH ?_
  simp only[Act.put,sA,sZ,sS]
  refine tkH 5 14 (.pointer (some ⟨p,1232+k*24,none⟩)) hH ?_
  simp only[Act.put,sA,sZ,sS]
  refine tkH 6 15 (.agg g1.toArray) hH ?_ (hy:=yieldsIf_load_mid (by rfl) _ _ rfl _ _ rfl g1 _ (fun x hx=>HR.out x hx) Tryz.underlying51 rfl zG)
  simp only[Act.put,sA,sZ,sS]
  refine tkH 7 16 (.pointer (some ⟨w.heap.size,2,none⟩)) hH ?_
  simp only[Act.put,sA,sZ,sS]
  refine tkH 8 17 (.int .i64 k) hH ?_ (hy:=Or.inl ⟨by rfl,fun x hx=>by have q:=HId.out x hx;go_simp⟩)
  simp only[Act.put,sA,sZ,sS]
  refine tkH 9 18 (.agg g2.toArray) hH ?_ (hy:=yieldsIf_load_mid (by rfl) _ _ rfl _ _ rfl g2 _ (fun x hx=>HRF.out x hx) Tryz.underlying104 rfl zF)
  simp only[Act.put,sA,sZ,sS]
  refine wpAnyH_ready (rs:=[10,15]) (by kernel_rfl) (by simp) ?_
  refine AllReadyH.cons rfl (fun K hK=>?_) (AllReadyH.cons rfl (fun K hK=>?_) AllReadyH.nil)
  ·go_simp
   refine Calls.mono (HTk.out _ hH) ?_
   rintro e wb ⟨gr,x,rfl,⟨nv2,hgr,hcc⟩,hfx,hbb⟩
   have HGR:Hid (gr=aB 24 nv2):=hgr
   have hga:gr.all (·.oneCell')=true:=by rw[hgr];exact b8 hcc.one
   have hgi:=zIr hgr Tryz.infoCase
   have hgz:zr.size=gr.size:=by rw[hgr,hzz,aH]
   clear hgr
   go_wp2_with fail
   refine hK.out _ _ (hH.trans (hbb.mono hH.size)) (fun hH2=>?_)
   clear hK K hH
   have hH:=hH2
   clear hH2
   have hzb:=hbb.size
   refine tkH 11 8 (.tuple #[.agg gr,x,.int .i64 E]) hH ?_
   simp only[Act.put,sA,sZ,sS]
   refine tkH 12 20 (.agg gr) hH ?_
   simp only[Act.put,sA,sZ,sS]
   refine tkH 13 21 x hH ?_
   simp only[Act.put,sA,sZ,sS]
   refine tkH 14 22 (.int .i64 E) hH ?_
   simp only[Act.put,sA,sZ,sS]
   refine wpAnyH_ready (rs:=[15]) (by kernel_rfl) (by simp) ?_
   refine AllReadyH.cons rfl (fun K hK=>?_) AllReadyH.nil
   rw[if_pos (by rfl)]
   refine eR 51 rfl zr hz0 (some 5) rfl ?_
   refine hK.out _ _ (hH.alloc hH.size _) (fun hH2=>?_)
   clear hK K hH
   have hH:=hH2
   clear hH2
   simp only[Act.put,sA,sZ,sS]
   have hrow:(wb.alloc (.cells zr 51)).heap[wb.heap.size]? =some (.cells zr 51 (0,0)):=aR _ _
   have hVp:W.heap.size≤wb.heap.size:=hzb
   refine wpAnyH_ready (rs:=[16]) (by kernel_rfl) (by simp) ?_
   refine AllReadyH.cons rfl (fun K hK=>?_) AllReadyH.nil
   rw[if_pos (by rfl)]
   refine wp_store_row 51 _ _ rfl (wb.heap.size) gr rfl rfl 51 _ hrow hgi hgz hga ?_
   refine hK.out _ _ (aP hH hVp _) (fun hH2=>?_)
   clear hK K hH
   have hH:=hH2
   clear hH2
   refine tkH 17 6 x hH ?_
   simp only[Act.put,sA,sZ,sS]
   refine tkH 18 7 (.int .i64 E) hH ?_
   simp only[Act.put,sA,sZ,sS]
   refine wpAnyH_done (by kernel_rfl) ?_ _
   go_wp2
   go_meet
   case rel=>exact⟨wb.heap.size,gr,nv2,x,rfl,rfl,rfl,HGR.out,aU hrow,hVp,wV hcc,kK hfx,hH⟩
  ·rw[if_pos (by rfl)]
   refine eR 51 rfl zr hz0 (some 5) rfl ?_
   refine hK.out _ _ (hH.alloc hH.size _) (fun hH2=>?_)
   clear hK K hH
   have hH:=hH2
   clear hH2
   simp only[Act.put,sA,sZ,sS]
   refine wpAnyH_ready (rs:=[10]) (by kernel_rfl) (by simp) ?_
   refine AllReadyH.cons rfl (fun K hK=>?_) AllReadyH.nil
   go_simp
   refine Calls.mono (HTk.out _ hH) ?_
   rintro e wb ⟨gr,x,rfl,⟨nv2,hgr,hcc⟩,hfx,hbb⟩
   have HGR:Hid (gr=aB 24 nv2):=hgr
   have hga:gr.all (·.oneCell')=true:=by rw[hgr];exact b8 hcc.one
   have hgi:=zIr hgr Tryz.infoCase
   have hgz:zr.size=gr.size:=by rw[hgr,hzz,aH]
   clear hgr
   go_wp2_with fail
   refine hK.out _ _ (hH.trans (hbb.mono hH.size)) (fun hH2=>?_)
   clear hK K hH
   have hH:=hH2
   clear hH2
   have hzb:=hbb.size
   refine tkH 11 8 (.tuple #[.agg gr,x,.int .i64 E]) hH ?_
   simp only[Act.put,sA,sZ,sS]
   refine tkH 12 20 (.agg gr) hH ?_
   simp only[Act.put,sA,sZ,sS]
   refine tkH 13 21 x hH ?_
   simp only[Act.put,sA,sZ,sS]
   refine tkH 14 22 (.int .i64 E) hH ?_
   simp only[Act.put,sA,sZ,sS]
   have hrow:wb.heap[W.heap.size]? =some (.cells zr 51 (0,0)):=by rw[hbb.block _ (by show W.heap.size<(W.heap.push (.cells zr 51)).size;simp)];show (W.heap.push (.cells zr 51))[W.heap.size]? =_;simp
   have hVp:W.heap.size≤W.heap.size:=Nat.le_refl _
   refine wpAnyH_ready (rs:=[16]) (by kernel_rfl) (by simp) ?_
   refine AllReadyH.cons rfl (fun K hK=>?_) AllReadyH.nil
   rw[if_pos (by rfl)]
   refine wp_store_row 51 _ _ rfl (W.heap.size) gr rfl rfl 51 _ hrow hgi hgz hga ?_
   refine hK.out _ _ (aP hH hVp _) (fun hH2=>?_)
   clear hK K hH
   have hH:=hH2
   clear hH2
   refine tkH 17 6 x hH ?_
   simp only[Act.put,sA,sZ,sS]
   refine tkH 18 7 (.int .i64 E) hH ?_
   simp only[Act.put,sA,sZ,sS]
   refine wpAnyH_done (by kernel_rfl) ?_ _
   go_wp2
   go_meet
   case rel=>exact⟨W.heap.size,gr,nv2,x,rfl,rfl,rfl,HGR.out,aU hrow,hVp,wW hcc (by show W.heap.size<(W.heap.push (.cells zr 51)).size;simp) (by show W.heap.size≤(W.heap.push (.cells zr 51)).size;simp),kL hfx (by show W.heap.size<(W.heap.push (.cells zr 51)).size;simp) (by show W.heap.size≤(W.heap.push (.cells zr 51)).size;simp),hH⟩
 case rest=>
  obtain⟨q,gr,nv,x,rfl,rfl,rfl,hgr,rq,hqW,hcc,hfr,hbc⟩:=hcut
  obtain⟨ax,cx,rfl⟩:=hfr.form
  have hzc:=hbc.size
  have HGR:Hid (gr=aB 24 nv):=hgr
  have HCC:Hid (bT (fun x=>ok x∧x≠w.heap.size+1) wc nv T1):=hcc.mono (fun b _ hb=>HOW.out b hb)
  have HFx:Hid (aI W.heap.size wc (.slice ax T2.length cx) T2):=hfr
  have Hbw:Hid (Below w.heap.size w wc):=HbW.out.trans (hbc.mono (by omega))
  have HCc:Hid (aC (fun x=>ok x∧x≠w.heap.size+1) wc p cv acts c):=HCW.out.below hbc
  have rRc:wc.heap[w.heap.size+1]? =some (.cells #[.int .i64 0,.int .i64 0,.slice none 0 0] 33 (0,0)):=by rw[hbc.block _ (by omega)];exact rR
  have HIdc:Hid (wc.cell? ⟨w.heap.size,2,none⟩=some (.int .i64 k)):=HId.out wc hbc
  clear hgr hcc hfr hbc HTk HRF HR rA rR HId
  have hE0:E=0:=by rw[HE.out];exact HTE.out
  have HGf:Hid (∀g∈T2,aL g=0):=by unfold Hid;rw[HT2.out];exact HGd.out
  have hzq:q<wc.heap.size:=(Array.getElem?_eq_some_iff.1 rq).1
  have hgi:(Tryz.prog.info? 51).map (·.size)=some gr.size:=by rw[HGR.out,aH];exact Tryz.infoCase
  have hone:gr.all (·.oneCell')=true:=by rw[HGR.out];exact b8 HCC.out.one
  obtain⟨g3,hg3⟩:=zNm (gr.toList)
  have HG3:Hid (g3.toArray=aB 24 nv):=by unfold Hid;rw[hg3,Array.toArray_toList];exact HGR.out
  have zG3:(Tryz.prog.info? 51).map (·.size)=some g3.length:=by rw[hg3,Array.length_toList];exact hgi
  have hi3:(Tryz.prog.info? 51).map (·.size)=some g3.toArray.size:=by rw[hg3,Array.toArray_toList];exact hgi
  have h13:g3.toArray.all (·.oneCell')=true:=by rw[hg3,Array.toArray_toList];exact hone
  have hqp:q≠p:=by omega
  obtain⟨V,hV⟩:=zNm (wc)
  have HV:Hid (V=wc):=hV
  have HR3:Hid (wc.drew.rangeAt q 0 g3):=by unfold Hid;rw[hg3];exact dB (by rw[Array.toArray_toList];exact rq)
  have HId3:Hid (wc.drew.cell? ⟨w.heap.size,2,none⟩=some (.int .i64 k)):=HIdc.out
  have HTh:Hid (wc.drew.there p (1232+k*24) g3.toArray.size):=by unfold Hid;rw[HG3.out,aH];exact (HCc.out.below (Below.drew (Below.refl _ _))).there (by omega)
  subst hE0
  clear hg3 rq hV
  go_upto_region 4 with fail
  refine wp_region_held_drew (S:=fun x=>x.rangeAt q 0 g3∧x.cell? ⟨w.heap.size,2,none⟩=some (.int .i64 k)) (by kernel_rfl) (⟨HR3.out,HId3.out⟩) ?_
  intro hH
  refine tkH 0 27 (.pointer (some ⟨p,0,none⟩)) hH ?_
  simp only[Act.put,sA,sZ,sS]
  refine tkH 1 28 (.pointer (some ⟨w.heap.size,2,none⟩)) hH ?_
  simp only[Act.put,sA,sZ,sS]
  refine tkH 2 29 (.int .i64 k) hH ?_ (hy:=Or.inl ⟨by rfl,fun x hx=>by have q:=hx.2;go_simp⟩)
  simp only[Act.put,sA,sZ,sS]
  refine tkH 3 30 (.agg g3.toArray) hH ?_ (hy:=yieldsIf_load_mid (by rfl) _ _ rfl _ _ rfl g3 _ (fun x hx=>hx.1) Tryz.underlying51 rfl zG3)
  simp only[Act.put,sA,sZ,sS]
  refine tkH 4 31 (.pointer (some ⟨p,0,none⟩)) hH ?_
  simp only[Act.put,sA,sZ,sS]
  refine tkH 5 32 (.pointer (some ⟨p,1232,none⟩)) hH ?_
  simp only[Act.put,sA,sZ,sS]
  refine tkH 6 33 (.pointer (some ⟨p,1232+k*24,none⟩)) hH ?_
  simp only[Act.put,sA,sZ,sS]
  refine wpAnyH_ready (rs:=[7]) (by kernel_rfl) (by simp) ?_
  refine AllReadyH.cons rfl (fun K hK=>?_) AllReadyH.nil
  rw[if_pos (by rfl)]
  refine wp_store_mid 51 _ _ rfl p (1232+k*24) g3.toArray rfl rfl HTh.out hi3 h13 ?_
  refine hK.out _ _ (⟨wI hH.1 hqp _ _,by rw[World.cell?_of_block (eV V (show w.heap.size≠p by omega) _ _ _)];exact hH.2⟩) (fun hH2=>?_)
  clear hK K hH
  have hH:=hH2
  clear hH2
  refine wpAnyH_done (by kernel_rfl) ?_ _
  have hdr:Below wc.heap.size wc wc.drew:=Below.drew (Below.refl _ _)
  obtain⟨X,hX⟩:=zNm (wc.drew.setCells p (1232+k*24) g3)
  have HCX1:Hid (∃cv',aC (fun x=>ok x∧x≠w.heap.size+1) X p cv' acts { c with cs:=upd c.cs k T1 }):=by
   have:=(HCc.out.below hdr).setCase (k:=k) hk (HCC.out.later (bI.of_size hdr))
   rw[←HG3.out] at this
   rw[hX]
   exact⟨_,this⟩
  have HGX:Hid (w.grownBy X (some p)):=by rw[hX];exact jP (aQ (aX Hbw.out _) (aX hdr _)) _ _
  have hoX:∀b,b≠p→X.heap[b]? =wc.heap[b]? :=fun b hb=>by rw[hX];exact eV wc hb _ _ _
  have rX:X.heap[w.heap.size+1]? =some (.cells #[.int .i64 0,.int .i64 0,.slice none 0 0] 33 (0,0)):=by rw[hoX _ (by omega)];exact rRc
  have HIX:Hid (X.cell? ⟨w.heap.size,2,none⟩=some (.int .i64 k)):=by unfold Hid;rw[World.cell?_of_block (hoX _ (show w.heap.size≠p by omega))];exact HIdc.out
  have HFX:Hid (aI W.heap.size X (.slice ax T2.length cx) T2):=HFx.out.same (fun b _ hb=>hoX b (by have hb':W.heap.size≤b:=hb;omega))
  have hzX:wc.heap.size≤X.heap.size:=by have:=(jP (aX hdr (some p)) g3 (1232+k*24)).size;rw[hX];exact this
  obtain⟨cv1,hc1⟩:=HCX1.out
  have HC1:Hid (aC (fun x=>ok x∧x≠w.heap.size+1) X p cv1 acts { c with cs:=upd c.cs k T1 }):=hc1
  rw[←hX]
  clear hX hoX hc1 HCX1 hH HTh rRc HR3 HId3
  go_wp2_with fail
  refine (vH ax cx T2 X HC1.out (fun b hb=>HOW.out b (by omega)) HFX.out.len HFX.out.frsIn HGf.out HNt.out).mono ?_
  rintro e w3 ⟨rfl,cv3,hc3,hg3⟩
  have hz3:=hg3.size
  have r3:=zGk hg3 rX
  have e3:w3.cell? ⟨w.heap.size,2,none⟩=some (.int .i64 k):=by rw[World.cell?_of_block (hg3.block w.heap.size (by omega) (fun e=>by have:=Option.some.inj e;omega))];exact HIX.out
  have HC3:Hid (aC (fun x=>ok x∧x≠w.heap.size+1) w3 p cv3 acts { c with cs:=upd c.cs k T1,net:=cF c.net T2 }):=hc3
  have HG3w:Hid (w.grownBy w3 (some p)):=aQ HGX.out hg3
  clear hc3 hg3 rX
  go_wp2_with fail
  refine (G1 k hk w3 HC3.out (fun b hb=>HOW.out b (by omega))).mono ?_
  rintro e w4 ⟨v,rfl,⟨x,rfl,hx⟩,hc4,hg4⟩
  obtain⟨ay,cy,ey,_⟩:=id hx
  subst ey
  obtain⟨vs,hvs⟩:=zNm ((cP T1).1)
  have evs:({ code:=0,n:=(k:Int),vals:=(cP (upd c.cs k T1 k)).1 }:kE).vals=vs:=by rw[hvs,aT]
  have evs':(cP (upd c.cs k T1 k)).1=vs:=by rw[hvs,aT]
  rw[evs] at hx hc4 ⊢
  have HVS:Hid (vs=(cP T1).1):=hvs
  have HX:Hid (IsI (fun b=>w3.heap.size≤b∧cR w4 b) w4 (.slice ay vs.length cy) vs):=hx
  have HC4:Hid (∃cv',aC (fun y=>(ok y∧y≠w.heap.size+1)∧fP (.agg #[.int .i64 0,.int .i64 k,.slice ay vs.length cy]) y) w4 p cv' acts { c with cs:=upd c.cs k T1,net:=cF c.net T2 }):=hc4
  have HG4:Hid (w.grownBy w4 (some p)):=aQ HG3w.out hg4
  have r4:=zGk hg4 r3
  clear hx hc4 hg4 r3 hvs evs evs'
  go_wp2_with (first
   | (refine cZ (w.heap.size+1) rfl _ _ rfl rfl rfl r4 rfl ?_)
   | fail)
  refine eI Tryz.results60 rfl rfl r4 ?_
  rw[←HT1.out,←HT2.out,←HVS.out]
  exact (DoP.done (r:=⟨0,(k:Int),vs⟩) HC4.out HG4.out hp (by omega) hop HX.out (by omega))
theorem JZ {ok:Nat→Prop} {p:Nat} {cv:Nat→Value} {acts:Nat} {c:aK} (n:Nat) (hn:n<6) (v:Value) (f:aD) (s:List UInt8) (w:World) (h:aC ok w p cv acts c) (hok:∀b,w.heap.size≤b→ok b) (hf:bP w v f) (hfn:f.node=(n:Int)) (hs:s.length≤400) (hl:(c.log n).length≤100000) (t1:c.up n=false):
  Calls Tryz.prog 89 #[.pointer (some ⟨p,2+n*205,none⟩),v,.string (str s)] w fun e w'=>mI ok p acts w e w' (dJ c n f s):=by
 have HFN:Hid (f.node=(n:Int)):=hfn
 clear hfn
 obtain⟨a3,c3,a4,c4,a5,c5,a6,c6,ev,hfx⟩:=id hf
 subst ev
 have hp:=h.lt
 obtain⟨W,hW⟩:=zNm (w.alloc (.cells #[.int .i64 f.kind,.int .i64 f.node,.int .i64 f.id,.slice a3 f.ops.length c3,.slice a4 f.deps.length c4,.slice a5 f.ats.length c5,.slice a6 f.vals.length c6] 104))
 have HW:Hid (W=w.alloc (.cells #[.int .i64 f.kind,.int .i64 f.node,.int .i64 f.id,.slice a3 f.ops.length c3,.slice a4 f.deps.length c4,.slice a5 f.ats.length c5,.slice a6 f.vals.length c6] 104)):=hW
 have hbW:=zB1 hW
 have rF:=zHn hW
 have hzW1:w.heap.size+1≤W.heap.size:=by rw[hW,size_push];exact Nat.le_refl _
 have hCW:=h.below hbW
 have HCW:Hid (aC ok W p cv acts c):=hCW
 have HbW:Hid (Below w.heap.size w W):=hbW
 have eD:W.cell? ⟨p,2+n*205+202,none⟩=some (.bool (!c.up n)):=by rw[hCW.cell (by omega)];exact congrArg some (hCW.clu.mem n hn).down
 have HT:Hid (dJ c n f s=(c,[],6)):=by unfold Hid dJ;rw[if_pos t1]
 rw[t1] at eD
 clear hW hbW hCW h hf hfx rF
 go_enter Tryz.func89,Tryz.ntmps89
 go_upto_region 1 with fail
 rw[←HW.out]
 clear HW
 go_wp2_with fail
 go_ret2
 unfold mI
 rw[HT.out]
 exact⟨_,rfl,aI.nil _ _,⟨_,HCW.out⟩,aX HbW.out _⟩
theorem J0 {ok:Nat→Prop} {p:Nat} {cv:Nat→Value} {acts:Nat} {c:aK} (n:Nat) (hn:n<6) (v:Value) (f:aD) (s:List UInt8) (w:World) (h:aC ok w p cv acts c) (hok:∀b,w.heap.size≤b→ok b) (hf:bP w v f) (hfn:f.node=(n:Int)) (hs:s.length≤400) (hl:(c.log n).length≤100000) (t1:c.up n=true) (t2:(aJ (c.st n) f.node f).2.2≠0):
  Calls Tryz.prog 89 #[.pointer (some ⟨p,2+n*205,none⟩),v,.string (str s)] w fun e w'=>mI ok p acts w e w' (dJ c n f s):=by
 have HFN:Hid (f.node=(n:Int)):=hfn
 clear hfn
 obtain⟨a3,c3,a4,c4,a5,c5,a6,c6,ev,hfx⟩:=id hf
 subst ev
 have hp:=h.lt
 obtain⟨W,hW⟩:=zNm (w.alloc (.cells #[.int .i64 f.kind,.int .i64 f.node,.int .i64 f.id,.slice a3 f.ops.length c3,.slice a4 f.deps.length c4,.slice a5 f.ats.length c5,.slice a6 f.vals.length c6] 104))
 have HW:Hid (W=w.alloc (.cells #[.int .i64 f.kind,.int .i64 f.node,.int .i64 f.id,.slice a3 f.ops.length c3,.slice a4 f.deps.length c4,.slice a5 f.ats.length c5,.slice a6 f.vals.length c6] 104)):=hW
 have hbW:=zB1 hW
 have rF:=zHn hW
 have hzW1:w.heap.size+1≤W.heap.size:=by rw[hW,size_push];exact Nat.le_refl _
 have hCW:=h.below hbW
 have HCW:Hid (aC ok W p cv acts c):=hCW
 have HbW:Hid (Below w.heap.size w W):=hbW
 have eD:W.cell? ⟨p,2+n*205+202,none⟩=some (.bool (!c.up n)):=by rw[hCW.cell (by omega)];exact congrArg some (hCW.clu.mem n hn).down
 have HT:Hid (dJ c n f s=(c,[],(aJ (c.st n) f.node f).2.2)):=by unfold Hid dJ;rw[if_neg (by rw[t1];decide),if_pos t2]
 have HT2:Hid ((aJ (c.st n) f.node f).2.2≠0):=t2
 rw[t1] at eD
 clear t2
 obtain⟨E,hE⟩:=zNm ((aJ (c.st n) f.node f).2.2)
 obtain⟨frS,hfrS⟩:=zNm ((aJ (c.st n) f.node f).2.1)
 obtain⟨NS,hNS⟩:=zNm ((aJ (c.st n) f.node f).1)
 have HE:Hid (E=(aJ (c.st n) f.node f).2.2):=hE
 have HfrS:Hid (frS=(aJ (c.st n) f.node f).2.1):=hfrS
 have HNS:Hid (NS=(aJ (c.st n) f.node f).1):=hNS
 obtain⟨zr,hzr⟩:=zNm (aB 201 zv)
 have hz0:=Tryz.zeroNode
 rw[←hzr] at hz0
 have hzz:zr.size=201:=by rw[hzr,aH]
 obtain⟨g1,hg1⟩:=zNm ((aB 201 fun i=>cv (2+n*205+i)).toList)
 obtain⟨g2,hg2⟩:=zNm ((#[.int .i64 f.kind,.int .i64 f.node,.int .i64 f.id,.slice a3 f.ops.length c3,.slice a4 f.deps.length c4,.slice a5 f.ats.length c5,.slice a6 f.vals.length c6]:Array Value).toList:List Value)
 have zG:(Tryz.prog.info? 42).map (·.size)=some g1.length:=by rw[hg1,Array.length_toList,aH];exact Tryz.infoNode
 have zF:(Tryz.prog.info? 104).map (·.size)=some g2.length:=by rw[hg2];exact Tryz.infoFrame7
 have hpW:p<W.heap.size:=HCW.out.lt
 have HR:Hid (∀x,Below W.heap.size W x→x.rangeAt p (2+n*205) g1):=fun x hx=>by rw[hg1];exact gK (HCW.out.range (by omega)) hx hpW
 have HRF:Hid (∀x,Below W.heap.size W x→x.rangeAt w.heap.size 0 g2):=fun x hx=>by rw[hg2];exact gK (dB (by rw[Array.toArray_toList];exact rF)) hx (by omega)
 have HNd:Hid (∀x,Below W.heap.size W x→x.cell? ⟨w.heap.size,1,none⟩=some (.int .i64 f.node)):=fun x hx=>by rw[hx.cell (p:=⟨w.heap.size,1,none⟩) (show w.heap.size<W.heap.size by omega),cell_of_row _ _ _ _ _ _ rF];rfl
 have HTk:Hid (∀x,Below W.heap.size W x→Calls Tryz.prog 114 #[.agg g1.toArray,.int .i64 f.node,.agg g2.toArray] x fun r w'=>∃nv' y,r= .returned (.tuple #[.agg (aB 201 nv'),y,.int .i64 E])∧bG (x.heap.size < ·) w' nv' NS∧aI x.heap.size w' y frS∧Below x.heap.size x w'):=fun x hx=>by
  rw[hg1,hg2,hE,hfrS,hNS,Array.toArray_toList,Array.toArray_toList]
  exact oC (fun i=>cv (2+n*205+i)) (c.st n) f.node _ f x (((HCW.out.clu.mem n hn).st.any).below hx) ((hf.later HbW.out).later hx)
 clear hE hfrS hNS hzr hg1 hg2 hW hbW hCW h
 go_enter Tryz.func89,Tryz.ntmps89
 go_upto_region 1 with fail
 rw[←HW.out]
 clear HW
 go_upto_region 3 with fail
 try simp only[Act.put,sA,sZ,sS]
 go_cut [8,9,10] from 11 (fun p8 v9 v10 wc=>∃(q:Nat) (gr:Array Value) (nv:Nat→Value) (x:Value),p8= .pointer (some ⟨q,0,none⟩)∧v9=x∧v10= .int .i64 E∧gr=aB 201 nv∧wc.heap[q]? =some (.cells gr 42 (0,0))∧W.heap.size≤q∧bG (W.heap.size≤·) wc nv NS∧aI W.heap.size wc x frS∧Below W.heap.size W wc)
 case first=>
  refine wp_region_held_drew (S:=fun x=>Below W.heap.size W x) (by kernel_rfl) (Below.drew (Below.refl _ _)) ?_
  intro hH
  refine tkH 0 17 (.pointer (some ⟨p,2+n*205,none⟩)) hH ?_
  simp only[Act.put,sA,sZ,sS]
  refine tkH 1 18 (.pointer (some ⟨p,2+n*205,none⟩)) hH ?_
  simp only[Act.put,sA,sZ,sS]
  refine tkH 2 19 (.pointer (some ⟨p,2+n*205,none⟩)) hH ?_
  simp only[Act.put,sA,sZ,sS]
  refine tkH 3 20 (.agg g1.toArray) hH ?_ (hy:=yieldsIf_load_mid (by rfl) _ _ rfl _ _ rfl g1 _ (fun x hx=>HR.out x hx) Tryz.underlying42 rfl zG)
  simp only[Act.put,sA,sZ,sS]
  refine tkH 4 21 (.pointer (some ⟨w.heap.size,1,none⟩)) hH ?_
  simp only[Act.put,sA,sZ,sS]
  refine tkH 5 22 (.int .i64 f.node) hH ?_ (hy:=Or.inl ⟨by rfl,fun x hx=>by have q:=HNd.out x hx;go_simp⟩)
  simp only[Act.put,sA,sZ,sS]
  refine tkH 6 23 (.agg g2.toArray) hH ?_ (hy:=yieldsIf_load_mid (by rfl) _ _ rfl _ _ rfl g2 _ (fun x hx=>HRF.out x hx) Tryz.underlying104 rfl zF)
  simp only[Act.put,sA,sZ,sS]
  refine wpAnyH_ready (rs:=[7,12]) (by kernel_rfl) (by simp) ?_
  refine AllReadyH.cons rfl (fun K hK=>?_) (AllReadyH.cons rfl (fun K hK=>?_) AllReadyH.nil)
  ·go_simp
   refine Calls.mono (HTk.out _ hH) ?_
   rintro e wb ⟨nv2,x,rfl,hnc,hfx,hbb⟩
   obtain⟨gr,hgr⟩:=zNm (aB 201 nv2)
   have HGR:Hid (gr=aB 201 nv2):=hgr
   have hga:gr.all (·.oneCell')=true:=by rw[hgr];exact b8 hnc.one
   have hgi:=zIr hgr Tryz.infoNode
   have hgz:zr.size=gr.size:=by rw[hgr,hzz,aH]
   rw[←hgr]
   clear hgr
   go_wp2_with fail
   refine hK.out _ _ (hH.trans (hbb.mono hH.size)) (fun hH2=>?_)
   clear hK K hH
   have hH:=hH2
   clear hH2
   have hzb:=hbb.size
   refine tkH 8 16 (.tuple #[.agg gr,x,.int .i64 E]) hH ?_
   simp only[Act.put,sA,sZ,sS]
   refine tkH 9 25 (.agg gr) hH ?_
   simp only[Act.put,sA,sZ,sS]
   refine tkH 10 26 x hH ?_
   simp only[Act.put,sA,sZ,sS]
   refine tkH 11 27 (.int .i64 E) hH ?_
   simp only[Act.put,sA,sZ,sS]
   refine wpAnyH_ready (rs:=[12]) (by kernel_rfl) (by simp) ?_
   refine AllReadyH.cons rfl (fun K hK=>?_) AllReadyH.nil
   rw[if_pos (by rfl)]
   refine eR 42 rfl zr hz0 (some 8) rfl ?_
   refine hK.out _ _ (hH.alloc hH.size _) (fun hH2=>?_)
   clear hK K hH
   have hH:=hH2
   clear hH2
   simp only[Act.put,sA,sZ,sS]
   have hrow:(wb.alloc (.cells zr 42)).heap[wb.heap.size]? =some (.cells zr 42 (0,0)):=aR _ _
   have hVp:W.heap.size≤wb.heap.size:=hzb
   refine wpAnyH_ready (rs:=[13]) (by kernel_rfl) (by simp) ?_
   refine AllReadyH.cons rfl (fun K hK=>?_) AllReadyH.nil
   rw[if_pos (by rfl)]
   refine wp_store_row 42 _ _ rfl (wb.heap.size) gr rfl rfl 42 _ hrow hgi hgz hga ?_
   refine hK.out _ _ (aP hH hVp _) (fun hH2=>?_)
   clear hK K hH
   have hH:=hH2
   clear hH2
   refine tkH 14 9 x hH ?_
   simp only[Act.put,sA,sZ,sS]
   refine tkH 15 10 (.int .i64 E) hH ?_
   simp only[Act.put,sA,sZ,sS]
   refine wpAnyH_done (by kernel_rfl) ?_ _
   go_wp2
   go_meet
   case rel=>exact⟨wb.heap.size,gr,nv2,x,rfl,rfl,rfl,HGR.out,aU hrow,hVp,oL hnc,kK hfx,hH⟩
  ·rw[if_pos (by rfl)]
   refine eR 42 rfl zr hz0 (some 8) rfl ?_
   refine hK.out _ _ (hH.alloc hH.size _) (fun hH2=>?_)
   clear hK K hH
   have hH:=hH2
   clear hH2
   simp only[Act.put,sA,sZ,sS]
   refine wpAnyH_ready (rs:=[7]) (by kernel_rfl) (by simp) ?_
   refine AllReadyH.cons rfl (fun K hK=>?_) AllReadyH.nil
   go_simp
   refine Calls.mono (HTk.out _ hH) ?_
   rintro e wb ⟨nv2,x,rfl,hnc,hfx,hbb⟩
   obtain⟨gr,hgr⟩:=zNm (aB 201 nv2)
   have HGR:Hid (gr=aB 201 nv2):=hgr
   have hga:gr.all (·.oneCell')=true:=by rw[hgr];exact b8 hnc.one
   have hgi:=zIr hgr Tryz.infoNode
   have hgz:zr.size=gr.size:=by rw[hgr,hzz,aH]
   rw[←hgr]
   clear hgr
   go_wp2_with fail
   refine hK.out _ _ (hH.trans (hbb.mono hH.size)) (fun hH2=>?_)
   clear hK K hH
   have hH:=hH2
   clear hH2
   have hzb:=hbb.size
   refine tkH 8 16 (.tuple #[.agg gr,x,.int .i64 E]) hH ?_
   simp only[Act.put,sA,sZ,sS]
   refine tkH 9 25 (.agg gr) hH ?_
   simp only[Act.put,sA,sZ,sS]
   refine tkH 10 26 x hH ?_
   simp only[Act.put,sA,sZ,sS]
   refine tkH 11 27 (.int .i64 E) hH ?_
   simp only[Act.put,sA,sZ,sS]
   have hrow:wb.heap[W.heap.size]? =some (.cells zr 42 (0,0)):=by rw[hbb.block _ (by show W.heap.size<(W.heap.push (.cells zr 42)).size;simp)];show (W.heap.push (.cells zr 42))[W.heap.size]? =_;simp
   have hVp:W.heap.size≤W.heap.size:=Nat.le_refl _
   refine wpAnyH_ready (rs:=[13]) (by kernel_rfl) (by simp) ?_
   refine AllReadyH.cons rfl (fun K hK=>?_) AllReadyH.nil
   rw[if_pos (by rfl)]
   refine wp_store_row 42 _ _ rfl (W.heap.size) gr rfl rfl 42 _ hrow hgi hgz hga ?_
   refine hK.out _ _ (aP hH hVp _) (fun hH2=>?_)
   clear hK K hH
   have hH:=hH2
   clear hH2
   refine tkH 14 9 x hH ?_
   simp only[Act.put,sA,sZ,sS]
   refine tkH 15 10 (.int .i64 E) hH ?_
   simp only[Act.put,sA,sZ,sS]
   refine wpAnyH_done (by kernel_rfl) ?_ _
   go_wp2
   go_meet
   case rel=>exact⟨W.heap.size,gr,nv2,x,rfl,rfl,rfl,HGR.out,aU hrow,hVp,oM hnc ⟨by show W.heap.size<(W.heap.push (.cells zr 42)).size;simp,by show W.heap.size≤(W.heap.push (.cells zr 42)).size;simp⟩,kL hfx (by show W.heap.size<(W.heap.push (.cells zr 42)).size;simp) (by show W.heap.size≤(W.heap.push (.cells zr 42)).size;simp),hH⟩
 case rest=>
  obtain⟨q,gr,nv,x,rfl,rfl,rfl,hgr,rq,hqW,hnc,hfr,hbc⟩:=hcut
  obtain⟨ax,cx,rfl⟩:=hfr.form
  have hzc:=hbc.size
  have hbw:Below w.heap.size w wc:=HbW.out.trans (hbc.mono (by omega))
  have HGR:Hid (gr=aB 201 nv):=hgr
  have HNC:Hid (bG (W.heap.size≤·) wc nv NS):=hnc
  have HFx:Hid (aI W.heap.size wc (.slice ax frS.length cx) frS):=hfr
  have Hbw:=hI9 hbw
  have hCc:=HCW.out.below hbc
  have HCc:Hid (aC ok wc p cv acts c):=hCc
  have HOK:Hid (∀b,w.heap.size≤b→ok b):=hok
  have eT:wc.cell? ⟨p,2+n*205+203,none⟩=some (.bool (c.tear n).isSome):=by rw[hCc.cell (by omega)];exact congrArg some (hCc.clu.mem n hn).torn
  have eL:wc.cell? ⟨p,2+n*205+201,none⟩=some (.string (str (c.log n))):=by rw[hCc.cell (by omega)];exact congrArg some (hCc.clu.mem n hn).log
  have hpc:=hCc.lt
  clear hgr hnc hfr hbw hok hbc hCc HTk HRF HR HNd rF
  have de:(E !=0)=true:=by have:=HT2.out;rw[←HE.out] at this;simpa using this
  have HT3:Hid (dJ c n f s=(c,[],E)):=by unfold Hid;rw[HT.out,HE.out]
  clear HE HT HT2
  go_wp2_with fail
  go_ret2
  unfold mI
  rw[HT3.out]
  exact⟨_,rfl,aI.nil _ _,⟨_,HCc.out⟩,aX Hbw.out _⟩
end Go.Proofs.YtkoefoccbjhoiadGreat
