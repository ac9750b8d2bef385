/-
squeezed by tools/squeeze.py from: CTakeB CTakeC CTakeD CTake
-/
import Derived.Test.YtkoefoccbjhoiacGreatTops22
import Derived.Test.YtkoefoccbjhoiacGreatTops24
set_option linter.unusedVariables false
set_option linter.unusedSimpArgs false
set_option maxRecDepth 100000
set_option maxHeartbeats 4000000
namespace Go.Proofs.YtkoefoccbjhoiacGreat
open Go.RowKit
theorem M3 (gr:Array Value) (c:aG) (id:Int) (v:Value) (f:aD) (w:World) (h:cR w gr c) (hf:bS w v f) (t0:e8 c id f=0) (t1:f.kind=2):
    Calls Tryz.prog 95 #[.agg gr,.int .i64 id,v] w fun e w'=>∃gr' x,e= .returned (.tuple #[.agg gr',x,.int .i64 (aR c id f).2.2])∧lW w.heap.size w' gr' (aR c id f).1∧aL w.heap.size w' x (aR c id f).2.1∧Below w.heap.size w w':=by
  have Ht0:Hid (e8 c id f=0):=t0
  have Ht1:Hid (f.kind=2):=t1
  clear t0 t1
  have HE:Hid (aR c id f=((nD c f).1,(nD c f).2,0)):=IQ Ht0.out Ht1.out
  have d0:(e8 c id f !=0)=false:=by have:=Ht0.out;simpa using this
  have d2:(f.kind == 2)=true:=by rw[Ht1.out];decide
  have d4:(f.kind == 4)=false:=by rw[Ht1.out];decide
  have d5:(f.kind == 5)=false:=by rw[Ht1.out];decide
  have hg:aN f=0:=(pQ Ht0.out).2.2.1
  have HFB:Hid (dS w.heap.size w v f):=hf.b
  obtain⟨a3,c3,a4,c4,a5,c5,a6,c6,rfl,_⟩:=hf
  obtain⟨zr,hzr⟩:∃zr,zr=aC 24 zcv:=⟨_,rfl⟩
  have HZL:Hid ((#[.bool false,.bool false,.slice none 0 0,.bool false,.bool false,.bool false,.bool false,.bool false,.bool false,.bool false,.bool false,.bool false,.bool false,.bool false,.bool false,.slice none 0 0,.bool false,.bool false,.bool false,.bool false,.int .i64 0,.int .i64 0,.int .i64 0,.int .i64 0]:Array Value)=zr):=by unfold Hid;rw[hzr];rfl
  have hzz:zr.size=24:=by rw[hzr,aF]
  obtain⟨W,hW⟩:∃W,W=((w.alloc (.cells gr 47)).alloc (.cells #[.int .i64 f.kind,.int .i64 f.node,.int .i64 f.id,.slice a3 f.ops.length c3,.slice a4 f.deps.length c4,.slice a5 f.ats.length c5,.slice a6 f.vals.length c6] 123)).alloc (.cells zr 47):=⟨_,rfl⟩
  have hb:Below w.heap.size w W:=by rw[hW];exact (((Below.refl _ _).alloc (Nat.le_refl _) _).alloc (by rw[aA];omega) _).alloc (by rw[aA,aA];omega) _
  have hzW:W.heap.size=w.heap.size+3:=by rw[hW,aA,aA,aA]
  obtain⟨r0,r1,r2⟩:=qK w (.cells gr 47) (.cells #[.int .i64 f.kind,.int .i64 f.node,.int .i64 f.id,.slice a3 f.ops.length c3,.slice a4 f.deps.length c4,.slice a5 f.ats.length c5,.slice a6 f.vals.length c6] 123) (.cells zr 47)
  rw[←hW] at r0 r1 r2
  have hB:bD w.heap.size W gr c:=⟨r0,h.later hb⟩
  obtain⟨a2,c2,q2,hs2,hl2⟩:=hB.ops
  obtain⟨a15,c15,q15,hs15,hl15⟩:=hB.deps
  obtain⟨nv,hnv,hcc⟩:=h
  have HW:Hid (W=((w.alloc (.cells gr 47)).alloc (.cells #[.int .i64 f.kind,.int .i64 f.node,.int .i64 f.id,.slice a3 f.ops.length c3,.slice a4 f.deps.length c4,.slice a5 f.ats.length c5,.slice a6 f.vals.length c6] 123)).alloc (.cells zr 47)):=hW
  have HR1:Hid (W.heap[w.heap.size+1]? =some (.cells #[.int .i64 f.kind,.int .i64 f.node,.int .i64 f.id,.slice a3 f.ops.length c3,.slice a4 f.deps.length c4,.slice a5 f.ats.length c5,.slice a6 f.vals.length c6] 123 (0,0))):=r1
  have HR2:Hid (W.heap[w.heap.size+2]? =some (.cells zr 47 (0,0))):=r2
  have Hbw:Hid (Below w.heap.size w W):=hb
  have HC1:Hid (∀wx,wx=W.drew→Calls Tryz.prog 54 #[.slice a2 c.ops.length c2] wx fun e w'=>∃ao co,e= .returned (.slice ao c.ops.length co)∧Hid (w'.ownsRow W.heap.size 69 3 (.slice ao c.ops.length co) c.ops.length (cJ c.ops))∧Hid (Below W.heap.size W w')∧w'.cell? ⟨w.heap.size,15,none⟩=some (.slice a15 c.deps.length c15)):=by
    rintro wx rfl
    refine (gF a2 c2 c.ops _ (hs2.later (Below.drew (Below.refl _ _))) hl2).mono ?_
    rintro e w1 ⟨v,rfl,hv,_,hb1⟩
    obtain⟨ao,co,rfl,_,_⟩:=bC hv
    have hb1':Below W.heap.size W w1:=(Below.drew (Below.refl _ _)).trans hb1
    exact⟨ao,co,rfl,hv,hb1',by rw[hb1'.cell (p:=⟨w.heap.size,15,none⟩) (show w.heap.size<W.heap.size by omega)];exact q15⟩
  have HC2:Hid (∀wx,Below W.heap.size W wx→Calls Tryz.prog 55 #[.slice a15 c.deps.length c15] wx fun e w'=>∃ad cd,e= .returned (.slice ad c.deps.length cd)∧Hid (w'.ownsRow wx.heap.size 3 1 (.slice ad c.deps.length cd) c.deps.length (aS c.deps))∧Hid (Below wx.heap.size wx w')∧
      w'.cell? ⟨w.heap.size,2,none⟩=some (.slice a2 c.ops.length c2)∧w'.cell? ⟨w.heap.size,15,none⟩=some (.slice a15 c.deps.length c15)∧w'.frozen? ⟨w.heap.size,2,none⟩=false∧w'.frozen? ⟨w.heap.size,15,none⟩=false):=by
    intro wx hx
    refine (dB a15 c15 c.deps wx (hs15.later hx) hl15).mono ?_
    rintro e w1 ⟨v,rfl,hv,_,hb1⟩
    obtain⟨ad,cd,rfl,_,_⟩:=bC hv
    have hz:=hx.size
    have hrow:w1.heap[w.heap.size]? =some (.cells gr 47 (0,0)):=by rw[hb1.block _ (by omega),hx.block _ (by omega)];exact r0
    refine⟨ad,cd,rfl,hv,hb1,?_,?_,frozen_of_row _ _ _ _ _ hrow,frozen_of_row _ _ _ _ _ hrow⟩
    ·rw[hb1.cell (p:=⟨w.heap.size,2,none⟩) (show w.heap.size<wx.heap.size by omega),hx.cell (p:=⟨w.heap.size,2,none⟩) (show w.heap.size<W.heap.size by omega)];exact q2
    ·rw[hb1.cell (p:=⟨w.heap.size,15,none⟩) (show w.heap.size<wx.heap.size by omega),hx.cell (p:=⟨w.heap.size,15,none⟩) (show w.heap.size<W.heap.size by omega)];exact q15
  have HPT:Hid (∀w1 w2 ao co ad cd,w1.ownsRow W.heap.size 69 3 (.slice ao c.ops.length co) c.ops.length (cJ c.ops)→Below W.heap.size W w1→w2.ownsRow w1.heap.size 3 1 (.slice ad c.deps.length cd) c.deps.length (aS c.deps)→Below w1.heap.size w1 w2→
      ∃mv,cM (w.heap.size+3) w.heap.size ((w2.setCell ⟨w.heap.size,2,none⟩ (.slice ao c.ops.length co)).setCell ⟨w.heap.size,15,none⟩ (.slice ad c.deps.length cd)) mv c):=by
    intro w1 w2 ao co ad cd h1 hb1 h2 hb2
    have hz1:=hb1.size
    have hz2:=hb2.size
    have i1:IsO (w.heap.size+3≤·) w2 (.slice ao c.ops.length co) c.ops:=((IsO.of_owns h1 hl2).later (bQ.of_size hb2)).mono (fun b _ hb=>by have:=hb.1;show w.heap.size+3≤b;omega)
    have i2:IsI (w.heap.size+3≤·) w2 (.slice ad c.deps.length cd) c.deps:=(IsI.of_owns h2 hl15).mono (fun b _ hb=>by have:=hb.1;show w.heap.size+3≤b;omega)
    refine⟨bK (bK nv 2 (.slice ao c.ops.length co)) 15 (.slice ad c.deps.length cd),?_,?_,by omega⟩
    ·rw[heap_setCell_same _ _ _ _ _ _ (heap_setCell_same w2 w.heap.size 2 _ _ _ (show w2.heap[w.heap.size]? =some (.cells gr 47 (0,0)) by rw[hb2.block _ (by omega),hb1.block _ (by omega)];exact r0)),hnv,dP,dP]
     rfl
    ·have hoth:bQ (w.heap.size+3≤·) w2 ((w2.setCell ⟨w.heap.size,2,none⟩ (.slice ao c.ops.length co)).setCell ⟨w.heap.size,15,none⟩ (.slice ad c.deps.length cd)):=fun k _ hk=>by
        have:w.heap.size+3≤k:=hk
        rw[Below.heap_setCell _ _ _ _ (show k≠w.heap.size by omega),Below.heap_setCell _ _ _ _ (show k≠w.heap.size by omega)]
     refine b7.later ?_ hoth
     exact⟨hcc.begun,hcc.fixed,i1,fun i hi=>by unfold bK;rw[if_neg (by omega),if_neg (by omega)];exact hcc.told i hi,fun i hi=>by unfold bK;rw[if_neg (by omega),if_neg (by omega)];exact hcc.known i hi,i2,fun i hi=>by unfold bK;rw[if_neg (by omega),if_neg (by omega)];exact hcc.has i hi,fun i hi=>by unfold bK;rw[if_neg (by omega),if_neg (by omega)];exact hcc.vals i hi⟩
  clear hW r0 r1 r2 hB hs2 hs15 hb hzr hnv hcc
  go_enter Tryz.func95,Tryz.ntmps95
  go_upto_region 1 with fail
  rw[HZL.out,←HW.out]
  clear HW HZL
  go_region_with (first
    | (go_at_call 54;refine (HC1.out _ rfl).mono ?_;rintro e w1 ⟨ao,co,rfl,HO1,HB1,k15⟩)
    | (go_at_call 55;refine (HC2.out w1 HB1.out).mono ?_;rintro e w2 ⟨ad,cd,rfl,HO2,HB2,j2,j15,g2,g15⟩))
  all_goals
    obtain⟨mv,hmv⟩:=HPT.out w1 w2 ao co ad cd HO1.out HB1.out HO2.out HB2.out
    obtain⟨X,hX⟩:∃X,X=(w2.setCell ⟨w.heap.size,2,none⟩ (.slice ao c.ops.length co)).setCell ⟨w.heap.size,15,none⟩ (.slice ad c.deps.length cd):=⟨_,rfl⟩
    have hzX:w.heap.size+3≤X.heap.size:=by
      have e1:=HB1.out.size
      have e2:=HB2.out.size
      have e3:X.heap.size=w2.heap.size:=by rw[hX];simp[World.setCell]
      omega
    have HGX:Hid (W.grownBy X (some w.heap.size)):=by
      unfold Hid
      rw[hX]
      exact aM (aM (bZ (bZ (eH _ _) HB1.out) HB2.out) _ _) _ _
    have HX:=hI9 hX
    rw[←hX] at hmv
    have HP:Hid (cM (w.heap.size+3) w.heap.size X mv c):=hmv
    obtain⟨hr,ehr⟩:∃hr,hr=aC 24 mv:=⟨_,rfl⟩
    have rX:X.heap[w.heap.size]? =some (.cells hr 47 (0,0)):=by rw[ehr];exact hmv.row
    have tX:iY Tryz.prog 47 hr.size:=by rw[ehr];exact hmv.box.case.row
    have HCX:Hid (cR X hr c):=by unfold Hid;rw[ehr];exact hmv.box.case
    have HHR:=hI9 ehr
    have rF:X.heap[w.heap.size+1]? =some (.cells #[.int .i64 f.kind,.int .i64 f.node,.int .i64 f.id,.slice a3 f.ops.length c3,.slice a4 f.deps.length c4,.slice a5 f.ats.length c5,.slice a6 f.vals.length c6] 123 (0,0)):=by rw[HGX.out.block _ (by omega) (fun e=>by have:=Option.some.inj e;omega)];exact HR1.out
    have HFX:Hid (dS w.heap.size X (.agg #[.int .i64 f.kind,.int .i64 f.node,.int .i64 f.id,.slice a3 f.ops.length c3,.slice a4 f.deps.length c4,.slice a5 f.ats.length c5,.slice a6 f.vals.length c6]) f):=HFB.out.later (j8 Hbw.out HGX.out (by omega))
    clear hX hmv ehr HO1 HO2 HB1 HB2 j2 j15 g2 g15 k15
    rw[←HX.out]
    clear HX
    go_wp2_with (first
      | ((with_reducible apply cD rX);(· rfl);(· exact tX);(· rfl);simp only[Act.put,sA,sZ,sS])
      | ((with_reducible apply cD rF);(· rfl);(· exact eJ);(· rfl);simp only[Act.put,sA,sZ,sS])
      | fail)
    refine (oQ hr c id _ f X HCX.out HFX.out.v).mono ?_
    rintro e w3 ⟨rfl,hb3⟩
    have HP3:Hid (cM (w.heap.size+3) w.heap.size w3 mv c):=HP.out.later hb3
    have HG3:Hid (W.grownBy w3 (some w.heap.size)):=bZ HGX.out hb3
    have HF3:Hid (dS w.heap.size w3 (.agg #[.int .i64 f.kind,.int .i64 f.node,.int .i64 f.id,.slice a3 f.ops.length c3,.slice a4 f.deps.length c4,.slice a5 f.ats.length c5,.slice a6 f.vals.length c6]) f):=HFX.out.later (hb3.mono (by omega))
    have hz3:w.heap.size+3≤w3.heap.size:=by have:=hb3.size;omega
    have r3:w3.heap[w.heap.size]? =some (.cells hr 47 (0,0)):=by rw[HHR.out];exact HP3.out.row
    have rF3:w3.heap[w.heap.size+1]? =some (.cells #[.int .i64 f.kind,.int .i64 f.node,.int .i64 f.id,.slice a3 f.ops.length c3,.slice a4 f.deps.length c4,.slice a5 f.ats.length c5,.slice a6 f.vals.length c6] 123 (0,0)):=by rw[hb3.block _ (by omega)];exact rF
    have rZ3:w3.heap[w.heap.size+2]? =some (.cells zr 47 (0,0)):=by rw[HG3.out.block _ (by omega) (fun e=>by have:=Option.some.inj e;omega)];exact HR2.out
    have k03:w3.cell? ⟨w.heap.size+1,0,none⟩=some (.int .i64 f.kind):=by rw[cell_of_row _ _ _ _ _ _ rF3];rfl
    clear hb3 rX rF HP HGX HFX
    have HCall:=D9 (w.heap.size+3) w.heap.size mv c _ f w3 HP3.out HF3.out hg hz3
    obtain⟨d,hd⟩:∃d,d=(nD c f).1:=⟨_,rfl⟩
    rw[←hd] at HCall
    have HCall:Hid _:=HCall
    have HD:=hI9 hd
    clear hd
    go_wp2_with (first
      | ((with_reducible apply cD rF3);(· rfl);(· exact eJ);(· rfl);simp only[Act.put,sA,sZ,sS])
      | fail)
    refine Calls.mono HCall.out ?_
    rintro e w4 ⟨nv4,x4,rfl,hP4,hF4,hG4⟩
    have HF4:Hid (aL w3.heap.size w4 x4 (nD c f).2):=hF4
    clear hF4
    have HP4:Hid (cM (w.heap.size+3) w.heap.size w4 nv4 d):=hP4
    have HG4:Hid (W.grownBy w4 (some w.heap.size)):=gG HG3.out hG4
    have hz4:w3.heap.size≤w4.heap.size:=hG4.size
    obtain⟨hs,ehs⟩:∃hs,hs=aC 24 nv4:=⟨_,rfl⟩
    have HHS:=hI9 ehs
    clear hP4 hG4 ehs r3 rF3 rZ3 k03 HCall HP3
    have r9:w4.heap[w.heap.size]? =some (.cells hs 47 (0,0)):=by rw[HHS.out];exact HP4.out.row
    have t9:iY Tryz.prog 47 hs.size:=by rw[HHS.out];exact HP4.out.box.case.row
    have i9:(Tryz.prog.info? 47).map (·.size)=some hs.size:=by rw[HHS.out];exact HP4.out.box.case.info
    have s9:zr.size=hs.size:=by rw[HHS.out,aF];exact hzz
    have o9:hs.all (·.oneCell')=true:=by rw[HHS.out];exact HP4.out.box.case.one
    have rZ9:w4.heap[w.heap.size+2]? =some (.cells zr 47 (0,0)):=by rw[HG4.out.block _ (by omega) (fun e=>by have:=Option.some.inj e;omega)];exact HR2.out
    go_wp2_with (first
      | ((with_reducible apply cD r9);(· rfl);(· exact t9);(· rfl);simp only[Act.put,sA,sZ,sS])
      | (refine wpList_store_row rfl 47 _ _ rfl (w.heap.size+2) hs rfl rfl 47 _ rZ9 i9 s9 o9 ?_)
      | fail)
    refine bodyPost_ret (v:= .tuple #[.agg hs,x4,.int .i64 0]) (fP Tryz.results95 _ _ (w.heap.size+2) 47 hs (0,0) _ rfl (aI rZ9) Tryz.underlying47 rfl i9 _ _ rfl rfl) rfl ⟨hs,x4,by rw[HE.out],by rw[HE.out];have hh:=HP4.out.out hs;rw[←HHS.out,HD.out] at hh;exact hh,by rw[HE.out];exact (HF4.out.same (fun b _ hb=>bM _ _ (by omega))).mono (by omega),aU (j8 Hbw.out HG4.out (by omega)) (by omega) _⟩
theorem M4 (gr:Array Value) (c:aG) (id:Int) (v:Value) (f:aD) (w:World) (h:cR w gr c) (hf:bS w v f) (t0:e8 c id f=0) (t1:f.kind=4):
    Calls Tryz.prog 95 #[.agg gr,.int .i64 id,v] w fun e w'=>∃gr' x,e= .returned (.tuple #[.agg gr',x,.int .i64 (aR c id f).2.2])∧lW w.heap.size w' gr' (aR c id f).1∧aL w.heap.size w' x (aR c id f).2.1∧Below w.heap.size w w':=by
  have Ht0:Hid (e8 c id f=0):=t0
  have Ht1:Hid (f.kind=4):=t1
  clear t0 t1
  have HE:Hid (aR c id f=((if c.fixed then { c with known:=upd c.known f.node.toNat true } else c),[],0)):=E8 Ht0.out Ht1.out
  have d0:(e8 c id f !=0)=false:=by have:=Ht0.out;simpa using this
  have d2:(f.kind == 2)=false:=by rw[Ht1.out];decide
  have d4:(f.kind == 4)=true:=by rw[Ht1.out];decide
  have d5:(f.kind == 5)=false:=by rw[Ht1.out];decide
  have hg:aN f=0:=(pQ Ht0.out).2.2.1
  have HFB:Hid (dS w.heap.size w v f):=hf.b
  obtain⟨a3,c3,a4,c4,a5,c5,a6,c6,rfl,_⟩:=hf
  obtain⟨zr,hzr⟩:∃zr,zr=aC 24 zcv:=⟨_,rfl⟩
  have HZL:Hid ((#[.bool false,.bool false,.slice none 0 0,.bool false,.bool false,.bool false,.bool false,.bool false,.bool false,.bool false,.bool false,.bool false,.bool false,.bool false,.bool false,.slice none 0 0,.bool false,.bool false,.bool false,.bool false,.int .i64 0,.int .i64 0,.int .i64 0,.int .i64 0]:Array Value)=zr):=by unfold Hid;rw[hzr];rfl
  have hzz:zr.size=24:=by rw[hzr,aF]
  obtain⟨W,hW⟩:∃W,W=((w.alloc (.cells gr 47)).alloc (.cells #[.int .i64 f.kind,.int .i64 f.node,.int .i64 f.id,.slice a3 f.ops.length c3,.slice a4 f.deps.length c4,.slice a5 f.ats.length c5,.slice a6 f.vals.length c6] 123)).alloc (.cells zr 47):=⟨_,rfl⟩
  have hb:Below w.heap.size w W:=by rw[hW];exact (((Below.refl _ _).alloc (Nat.le_refl _) _).alloc (by rw[aA];omega) _).alloc (by rw[aA,aA];omega) _
  have hzW:W.heap.size=w.heap.size+3:=by rw[hW,aA,aA,aA]
  obtain⟨r0,r1,r2⟩:=qK w (.cells gr 47) (.cells #[.int .i64 f.kind,.int .i64 f.node,.int .i64 f.id,.slice a3 f.ops.length c3,.slice a4 f.deps.length c4,.slice a5 f.ats.length c5,.slice a6 f.vals.length c6] 123) (.cells zr 47)
  rw[←hW] at r0 r1 r2
  have hB:bD w.heap.size W gr c:=⟨r0,h.later hb⟩
  obtain⟨a2,c2,q2,hs2,hl2⟩:=hB.ops
  obtain⟨a15,c15,q15,hs15,hl15⟩:=hB.deps
  obtain⟨nv,hnv,hcc⟩:=h
  have HW:Hid (W=((w.alloc (.cells gr 47)).alloc (.cells #[.int .i64 f.kind,.int .i64 f.node,.int .i64 f.id,.slice a3 f.ops.length c3,.slice a4 f.deps.length c4,.slice a5 f.ats.length c5,.slice a6 f.vals.length c6] 123)).alloc (.cells zr 47)):=hW
  have HR1:Hid (W.heap[w.heap.size+1]? =some (.cells #[.int .i64 f.kind,.int .i64 f.node,.int .i64 f.id,.slice a3 f.ops.length c3,.slice a4 f.deps.length c4,.slice a5 f.ats.length c5,.slice a6 f.vals.length c6] 123 (0,0))):=r1
  have HR2:Hid (W.heap[w.heap.size+2]? =some (.cells zr 47 (0,0))):=r2
  have Hbw:Hid (Below w.heap.size w W):=hb
  have HC1:Hid (∀wx,wx=W.drew→Calls Tryz.prog 54 #[.slice a2 c.ops.length c2] wx fun e w'=>∃ao co,e= .returned (.slice ao c.ops.length co)∧Hid (w'.ownsRow W.heap.size 69 3 (.slice ao c.ops.length co) c.ops.length (cJ c.ops))∧Hid (Below W.heap.size W w')∧w'.cell? ⟨w.heap.size,15,none⟩=some (.slice a15 c.deps.length c15)):=by
    rintro wx rfl
    refine (gF a2 c2 c.ops _ (hs2.later (Below.drew (Below.refl _ _))) hl2).mono ?_
    rintro e w1 ⟨v,rfl,hv,_,hb1⟩
    obtain⟨ao,co,rfl,_,_⟩:=bC hv
    have hb1':Below W.heap.size W w1:=(Below.drew (Below.refl _ _)).trans hb1
    exact⟨ao,co,rfl,hv,hb1',by rw[hb1'.cell (p:=⟨w.heap.size,15,none⟩) (show w.heap.size<W.heap.size by omega)];exact q15⟩
  have HC2:Hid (∀wx,Below W.heap.size W wx→Calls Tryz.prog 55 #[.slice a15 c.deps.length c15] wx fun e w'=>∃ad cd,e= .returned (.slice ad c.deps.length cd)∧Hid (w'.ownsRow wx.heap.size 3 1 (.slice ad c.deps.length cd) c.deps.length (aS c.deps))∧Hid (Below wx.heap.size wx w')∧
      w'.cell? ⟨w.heap.size,2,none⟩=some (.slice a2 c.ops.length c2)∧w'.cell? ⟨w.heap.size,15,none⟩=some (.slice a15 c.deps.length c15)∧w'.frozen? ⟨w.heap.size,2,none⟩=false∧w'.frozen? ⟨w.heap.size,15,none⟩=false):=by
    intro wx hx
    refine (dB a15 c15 c.deps wx (hs15.later hx) hl15).mono ?_
    rintro e w1 ⟨v,rfl,hv,_,hb1⟩
    obtain⟨ad,cd,rfl,_,_⟩:=bC hv
    have hz:=hx.size
    have hrow:w1.heap[w.heap.size]? =some (.cells gr 47 (0,0)):=by rw[hb1.block _ (by omega),hx.block _ (by omega)];exact r0
    refine⟨ad,cd,rfl,hv,hb1,?_,?_,frozen_of_row _ _ _ _ _ hrow,frozen_of_row _ _ _ _ _ hrow⟩
    ·rw[hb1.cell (p:=⟨w.heap.size,2,none⟩) (show w.heap.size<wx.heap.size by omega),hx.cell (p:=⟨w.heap.size,2,none⟩) (show w.heap.size<W.heap.size by omega)];exact q2
    ·rw[hb1.cell (p:=⟨w.heap.size,15,none⟩) (show w.heap.size<wx.heap.size by omega),hx.cell (p:=⟨w.heap.size,15,none⟩) (show w.heap.size<W.heap.size by omega)];exact q15
  have HPT:Hid (∀w1 w2 ao co ad cd,w1.ownsRow W.heap.size 69 3 (.slice ao c.ops.length co) c.ops.length (cJ c.ops)→Below W.heap.size W w1→w2.ownsRow w1.heap.size 3 1 (.slice ad c.deps.length cd) c.deps.length (aS c.deps)→Below w1.heap.size w1 w2→
      ∃mv,cM (w.heap.size+3) w.heap.size ((w2.setCell ⟨w.heap.size,2,none⟩ (.slice ao c.ops.length co)).setCell ⟨w.heap.size,15,none⟩ (.slice ad c.deps.length cd)) mv c):=by
    intro w1 w2 ao co ad cd h1 hb1 h2 hb2
    have hz1:=hb1.size
    have hz2:=hb2.size
    have i1:IsO (w.heap.size+3≤·) w2 (.slice ao c.ops.length co) c.ops:=((IsO.of_owns h1 hl2).later (bQ.of_size hb2)).mono (fun b _ hb=>by have:=hb.1;show w.heap.size+3≤b;omega)
    have i2:IsI (w.heap.size+3≤·) w2 (.slice ad c.deps.length cd) c.deps:=(IsI.of_owns h2 hl15).mono (fun b _ hb=>by have:=hb.1;show w.heap.size+3≤b;omega)
    refine⟨bK (bK nv 2 (.slice ao c.ops.length co)) 15 (.slice ad c.deps.length cd),?_,?_,by omega⟩
    ·rw[heap_setCell_same _ _ _ _ _ _ (heap_setCell_same w2 w.heap.size 2 _ _ _ (show w2.heap[w.heap.size]? =some (.cells gr 47 (0,0)) by rw[hb2.block _ (by omega),hb1.block _ (by omega)];exact r0)),hnv,dP,dP]
     rfl
    ·have hoth:bQ (w.heap.size+3≤·) w2 ((w2.setCell ⟨w.heap.size,2,none⟩ (.slice ao c.ops.length co)).setCell ⟨w.heap.size,15,none⟩ (.slice ad c.deps.length cd)):=fun k _ hk=>by
        have:w.heap.size+3≤k:=hk
        rw[Below.heap_setCell _ _ _ _ (show k≠w.heap.size by omega),Below.heap_setCell _ _ _ _ (show k≠w.heap.size by omega)]
     refine b7.later ?_ hoth
     exact⟨hcc.begun,hcc.fixed,i1,fun i hi=>by unfold bK;rw[if_neg (by omega),if_neg (by omega)];exact hcc.told i hi,fun i hi=>by unfold bK;rw[if_neg (by omega),if_neg (by omega)];exact hcc.known i hi,i2,fun i hi=>by unfold bK;rw[if_neg (by omega),if_neg (by omega)];exact hcc.has i hi,fun i hi=>by unfold bK;rw[if_neg (by omega),if_neg (by omega)];exact hcc.vals i hi⟩
  clear hW r0 r1 r2 hB hs2 hs15 hb hzr hnv hcc
  go_enter Tryz.func95,Tryz.ntmps95
  go_upto_region 1 with fail
  rw[HZL.out,←HW.out]
  clear HW HZL
  go_region_with (first
    | (go_at_call 54;refine (HC1.out _ rfl).mono ?_;rintro e w1 ⟨ao,co,rfl,HO1,HB1,k15⟩)
    | (go_at_call 55;refine (HC2.out w1 HB1.out).mono ?_;rintro e w2 ⟨ad,cd,rfl,HO2,HB2,j2,j15,g2,g15⟩))
  all_goals
    obtain⟨mv,hmv⟩:=HPT.out w1 w2 ao co ad cd HO1.out HB1.out HO2.out HB2.out
    obtain⟨X,hX⟩:∃X,X=(w2.setCell ⟨w.heap.size,2,none⟩ (.slice ao c.ops.length co)).setCell ⟨w.heap.size,15,none⟩ (.slice ad c.deps.length cd):=⟨_,rfl⟩
    have hzX:w.heap.size+3≤X.heap.size:=by
      have e1:=HB1.out.size
      have e2:=HB2.out.size
      have e3:X.heap.size=w2.heap.size:=by rw[hX];simp[World.setCell]
      omega
    have HGX:Hid (W.grownBy X (some w.heap.size)):=by
      unfold Hid
      rw[hX]
      exact aM (aM (bZ (bZ (eH _ _) HB1.out) HB2.out) _ _) _ _
    have HX:=hI9 hX
    rw[←hX] at hmv
    have HP:Hid (cM (w.heap.size+3) w.heap.size X mv c):=hmv
    obtain⟨hr,ehr⟩:∃hr,hr=aC 24 mv:=⟨_,rfl⟩
    have rX:X.heap[w.heap.size]? =some (.cells hr 47 (0,0)):=by rw[ehr];exact hmv.row
    have tX:iY Tryz.prog 47 hr.size:=by rw[ehr];exact hmv.box.case.row
    have HCX:Hid (cR X hr c):=by unfold Hid;rw[ehr];exact hmv.box.case
    have HHR:=hI9 ehr
    have rF:X.heap[w.heap.size+1]? =some (.cells #[.int .i64 f.kind,.int .i64 f.node,.int .i64 f.id,.slice a3 f.ops.length c3,.slice a4 f.deps.length c4,.slice a5 f.ats.length c5,.slice a6 f.vals.length c6] 123 (0,0)):=by rw[HGX.out.block _ (by omega) (fun e=>by have:=Option.some.inj e;omega)];exact HR1.out
    have HFX:Hid (dS w.heap.size X (.agg #[.int .i64 f.kind,.int .i64 f.node,.int .i64 f.id,.slice a3 f.ops.length c3,.slice a4 f.deps.length c4,.slice a5 f.ats.length c5,.slice a6 f.vals.length c6]) f):=HFB.out.later (j8 Hbw.out HGX.out (by omega))
    clear hX hmv ehr HO1 HO2 HB1 HB2 j2 j15 g2 g15 k15
    rw[←HX.out]
    clear HX
    go_wp2_with (first
      | ((with_reducible apply cD rX);(· rfl);(· exact tX);(· rfl);simp only[Act.put,sA,sZ,sS])
      | ((with_reducible apply cD rF);(· rfl);(· exact eJ);(· rfl);simp only[Act.put,sA,sZ,sS])
      | fail)
    refine (oQ hr c id _ f X HCX.out HFX.out.v).mono ?_
    rintro e w3 ⟨rfl,hb3⟩
    have HP3:Hid (cM (w.heap.size+3) w.heap.size w3 mv c):=HP.out.later hb3
    have HG3:Hid (W.grownBy w3 (some w.heap.size)):=bZ HGX.out hb3
    have HF3:Hid (dS w.heap.size w3 (.agg #[.int .i64 f.kind,.int .i64 f.node,.int .i64 f.id,.slice a3 f.ops.length c3,.slice a4 f.deps.length c4,.slice a5 f.ats.length c5,.slice a6 f.vals.length c6]) f):=HFX.out.later (hb3.mono (by omega))
    have hz3:w.heap.size+3≤w3.heap.size:=by have:=hb3.size;omega
    have r3:w3.heap[w.heap.size]? =some (.cells hr 47 (0,0)):=by rw[HHR.out];exact HP3.out.row
    have rF3:w3.heap[w.heap.size+1]? =some (.cells #[.int .i64 f.kind,.int .i64 f.node,.int .i64 f.id,.slice a3 f.ops.length c3,.slice a4 f.deps.length c4,.slice a5 f.ats.length c5,.slice a6 f.vals.length c6] 123 (0,0)):=by rw[hb3.block _ (by omega)];exact rF
    have rZ3:w3.heap[w.heap.size+2]? =some (.cells zr 47 (0,0)):=by rw[HG3.out.block _ (by omega) (fun e=>by have:=Option.some.inj e;omega)];exact HR2.out
    have k03:w3.cell? ⟨w.heap.size+1,0,none⟩=some (.int .i64 f.kind):=by rw[cell_of_row _ _ _ _ _ _ rF3];rfl
    clear hb3 rX rF HP HGX HFX
    have HCall:=BS (w.heap.size+3) w.heap.size mv c _ f w3 HP3.out HF3.out.v (fS hg).2
    obtain⟨d,hd⟩:∃d,d=(if c.fixed then { c with known:=upd c.known f.node.toNat true } else c):=⟨_,rfl⟩
    rw[←hd] at HCall
    have HCall:Hid _:=HCall
    have HD:=hI9 hd
    clear hd
    go_wp2_with (first
      | ((with_reducible apply cD rF3);(· rfl);(· exact eJ);(· rfl);simp only[Act.put,sA,sZ,sS])
      | fail)
    refine Calls.mono HCall.out ?_
    rintro e w4 ⟨rfl,nv4,hP4,hG4⟩
    have HP4:Hid (cM (w.heap.size+3) w.heap.size w4 nv4 d):=hP4
    have HG4:Hid (W.grownBy w4 (some w.heap.size)):=gG HG3.out hG4
    have hz4:w3.heap.size≤w4.heap.size:=hG4.size
    obtain⟨hs,ehs⟩:∃hs,hs=aC 24 nv4:=⟨_,rfl⟩
    have HHS:=hI9 ehs
    clear hP4 hG4 ehs r3 rF3 rZ3 k03 HCall HP3
    have r9:w4.heap[w.heap.size]? =some (.cells hs 47 (0,0)):=by rw[HHS.out];exact HP4.out.row
    have t9:iY Tryz.prog 47 hs.size:=by rw[HHS.out];exact HP4.out.box.case.row
    have i9:(Tryz.prog.info? 47).map (·.size)=some hs.size:=by rw[HHS.out];exact HP4.out.box.case.info
    have s9:zr.size=hs.size:=by rw[HHS.out,aF];exact hzz
    have o9:hs.all (·.oneCell')=true:=by rw[HHS.out];exact HP4.out.box.case.one
    have rZ9:w4.heap[w.heap.size+2]? =some (.cells zr 47 (0,0)):=by rw[HG4.out.block _ (by omega) (fun e=>by have:=Option.some.inj e;omega)];exact HR2.out
    go_wp2_with (first
      | ((with_reducible apply cD r9);(· rfl);(· exact t9);(· rfl);simp only[Act.put,sA,sZ,sS])
      | (refine wpList_store_row rfl 47 _ _ rfl (w.heap.size+2) hs rfl rfl 47 _ rZ9 i9 s9 o9 ?_)
      | fail)
    refine bodyPost_ret (v:= .tuple #[.agg hs,.slice none 0 0,.int .i64 0]) (fP Tryz.results95 _ _ (w.heap.size+2) 47 hs (0,0) _ rfl (aI rZ9) Tryz.underlying47 rfl i9 _ _ rfl rfl) rfl ⟨hs,.slice none 0 0,by rw[HE.out],by rw[HE.out];have hh:=HP4.out.out hs;rw[←HHS.out,HD.out] at hh;exact hh,by rw[HE.out];exact aL.nil _ _,aU (j8 Hbw.out HG4.out (by omega)) (by omega) _⟩
theorem M5 (gr:Array Value) (c:aG) (id:Int) (v:Value) (f:aD) (w:World) (h:cR w gr c) (hf:bS w v f) (t0:e8 c id f=0) (t1:f.kind=5):
    Calls Tryz.prog 95 #[.agg gr,.int .i64 id,v] w fun e w'=>∃gr' x,e= .returned (.tuple #[.agg gr',x,.int .i64 (aR c id f).2.2])∧lW w.heap.size w' gr' (aR c id f).1∧aL w.heap.size w' x (aR c id f).2.1∧Below w.heap.size w w':=by
  have Ht0:Hid (e8 c id f=0):=t0
  have Ht1:Hid (f.kind=5):=t1
  clear t0 t1
  have HE:Hid (aR c id f=((if c.fixed then c.dones (ofL f.node) (f.ats.zip f.vals) else c),[],0)):=IM Ht0.out Ht1.out
  have d0:(e8 c id f !=0)=false:=by have:=Ht0.out;simpa using this
  have d2:(f.kind == 2)=false:=by rw[Ht1.out];decide
  have d4:(f.kind == 4)=false:=by rw[Ht1.out];decide
  have d5:(f.kind == 5)=true:=by rw[Ht1.out];decide
  have hg:aN f=0:=(pQ Ht0.out).2.2.1
  have HFB:Hid (dS w.heap.size w v f):=hf.b
  obtain⟨a3,c3,a4,c4,a5,c5,a6,c6,rfl,_⟩:=hf
  obtain⟨zr,hzr⟩:∃zr,zr=aC 24 zcv:=⟨_,rfl⟩
  have HZL:Hid ((#[.bool false,.bool false,.slice none 0 0,.bool false,.bool false,.bool false,.bool false,.bool false,.bool false,.bool false,.bool false,.bool false,.bool false,.bool false,.bool false,.slice none 0 0,.bool false,.bool false,.bool false,.bool false,.int .i64 0,.int .i64 0,.int .i64 0,.int .i64 0]:Array Value)=zr):=by unfold Hid;rw[hzr];rfl
  have hzz:zr.size=24:=by rw[hzr,aF]
  obtain⟨W,hW⟩:∃W,W=((w.alloc (.cells gr 47)).alloc (.cells #[.int .i64 f.kind,.int .i64 f.node,.int .i64 f.id,.slice a3 f.ops.length c3,.slice a4 f.deps.length c4,.slice a5 f.ats.length c5,.slice a6 f.vals.length c6] 123)).alloc (.cells zr 47):=⟨_,rfl⟩
  have hb:Below w.heap.size w W:=by rw[hW];exact (((Below.refl _ _).alloc (Nat.le_refl _) _).alloc (by rw[aA];omega) _).alloc (by rw[aA,aA];omega) _
  have hzW:W.heap.size=w.heap.size+3:=by rw[hW,aA,aA,aA]
  obtain⟨r0,r1,r2⟩:=qK w (.cells gr 47) (.cells #[.int .i64 f.kind,.int .i64 f.node,.int .i64 f.id,.slice a3 f.ops.length c3,.slice a4 f.deps.length c4,.slice a5 f.ats.length c5,.slice a6 f.vals.length c6] 123) (.cells zr 47)
  rw[←hW] at r0 r1 r2
  have hB:bD w.heap.size W gr c:=⟨r0,h.later hb⟩
  obtain⟨a2,c2,q2,hs2,hl2⟩:=hB.ops
  obtain⟨a15,c15,q15,hs15,hl15⟩:=hB.deps
  obtain⟨nv,hnv,hcc⟩:=h
  have HW:Hid (W=((w.alloc (.cells gr 47)).alloc (.cells #[.int .i64 f.kind,.int .i64 f.node,.int .i64 f.id,.slice a3 f.ops.length c3,.slice a4 f.deps.length c4,.slice a5 f.ats.length c5,.slice a6 f.vals.length c6] 123)).alloc (.cells zr 47)):=hW
  have HR1:Hid (W.heap[w.heap.size+1]? =some (.cells #[.int .i64 f.kind,.int .i64 f.node,.int .i64 f.id,.slice a3 f.ops.length c3,.slice a4 f.deps.length c4,.slice a5 f.ats.length c5,.slice a6 f.vals.length c6] 123 (0,0))):=r1
  have HR2:Hid (W.heap[w.heap.size+2]? =some (.cells zr 47 (0,0))):=r2
  have Hbw:Hid (Below w.heap.size w W):=hb
  have HC1:Hid (∀wx,wx=W.drew→Calls Tryz.prog 54 #[.slice a2 c.ops.length c2] wx fun e w'=>∃ao co,e= .returned (.slice ao c.ops.length co)∧Hid (w'.ownsRow W.heap.size 69 3 (.slice ao c.ops.length co) c.ops.length (cJ c.ops))∧Hid (Below W.heap.size W w')∧w'.cell? ⟨w.heap.size,15,none⟩=some (.slice a15 c.deps.length c15)):=by
    rintro wx rfl
    refine (gF a2 c2 c.ops _ (hs2.later (Below.drew (Below.refl _ _))) hl2).mono ?_
    rintro e w1 ⟨v,rfl,hv,_,hb1⟩
    obtain⟨ao,co,rfl,_,_⟩:=bC hv
    have hb1':Below W.heap.size W w1:=(Below.drew (Below.refl _ _)).trans hb1
    exact⟨ao,co,rfl,hv,hb1',by rw[hb1'.cell (p:=⟨w.heap.size,15,none⟩) (show w.heap.size<W.heap.size by omega)];exact q15⟩
  have HC2:Hid (∀wx,Below W.heap.size W wx→Calls Tryz.prog 55 #[.slice a15 c.deps.length c15] wx fun e w'=>∃ad cd,e= .returned (.slice ad c.deps.length cd)∧Hid (w'.ownsRow wx.heap.size 3 1 (.slice ad c.deps.length cd) c.deps.length (aS c.deps))∧Hid (Below wx.heap.size wx w')∧
      w'.cell? ⟨w.heap.size,2,none⟩=some (.slice a2 c.ops.length c2)∧w'.cell? ⟨w.heap.size,15,none⟩=some (.slice a15 c.deps.length c15)∧w'.frozen? ⟨w.heap.size,2,none⟩=false∧w'.frozen? ⟨w.heap.size,15,none⟩=false):=by
    intro wx hx
    refine (dB a15 c15 c.deps wx (hs15.later hx) hl15).mono ?_
    rintro e w1 ⟨v,rfl,hv,_,hb1⟩
    obtain⟨ad,cd,rfl,_,_⟩:=bC hv
    have hz:=hx.size
    have hrow:w1.heap[w.heap.size]? =some (.cells gr 47 (0,0)):=by rw[hb1.block _ (by omega),hx.block _ (by omega)];exact r0
    refine⟨ad,cd,rfl,hv,hb1,?_,?_,frozen_of_row _ _ _ _ _ hrow,frozen_of_row _ _ _ _ _ hrow⟩
    ·rw[hb1.cell (p:=⟨w.heap.size,2,none⟩) (show w.heap.size<wx.heap.size by omega),hx.cell (p:=⟨w.heap.size,2,none⟩) (show w.heap.size<W.heap.size by omega)];exact q2
    ·rw[hb1.cell (p:=⟨w.heap.size,15,none⟩) (show w.heap.size<wx.heap.size by omega),hx.cell (p:=⟨w.heap.size,15,none⟩) (show w.heap.size<W.heap.size by omega)];exact q15
  have HPT:Hid (∀w1 w2 ao co ad cd,w1.ownsRow W.heap.size 69 3 (.slice ao c.ops.length co) c.ops.length (cJ c.ops)→Below W.heap.size W w1→w2.ownsRow w1.heap.size 3 1 (.slice ad c.deps.length cd) c.deps.length (aS c.deps)→Below w1.heap.size w1 w2→
      ∃mv,cM (w.heap.size+3) w.heap.size ((w2.setCell ⟨w.heap.size,2,none⟩ (.slice ao c.ops.length co)).setCell ⟨w.heap.size,15,none⟩ (.slice ad c.deps.length cd)) mv c):=by
    intro w1 w2 ao co ad cd h1 hb1 h2 hb2
    have hz1:=hb1.size
    have hz2:=hb2.size
    have i1:IsO (w.heap.size+3≤·) w2 (.slice ao c.ops.length co) c.ops:=((IsO.of_owns h1 hl2).later (bQ.of_size hb2)).mono (fun b _ hb=>by have:=hb.1;show w.heap.size+3≤b;omega)
    have i2:IsI (w.heap.size+3≤·) w2 (.slice ad c.deps.length cd) c.deps:=(IsI.of_owns h2 hl15).mono (fun b _ hb=>by have:=hb.1;show w.heap.size+3≤b;omega)
    refine⟨bK (bK nv 2 (.slice ao c.ops.length co)) 15 (.slice ad c.deps.length cd),?_,?_,by omega⟩
    ·rw[heap_setCell_same _ _ _ _ _ _ (heap_setCell_same w2 w.heap.size 2 _ _ _ (show w2.heap[w.heap.size]? =some (.cells gr 47 (0,0)) by rw[hb2.block _ (by omega),hb1.block _ (by omega)];exact r0)),hnv,dP,dP]
     rfl
    ·have hoth:bQ (w.heap.size+3≤·) w2 ((w2.setCell ⟨w.heap.size,2,none⟩ (.slice ao c.ops.length co)).setCell ⟨w.heap.size,15,none⟩ (.slice ad c.deps.length cd)):=fun k _ hk=>by
        have:w.heap.size+3≤k:=hk
        rw[Below.heap_setCell _ _ _ _ (show k≠w.heap.size by omega),Below.heap_setCell _ _ _ _ (show k≠w.heap.size by omega)]
     refine b7.later ?_ hoth
     exact⟨hcc.begun,hcc.fixed,i1,fun i hi=>by unfold bK;rw[if_neg (by omega),if_neg (by omega)];exact hcc.told i hi,fun i hi=>by unfold bK;rw[if_neg (by omega),if_neg (by omega)];exact hcc.known i hi,i2,fun i hi=>by unfold bK;rw[if_neg (by omega),if_neg (by omega)];exact hcc.has i hi,fun i hi=>by unfold bK;rw[if_neg (by omega),if_neg (by omega)];exact hcc.vals i hi⟩
  clear hW r0 r1 r2 hB hs2 hs15 hb hzr hnv hcc
  go_enter Tryz.func95,Tryz.ntmps95
  go_upto_region 1 with fail
  rw[HZL.out,←HW.out]
  clear HW HZL
  go_region_with (first
    | (go_at_call 54;refine (HC1.out _ rfl).mono ?_;rintro e w1 ⟨ao,co,rfl,HO1,HB1,k15⟩)
    | (go_at_call 55;refine (HC2.out w1 HB1.out).mono ?_;rintro e w2 ⟨ad,cd,rfl,HO2,HB2,j2,j15,g2,g15⟩))
  all_goals
    obtain⟨mv,hmv⟩:=HPT.out w1 w2 ao co ad cd HO1.out HB1.out HO2.out HB2.out
    obtain⟨X,hX⟩:∃X,X=(w2.setCell ⟨w.heap.size,2,none⟩ (.slice ao c.ops.length co)).setCell ⟨w.heap.size,15,none⟩ (.slice ad c.deps.length cd):=⟨_,rfl⟩
    have hzX:w.heap.size+3≤X.heap.size:=by
      have e1:=HB1.out.size
      have e2:=HB2.out.size
      have e3:X.heap.size=w2.heap.size:=by rw[hX];simp[World.setCell]
      omega
    have HGX:Hid (W.grownBy X (some w.heap.size)):=by
      unfold Hid
      rw[hX]
      exact aM (aM (bZ (bZ (eH _ _) HB1.out) HB2.out) _ _) _ _
    have HX:=hI9 hX
    rw[←hX] at hmv
    have HP:Hid (cM (w.heap.size+3) w.heap.size X mv c):=hmv
    obtain⟨hr,ehr⟩:∃hr,hr=aC 24 mv:=⟨_,rfl⟩
    have rX:X.heap[w.heap.size]? =some (.cells hr 47 (0,0)):=by rw[ehr];exact hmv.row
    have tX:iY Tryz.prog 47 hr.size:=by rw[ehr];exact hmv.box.case.row
    have HCX:Hid (cR X hr c):=by unfold Hid;rw[ehr];exact hmv.box.case
    have HHR:=hI9 ehr
    have rF:X.heap[w.heap.size+1]? =some (.cells #[.int .i64 f.kind,.int .i64 f.node,.int .i64 f.id,.slice a3 f.ops.length c3,.slice a4 f.deps.length c4,.slice a5 f.ats.length c5,.slice a6 f.vals.length c6] 123 (0,0)):=by rw[HGX.out.block _ (by omega) (fun e=>by have:=Option.some.inj e;omega)];exact HR1.out
    have HFX:Hid (dS w.heap.size X (.agg #[.int .i64 f.kind,.int .i64 f.node,.int .i64 f.id,.slice a3 f.ops.length c3,.slice a4 f.deps.length c4,.slice a5 f.ats.length c5,.slice a6 f.vals.length c6]) f):=HFB.out.later (j8 Hbw.out HGX.out (by omega))
    clear hX hmv ehr HO1 HO2 HB1 HB2 j2 j15 g2 g15 k15
    rw[←HX.out]
    clear HX
    go_wp2_with (first
      | ((with_reducible apply cD rX);(· rfl);(· exact tX);(· rfl);simp only[Act.put,sA,sZ,sS])
      | ((with_reducible apply cD rF);(· rfl);(· exact eJ);(· rfl);simp only[Act.put,sA,sZ,sS])
      | fail)
    refine (oQ hr c id _ f X HCX.out HFX.out.v).mono ?_
    rintro e w3 ⟨rfl,hb3⟩
    have HP3:Hid (cM (w.heap.size+3) w.heap.size w3 mv c):=HP.out.later hb3
    have HG3:Hid (W.grownBy w3 (some w.heap.size)):=bZ HGX.out hb3
    have HF3:Hid (dS w.heap.size w3 (.agg #[.int .i64 f.kind,.int .i64 f.node,.int .i64 f.id,.slice a3 f.ops.length c3,.slice a4 f.deps.length c4,.slice a5 f.ats.length c5,.slice a6 f.vals.length c6]) f):=HFX.out.later (hb3.mono (by omega))
    have hz3:w.heap.size+3≤w3.heap.size:=by have:=hb3.size;omega
    have r3:w3.heap[w.heap.size]? =some (.cells hr 47 (0,0)):=by rw[HHR.out];exact HP3.out.row
    have rF3:w3.heap[w.heap.size+1]? =some (.cells #[.int .i64 f.kind,.int .i64 f.node,.int .i64 f.id,.slice a3 f.ops.length c3,.slice a4 f.deps.length c4,.slice a5 f.ats.length c5,.slice a6 f.vals.length c6] 123 (0,0)):=by rw[hb3.block _ (by omega)];exact rF
    have rZ3:w3.heap[w.heap.size+2]? =some (.cells zr 47 (0,0)):=by rw[HG3.out.block _ (by omega) (fun e=>by have:=Option.some.inj e;omega)];exact HR2.out
    have k03:w3.cell? ⟨w.heap.size+1,0,none⟩=some (.int .i64 f.kind):=by rw[cell_of_row _ _ _ _ _ _ rF3];rfl
    clear hb3 rX rF HP HGX HFX
    have HCall:=D8 (w.heap.size+3) w.heap.size mv c _ f w3 HP3.out HF3.out hg
    obtain⟨d,hd⟩:∃d,d=(if c.fixed then c.dones (ofL f.node) (f.ats.zip f.vals) else c):=⟨_,rfl⟩
    rw[←hd] at HCall
    have HCall:Hid _:=HCall
    have HD:=hI9 hd
    clear hd
    go_wp2_with (first
      | ((with_reducible apply cD rF3);(· rfl);(· exact eJ);(· rfl);simp only[Act.put,sA,sZ,sS])
      | fail)
    refine Calls.mono HCall.out ?_
    rintro e w4 ⟨rfl,nv4,hP4,hG4⟩
    have HP4:Hid (cM (w.heap.size+3) w.heap.size w4 nv4 d):=hP4
    have HG4:Hid (W.grownBy w4 (some w.heap.size)):=gG HG3.out hG4
    have hz4:w3.heap.size≤w4.heap.size:=hG4.size
    obtain⟨hs,ehs⟩:∃hs,hs=aC 24 nv4:=⟨_,rfl⟩
    have HHS:=hI9 ehs
    clear hP4 hG4 ehs r3 rF3 rZ3 k03 HCall HP3
    have r9:w4.heap[w.heap.size]? =some (.cells hs 47 (0,0)):=by rw[HHS.out];exact HP4.out.row
    have t9:iY Tryz.prog 47 hs.size:=by rw[HHS.out];exact HP4.out.box.case.row
    have i9:(Tryz.prog.info? 47).map (·.size)=some hs.size:=by rw[HHS.out];exact HP4.out.box.case.info
    have s9:zr.size=hs.size:=by rw[HHS.out,aF];exact hzz
    have o9:hs.all (·.oneCell')=true:=by rw[HHS.out];exact HP4.out.box.case.one
    have rZ9:w4.heap[w.heap.size+2]? =some (.cells zr 47 (0,0)):=by rw[HG4.out.block _ (by omega) (fun e=>by have:=Option.some.inj e;omega)];exact HR2.out
    go_wp2_with (first
      | ((with_reducible apply cD r9);(· rfl);(· exact t9);(· rfl);simp only[Act.put,sA,sZ,sS])
      | (refine wpList_store_row rfl 47 _ _ rfl (w.heap.size+2) hs rfl rfl 47 _ rZ9 i9 s9 o9 ?_)
      | fail)
    refine bodyPost_ret (v:= .tuple #[.agg hs,.slice none 0 0,.int .i64 0]) (fP Tryz.results95 _ _ (w.heap.size+2) 47 hs (0,0) _ rfl (aI rZ9) Tryz.underlying47 rfl i9 _ _ rfl rfl) rfl ⟨hs,.slice none 0 0,by rw[HE.out],by rw[HE.out];have hh:=HP4.out.out hs;rw[←HHS.out,HD.out] at hh;exact hh,by rw[HE.out];exact aL.nil _ _,aU (j8 Hbw.out HG4.out (by omega)) (by omega) _⟩
theorem GB {f:aD} (h:aN f=0):1≤f.kind∧f.kind≤5:=by
 unfold aN at h
 split at h
 ·omega
 ·omega
theorem G3 (gr:Array Value) (c:aG) (id:Int) (v:Value) (f:aD) (w:World) (h:cR w gr c) (hf:bS w v f):
  Calls Tryz.prog 95 #[.agg gr,.int .i64 id,v] w fun e w'=>∃gr' x,e= .returned (.tuple #[.agg gr',x,.int .i64 (aR c id f).2.2])∧lW w.heap.size w' gr' (aR c id f).1∧aL w.heap.size w' x (aR c id f).2.1∧Below w.heap.size w w':=by
 by_cases t0:e8 c id f=0
 ·obtain⟨_,_,h3,h4,h5⟩:=pQ t0
  have hk:=GB h3
  by_cases k2:f.kind=2
  ·exact M3 gr c id v f w h hf t0 k2
  ·by_cases k4:f.kind=4
   ·exact M4 gr c id v f w h hf t0 k4
   ·exact M5 gr c id v f w h hf t0 (by omega)
 ·exact M2 gr c id v f w h hf t0
end Go.Proofs.YtkoefoccbjhoiacGreat
