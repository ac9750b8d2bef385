/-
squeezed by tools/squeeze.py from: CBegin CResult CRefus CPtr CMost CDone Ints Union
-/
import Derived.Test.YtkoefoccbjhoiacGreatTopb12
import Derived.Test.YtkoefoccbjhoiacGreatTopb3
import Derived.Test.YtkoefoccbjhoiacGreatTopb1
set_option linter.unusedVariables false
set_option linter.unusedSimpArgs false
set_option maxRecDepth 100000
set_option maxHeartbeats 16000000
namespace Go.Proofs.YtkoefoccbjhoiacGreat
open Go.RowKit
def bcv (v:Value) (i:Nat):Value:=if i=0 then .bool true else if i=2 then v else zcv i
theorem J6 (v:Value):aD 24 (bcv v)=#[.bool true,.bool false,v,.bool false,.bool false,.bool false,.bool false,.bool false,.bool false,.bool false,.bool false,.bool false,.bool false,.bool false,.bool false,.slice none 0 0,.bool false,.bool false,.bool false,.bool false,.int .i64 0,.int .i64 0,.int .i64 0,.int .i64 0]:=rfl
theorem tV {ok:Nat→Prop} {w:World} {v:Value} {ops:List OpL} (h:IsO ok w v ops):cA ok w (bcv v) { cF with begun:=true,ops:=ops }:=by
 have hz:=oV ok w
 refine⟨rfl,rfl,h,fun i hi=>?_,fun i hi=>?_,IsI.nil _ _,fun i hi=>?_,fun i hi=>?_⟩
 ·unfold bcv;rw[if_neg (by omega),if_neg (by omega)];exact hz.told i hi
 ·unfold bcv;rw[if_neg (by omega),if_neg (by omega)];exact hz.known i hi
 ·unfold bcv;rw[if_neg (by omega),if_neg (by omega)];exact hz.has i hi
 ·unfold bcv;rw[if_neg (by omega),if_neg (by omega)];exact hz.vals i hi
theorem ED {w:World} {v:Value} {ops:List OpL} (h:IsO (· <w.heap.size) w v ops):cU w (aD 24 (bcv v)) { cF with begun:=true,ops:=ops }:=⟨bcv v,rfl,tV h⟩
theorem dJ {w:World} {b:Nat} {l:List Value} {t:TypeId} {fr:Nat × Nat} (h:w.heap[b]? =some (.cells l.toArray t fr)):w.rangeAt b 0 l:=by
 intro j v hv
 rw[cell_of_row w b (0+j) _ _ _ h,Nat.zero_add]
 simpa using hv
theorem CH {n:Int} {ops:List OpL} (h:¬ (0≤n∧n<32)):bK n ops=(cF,[],2):=by unfold bK;rw[if_pos (by omega)]
theorem vL {n:Int} {ops:List OpL} (h:0≤n∧n<32) (h1:bQ ops=false):bK n ops=(cF,[],1):=by unfold bK;rw[if_neg (by omega),if_pos h1]
theorem J4 {n:Int} {ops:List OpL} (h:0≤n∧n<32) (h1:bQ ops=true):bK n ops=({ cF with begun:=true,ops:=ops },bU { cF with begun:=true,ops:=ops } n,0):=by unfold bK;rw[if_neg (by omega),if_neg (by rw[h1];decide)]
theorem MM (n:Int) (a:Option Addr) (cap:Nat) (ops:List OpL) (w:World) (h:bZ w a cap ops) (t2:¬ (0≤n∧n<32)):
  Calls Tryz.prog 71 #[.agg #[.int .i64 n,.slice a ops.length cap]] w fun e w'=>∃gr x,e= .returned (.tuple #[.agg gr,x,.int .i64 (bK n ops).2.2])∧cU w' gr (bK n ops).1∧aQ w.heap.size w' x (bK n ops).2.1∧Below w.heap.size w w':=by
 obtain⟨zr,hzr⟩:∃zr,zr=aD 24 zcv:=⟨_,rfl⟩
 have HZL:Hid ((#[.bool false,.bool false,.slice none 0 0,.bool false,.bool false,.bool false,.bool false,.bool false,.bool false,.bool false,.bool false,.bool false,.bool false,.bool false,.bool false,.slice none 0 0,.bool false,.bool false,.bool false,.bool false,.int .i64 0,.int .i64 0,.int .i64 0,.int .i64 0]:Array Value)=zr):=by unfold Hid;rw[hzr];rfl
 have HZV:Hid (Value.agg #[.bool false,.bool false,.slice none 0 0,.bool false,.bool false,.bool false,.bool false,.bool false,.bool false,.bool false,.bool false,.bool false,.bool false,.bool false,.bool false,.slice none 0 0,.bool false,.bool false,.bool false,.bool false,.int .i64 0,.int .i64 0,.int .i64 0,.int .i64 0]= .agg zr):=by unfold Hid;rw[HZL.out]
 have HZC:Hid (∀wx,cU wx zr cF):=fun wx=>by rw[hzr];exact jU wx
 obtain⟨W,hW⟩:∃W,W=(w.alloc (.cells #[.int .i64 n,.slice a ops.length cap] 119)).alloc (.cells zr 47):=⟨_,rfl⟩
 have hb:Below w.heap.size w W:=by rw[hW];exact ((Below.refl _ _).alloc (Nat.le_refl _) _).alloc (by rw[aB];omega) _
 have hzW:W.heap.size=w.heap.size+2:=by rw[hW,aB,aB]
 obtain⟨r0,r1⟩:=cT w (.cells #[.int .i64 n,.slice a ops.length cap] 119) (.cells zr 47)
 rw[←hW] at r0 r1
 have q0:W.cell? ⟨w.heap.size,0,none⟩=some (.int .i64 n):=by rw[cell_of_row _ _ _ _ _ _ r0];rfl
 have q1:W.cell? ⟨w.heap.size,1,none⟩=some (.slice a ops.length cap):=by rw[cell_of_row _ _ _ _ _ _ r0];rfl
 have HW:Hid (W=(w.alloc (.cells #[.int .i64 n,.slice a ops.length cap] 119)).alloc (.cells zr 47)):=hW
 have HL:Hid (bZ W a cap ops):=h.later hb
 have hzc:(Tryz.prog.info? 47).map (·.size)=some zr.size:=(HZC.out w).info
 have hz1:zr.all (·.oneCell')=true:=(HZC.out w).one
 clear hW h hzr
 go_enter Tryz.func71,Tryz.ntmps71
 go_upto_region 1 with fail
 rw[HZL.out,←HW.out]
 clear HW
 go_wp2_with fail
 refine (tQ n W).mono ?_
 rintro e w2 ⟨rfl,hw⟩
 subst hw
 have HE:Hid (bK n ops=(cF,[],2)):=CH t2
 have d2:kM n=false:=decide_eq_false t2
 clear t2
 go_wp2_with (first
  | (refine wpList_store_row rfl 47 _ _ rfl (w.heap.size+1) zr rfl HZV.out 47 _ r1 hzc rfl hz1 ?_)
  | fail)
 refine bodyPost_ret (v:= .tuple #[.agg zr,.slice none 0 0,.int .i64 2]) (fT Tryz.results71 _ _ (w.heap.size+1) 47 zr (0,0) _ rfl (aH r1) Tryz.underlying47 rfl hzc _ _ rfl rfl) rfl ⟨_,_,by rw[HE.out],by rw[HE.out];exact HZC.out _,by rw[HE.out];exact aQ.nil _ _,aU hb (by omega) _⟩
theorem MN (n:Int) (a:Option Addr) (cap:Nat) (ops:List OpL) (w:World) (h:bZ w a cap ops) (t2:0≤n∧n<32) (t3:bQ ops=false):
  Calls Tryz.prog 71 #[.agg #[.int .i64 n,.slice a ops.length cap]] w fun e w'=>∃gr x,e= .returned (.tuple #[.agg gr,x,.int .i64 (bK n ops).2.2])∧cU w' gr (bK n ops).1∧aQ w.heap.size w' x (bK n ops).2.1∧Below w.heap.size w w':=by
 obtain⟨zr,hzr⟩:∃zr,zr=aD 24 zcv:=⟨_,rfl⟩
 have HZL:Hid ((#[.bool false,.bool false,.slice none 0 0,.bool false,.bool false,.bool false,.bool false,.bool false,.bool false,.bool false,.bool false,.bool false,.bool false,.bool false,.bool false,.slice none 0 0,.bool false,.bool false,.bool false,.bool false,.int .i64 0,.int .i64 0,.int .i64 0,.int .i64 0]:Array Value)=zr):=by unfold Hid;rw[hzr];rfl
 have HZV:Hid (Value.agg #[.bool false,.bool false,.slice none 0 0,.bool false,.bool false,.bool false,.bool false,.bool false,.bool false,.bool false,.bool false,.bool false,.bool false,.bool false,.bool false,.slice none 0 0,.bool false,.bool false,.bool false,.bool false,.int .i64 0,.int .i64 0,.int .i64 0,.int .i64 0]= .agg zr):=by unfold Hid;rw[HZL.out]
 have HZC:Hid (∀wx,cU wx zr cF):=fun wx=>by rw[hzr];exact jU wx
 obtain⟨W,hW⟩:∃W,W=(w.alloc (.cells #[.int .i64 n,.slice a ops.length cap] 119)).alloc (.cells zr 47):=⟨_,rfl⟩
 have hb:Below w.heap.size w W:=by rw[hW];exact ((Below.refl _ _).alloc (Nat.le_refl _) _).alloc (by rw[aB];omega) _
 have hzW:W.heap.size=w.heap.size+2:=by rw[hW,aB,aB]
 obtain⟨r0,r1⟩:=cT w (.cells #[.int .i64 n,.slice a ops.length cap] 119) (.cells zr 47)
 rw[←hW] at r0 r1
 have q0:W.cell? ⟨w.heap.size,0,none⟩=some (.int .i64 n):=by rw[cell_of_row _ _ _ _ _ _ r0];rfl
 have q1:W.cell? ⟨w.heap.size,1,none⟩=some (.slice a ops.length cap):=by rw[cell_of_row _ _ _ _ _ _ r0];rfl
 have HW:Hid (W=(w.alloc (.cells #[.int .i64 n,.slice a ops.length cap] 119)).alloc (.cells zr 47)):=hW
 have HL:Hid (bZ W a cap ops):=h.later hb
 have hzc:(Tryz.prog.info? 47).map (·.size)=some zr.size:=(HZC.out w).info
 have hz1:zr.all (·.oneCell')=true:=(HZC.out w).one
 clear hW h hzr
 go_enter Tryz.func71,Tryz.ntmps71
 go_upto_region 1 with fail
 rw[HZL.out,←HW.out]
 clear HW
 go_wp2_with fail
 refine (tQ n W).mono ?_
 rintro e w2 ⟨rfl,hw⟩
 subst hw
 have HT2:Hid (0≤n∧n<32):=t2
 have d2:kM n=true:=decide_eq_true t2
 clear t2
 go_wp2_with fail
 refine (kS a cap ops w2 HL.out.2.1 HL.out.1).mono ?_
 rintro e w3 ⟨rfl,hb3⟩
 have hz3:=hb3.size
 have hbw:Below w.heap.size w w3:=hb.trans (hb3.mono (by omega))
 have r0':w3.heap[w.heap.size]? =some (.cells #[.int .i64 n,.slice a ops.length cap] 119 (0,0)):=by rw[hb3.block _ (by omega)];exact r0
 have r1':w3.heap[w.heap.size+1]? =some (.cells zr 47 (0,0)):=by rw[hb3.block _ (by omega)];exact r1
 have q0':w3.cell? ⟨w.heap.size,0,none⟩=some (.int .i64 n):=by rw[cell_of_row _ _ _ _ _ _ r0'];rfl
 have q1':w3.cell? ⟨w.heap.size,1,none⟩=some (.slice a ops.length cap):=by rw[cell_of_row _ _ _ _ _ _ r0'];rfl
 have HL3:Hid (bZ w3 a cap ops):=HL.out.later hb3
 have HB3':Hid (Below w.heap.size w w3):=hbw
 clear hb3 r0 r1 q0 q1 HL hb
 have HE:Hid (bK n ops=(cF,[],1)):=vL HT2.out t3
 go_wp2_with (first
  | (refine wpList_store_row rfl 47 _ _ rfl (w.heap.size+1) zr rfl HZV.out 47 _ r1' hzc rfl hz1 ?_)
  | fail)
 refine bodyPost_ret (v:= .tuple #[.agg zr,.slice none 0 0,.int .i64 1]) (fT Tryz.results71 _ _ (w.heap.size+1) 47 zr (0,0) _ rfl (aH r1') Tryz.underlying47 rfl hzc _ _ rfl rfl) rfl ⟨_,_,by rw[HE.out],by rw[HE.out];exact HZC.out _,by rw[HE.out];exact aQ.nil _ _,aU HB3'.out (by omega) _⟩
theorem DR (n:Int) (a:Option Addr) (cap:Nat) (ops:List OpL) (w:World) (h:bZ w a cap ops) (t2:0≤n∧n<32) (t3:bQ ops=true):
    Calls Tryz.prog 71 #[.agg #[.int .i64 n,.slice a ops.length cap]] w fun e w'=>∃gr x,e= .returned (.tuple #[.agg gr,x,.int .i64 (bK n ops).2.2])∧(∃nv,gr=aD 24 nv∧cA (fun b=>w.heap.size≤b) w' nv (bK n ops).1)∧aQ w.heap.size w' x (bK n ops).2.1∧Below w.heap.size w w':=by
  obtain⟨zr,hzr⟩:∃zr,zr=aD 24 zcv:=⟨_,rfl⟩
  have HZL:Hid ((#[.bool false,.bool false,.slice none 0 0,.bool false,.bool false,.bool false,.bool false,.bool false,.bool false,.bool false,.bool false,.bool false,.bool false,.bool false,.bool false,.slice none 0 0,.bool false,.bool false,.bool false,.bool false,.int .i64 0,.int .i64 0,.int .i64 0,.int .i64 0]:Array Value)=zr):=by unfold Hid;rw[hzr];rfl
  have HZV:Hid (Value.agg #[.bool false,.bool false,.slice none 0 0,.bool false,.bool false,.bool false,.bool false,.bool false,.bool false,.bool false,.bool false,.bool false,.bool false,.bool false,.bool false,.slice none 0 0,.bool false,.bool false,.bool false,.bool false,.int .i64 0,.int .i64 0,.int .i64 0,.int .i64 0]= .agg zr):=by unfold Hid;rw[HZL.out]
  have HZ0:Hid ((Tryz.prog.info? 47).map (·.zero)=some (some (.agg zr))):=by unfold Hid;rw[hzr];exact Tryz.zeroCase
  have HZC:Hid (∀wx,cU wx zr cF):=fun wx=>by rw[hzr];exact jU wx
  obtain⟨W,hW⟩:∃W,W=(w.alloc (.cells #[.int .i64 n,.slice a ops.length cap] 119)).alloc (.cells zr 47):=⟨_,rfl⟩
  have hb:Below w.heap.size w W:=by rw[hW];exact ((Below.refl _ _).alloc (Nat.le_refl _) _).alloc (by rw[aB];omega) _
  have hzW:W.heap.size=w.heap.size+2:=by rw[hW,aB,aB]
  obtain⟨r0,r1⟩:=cT w (.cells #[.int .i64 n,.slice a ops.length cap] 119) (.cells zr 47)
  rw[←hW] at r0 r1
  have q0:W.cell? ⟨w.heap.size,0,none⟩=some (.int .i64 n):=by rw[cell_of_row _ _ _ _ _ _ r0];rfl
  have q1:W.cell? ⟨w.heap.size,1,none⟩=some (.slice a ops.length cap):=by rw[cell_of_row _ _ _ _ _ _ r0];rfl
  have HW:Hid (W=(w.alloc (.cells #[.int .i64 n,.slice a ops.length cap] 119)).alloc (.cells zr 47)):=hW
  have HL:Hid (bZ W a cap ops):=h.later hb
  have hzc:(Tryz.prog.info? 47).map (·.size)=some zr.size:=(HZC.out w).info
  have hz1:zr.all (·.oneCell')=true:=(HZC.out w).one
  clear hW h hzr
  go_enter Tryz.func71,Tryz.ntmps71
  go_upto_region 1 with fail
  rw[HZL.out,←HW.out]
  clear HW
  go_wp2_with fail
  refine (tQ n W).mono ?_
  rintro e w2 ⟨rfl,hw⟩
  subst hw
  have HT2:Hid (0≤n∧n<32):=t2
  have d2:kM n=true:=decide_eq_true t2
  clear t2
  go_wp2_with fail
  refine (kS a cap ops w2 HL.out.2.1 HL.out.1).mono ?_
  rintro e w3 ⟨rfl,hb3⟩
  have hz3:=hb3.size
  have hbw:Below w.heap.size w w3:=hb.trans (hb3.mono (by omega))
  have r0':w3.heap[w.heap.size]? =some (.cells #[.int .i64 n,.slice a ops.length cap] 119 (0,0)):=by rw[hb3.block _ (by omega)];exact r0
  have r1':w3.heap[w.heap.size+1]? =some (.cells zr 47 (0,0)):=by rw[hb3.block _ (by omega)];exact r1
  have q0':w3.cell? ⟨w.heap.size,0,none⟩=some (.int .i64 n):=by rw[cell_of_row _ _ _ _ _ _ r0'];rfl
  have q1':w3.cell? ⟨w.heap.size,1,none⟩=some (.slice a ops.length cap):=by rw[cell_of_row _ _ _ _ _ _ r0'];rfl
  have HL3:Hid (bZ w3 a cap ops):=HL.out.later hb3
  have HB3':Hid (Below w.heap.size w w3):=hbw
  clear hb3 r0 r1 q0 q1 HL hb
  have HE:Hid (bK n ops=({ cF with begun:=true,ops:=ops },bU { cF with begun:=true,ops:=ops } n,0)):=J4 HT2.out t3
  have hl4:ops.length≤4:=by
    have:=t3
    unfold bQ at this
    simp at this
    omega
  go_wp2_with fail
  refine (gL a cap ops w3 HL3.out (by omega)).mono ?_
  rintro e w4 ⟨v,rfl,hown,_,hb4⟩
  obtain⟨ao,co,rfl,_,_⟩:=bG hown
  have hz4:=hb4.size
  obtain⟨al,hal⟩:∃al,al=(aD 24 (bcv (.slice ao ops.length co))).toList:=⟨_,rfl⟩
  have HAL:Hid ((#[.bool true,.bool false,.slice ao ops.length co,.bool false,.bool false,.bool false,.bool false,.bool false,.bool false,.bool false,.bool false,.bool false,.bool false,.bool false,.bool false,.slice none 0 0,.bool false,.bool false,.bool false,.bool false,.int .i64 0,.int .i64 0,.int .i64 0,.int .i64 0]:Array Value)=al.toArray):=by unfold Hid;rw[hal,Array.toArray_toList];exact (J6 _).symm
  obtain⟨X,hX⟩:∃X,X=(w4.alloc (.cells zr 47)).setRow w4.heap.size al.toArray:=⟨_,rfl⟩
  have rowZ:(w4.alloc (.cells zr 47)).heap[w4.heap.size]? =some (.cells zr 47 (0,0)):=aJ _ _
  have hX1:Below w4.heap.size w4 X:=by rw[hX];exact aU ((Below.refl _ _).alloc (Nat.le_refl _) _) (Nat.le_refl _) _
  have hbX:Below w3.heap.size w3 X:=hb4.trans (hX1.mono hz4)
  have hzX:X.heap.size=w4.heap.size+1:=by rw[hX,size_setRow];exact aB _ _
  have hIO:IsO (· <w4.heap.size) w4 (.slice ao ops.length co) ops:=(IsO.of_owns hown (by omega)).mono (fun b hb _=>hb)
  have hV4:cU w4 al.toArray { cF with begun:=true,ops:=ops }:=by rw[hal,Array.toArray_toList];exact ED hIO
  have hBX:bE w4.heap.size X al.toArray { cF with begun:=true,ops:=ops }:=⟨by rw[hX];exact aH rowZ,hV4.later hX1⟩
  have zal2:=hBX.case.info
  have hal1:=hBX.case.one
  have hzz:zr.size=al.toArray.size:=by rw[hBX.case.size];exact (HZC.out w).size
  have HAV:Hid (Value.agg #[.bool true,.bool false,.slice ao ops.length co,.bool false,.bool false,.bool false,.bool false,.bool false,.bool false,.bool false,.bool false,.bool false,.bool false,.bool false,.bool false,.slice none 0 0,.bool false,.bool false,.bool false,.bool false,.int .i64 0,.int .i64 0,.int .i64 0,.int .i64 0]= .agg al.toArray):=by unfold Hid;rw[HAL.out]
  have HX:Hid (X=(w4.alloc (.cells zr 47)).setRow w4.heap.size al.toArray):=hX
  have q0X:X.cell? ⟨w.heap.size,0,none⟩=some (.int .i64 n):=by rw[hbX.cell (p:=⟨w.heap.size,0,none⟩) (show w.heap.size<w3.heap.size by omega)];exact q0'
  have r1X:X.heap[w.heap.size+1]? =some (.cells zr 47 (0,0)):=by rw[hbX.block _ (by omega)];exact r1'
  have hXw:Below w.heap.size w X:=HB3'.out.trans (hbX.mono (by omega))
  have HALA:Hid (al.toArray=aD 24 (bcv (.slice ao ops.length co))):=by unfold Hid;rw[hal]
  have HIO:Hid (IsO (fun b=>w.heap.size+2≤b) X (.slice ao ops.length co) ops):=((IsO.of_owns hown (by omega)).mono (fun b _ hb=>by have:=hb.1;show w.heap.size+2≤b;omega)).later (bN.of_size hX1)
  clear hX hal
  go_wp2_with (first
    | (refine cP rfl 47 rfl zr HZ0.out ?_)
    | (refine wpList_store_row rfl 47 _ _ rfl w4.heap.size al.toArray rfl HAV.out 47 _ rowZ zal2 hzz hal1 ?_)
    | fail)
  rw[←HX.out]
  clear HX
  have zal:=hBX.case.len
  rw[show al.toArray.toList=al from rfl] at zal
  have HAg:Hid (∀wx,wx=X.drew→Calls Tryz.prog 77 #[.agg al.toArray,.int .i64 n] wx fun e w'=>∃x,e= .returned x∧Hid (aQ X.heap.size w' x (bU { cF with begun:=true,ops:=ops } n))∧Hid (Below X.heap.size X w')∧
      (w'.heap[w4.heap.size]? =some (.cells al.toArray 47 (0,0))∧w'.cell? ⟨w.heap.size,0,none⟩=some (.int .i64 n))∧Hid (w'.heap[w.heap.size+1]? =some (.cells zr 47 (0,0)))):=by
    rintro wx rfl
    refine (xN al.toArray { cF with begun:=true,ops:=ops } n _ (hBX.later (Below.drew (Below.refl _ _))).case).mono ?_
    rintro e w5 ⟨x,rfl,hfx,hb5⟩
    have hb5':Below X.heap.size X w5:=(Below.drew (Below.refl _ _)).trans hb5
    exact⟨x,rfl,hfx,hb5',⟨(hBX.later hb5').row,by rw[hb5'.cell (p:=⟨w.heap.size,0,none⟩) (show w.heap.size<X.heap.size by omega)];exact q0X⟩,by unfold Hid;rw[hb5'.block _ (by omega)];exact r1X⟩
  have HBX:=hI9 hBX
  have rX:=hBX.row
  have HS5:Hid (∀w5:World,(w5.heap[w4.heap.size]? =some (.cells al.toArray 47 (0,0))∧w5.cell? ⟨w.heap.size,0,none⟩=some (.int .i64 n))→((w5.setRow (w.heap.size+1) al.toArray).heap[w4.heap.size]? =some (.cells al.toArray 47 (0,0))∧(w5.setRow (w.heap.size+1) al.toArray).cell? ⟨w.heap.size,0,none⟩=some (.int .i64 n))):=by
    intro w5 hw5
    refine⟨by rw[bO _ _ (by omega)];exact hw5.1,?_⟩
    rw[World.cell?_of_block (bO w5 (k:=w.heap.size) al.toArray (by omega))]
    exact hw5.2
  clear hown hIO hV4 hBX
  refine wp_region_held_drew (S:=fun w'=>w'.heap[w4.heap.size]? =some (.cells al.toArray 47 (0,0))∧w'.cell? ⟨w.heap.size,0,none⟩=some (.int .i64 n)) (by kernel_rfl) ⟨rX,q0X⟩ ?_
  intro hH
  refine tkH 0 20 (.agg al.toArray) hH ?_ (hy:=yieldsIf_load_mid (by rfl) _ _ rfl _ _ rfl al _ (fun _ h=>dJ h.1) Tryz.underlying47 rfl zal)
  simp only[Act.put,sA,sZ,sS]
  refine tkH 1 21 (.agg al.toArray) hH ?_ (hy:=yieldsIf_load_mid (by rfl) _ _ rfl _ _ rfl al _ (fun _ h=>dJ h.1) Tryz.underlying47 rfl zal)
  simp only[Act.put,sA,sZ,sS]
  refine tkH 2 22 (.pointer (some ⟨w.heap.size,0,none⟩)) hH ?_
  simp only[Act.put,sA,sZ,sS]
  refine tkH 3 23 (.int .i64 n) hH ?_ (hy:=Or.inl ⟨by rfl,fun _ hS=>by obtain⟨hS1,hS2⟩:=hS;go_simp⟩)
  simp only[Act.put,sA,sZ,sS]
  refine wpAnyH_ready (rs:=[4]) (by kernel_rfl) (by simp) ?_
  refine AllReadyH.cons rfl (fun K hK=>?_) AllReadyH.nil
  go_simp
  refine (HAg.out _ rfl).mono ?_
  rintro e w3 ⟨x,rfl,HFx,HB3,hS3,hR3⟩
  go_wp2_with fail
  refine hK.out _ _ (hS3) (fun hH2=>?_)
  clear hK K hH
  have hH:=hH2
  clear hH2
  refine wpAnyH_ready (rs:=[5]) (by kernel_rfl) (by simp) ?_
  refine AllReadyH.cons rfl (fun K hK=>?_) AllReadyH.nil
  rw[if_pos (by rfl)]
  refine wp_store_row 47 _ _ rfl (w.heap.size+1) al.toArray rfl rfl 47 _ hR3.out zal2 hzz hal1 ?_
  refine hK.out _ _ (HS5.out w3 hS3) (fun hH2=>?_)
  clear hK K hH
  have hH:=hH2
  clear hH2
  refine tkH 6 3 x hH ?_
  simp only[Act.put,sA,sZ,sS]
  refine tkH 7 4 (.int .i64 0) hH ?_
  simp only[Act.put,sA,sZ,sS]
  refine wpAnyH_done (by kernel_rfl) ?_ _
  have hbY:Below w.heap.size w (w3.setRow (w.heap.size+1) al.toArray):=aU (hXw.trans (HB3.out.mono (by omega))) (by omega) _
  have HCV:Hid (∃nv,al.toArray=aD 24 nv∧cA (fun b=>w.heap.size≤b) (w3.setRow (w.heap.size+1) al.toArray) nv { cF with begun:=true,ops:=ops }):=by
    have h1:=HIO.out.later (bN.of_size HB3.out)
    have h2:=h1.later (w':=w3.setRow (w.heap.size+1) al.toArray) (fun b _ hb=>bO _ _ (by omega))
    exact⟨_,HALA.out,tV (h2.mono (fun b _ (hb:w.heap.size+2≤b)=>by show w.heap.size≤b;omega))⟩
  have HFY:Hid (aQ w.heap.size (w3.setRow (w.heap.size+1) al.toArray) x (bU { cF with begun:=true,ops:=ops } n)):=
    (HFx.out.same (w':=w3.setRow (w.heap.size+1) al.toArray) (fun b _ hb=>bO _ _ (by omega))).mono (by omega)
  go_wp2
  refine bodyPost_ret (v:= .tuple #[.agg al.toArray,x,.int .i64 0]) (fT Tryz.results71 _ _ (w.heap.size+1) 47 al.toArray (0,0) _ rfl (aH hR3.out) Tryz.underlying47 rfl zal2 _ _ rfl rfl) rfl ⟨_,_,by rw[HE.out],by rw[HE.out];exact HCV.out,by rw[HE.out];exact HFY.out,hbY⟩
theorem M4 (n:Int) (a:Option Addr) (cap:Nat) (ops:List OpL) (w:World) (h:bZ w a cap ops):
  Calls Tryz.prog 71 #[.agg #[.int .i64 n,.slice a ops.length cap]] w fun e w'=>∃gr x,e= .returned (.tuple #[.agg gr,x,.int .i64 (bK n ops).2.2])∧cU w' gr (bK n ops).1∧aQ w.heap.size w' x (bK n ops).2.1∧Below w.heap.size w w':=by
 by_cases t2:0≤n∧n<32
 ·cases t3:bQ ops
  ·exact MN n a cap ops w h t2 t3
  ·refine (DR n a cap ops w h t2 t3).mono ?_
   rintro e w' ⟨gr,x,rfl,⟨nv,e1,hc⟩,h2,h3⟩
   exact⟨gr,x,rfl,⟨nv,e1,hc.any⟩,h2,h3⟩
 ·exact MM n a cap ops w h t2
theorem NE {b:Nat} {w:World} {gr:Array Value} {c:aF} (h:bE b w gr c) (h4:c.ops.length≤4):bP w (some ⟨b,20,none⟩) 4 ((List.range c.ops.length).map c.vals):=by
 refine⟨Or.inr ⟨b,20,rfl,h.lt,fun i hi=>?_⟩,by simp;unfold maxLen;omega,by simpa using h4,fun e=>by cases e⟩
 have hi':i<c.ops.length:=by simpa using hi
 rw[h.vals (by omega)]
 simp[List.getD,hi']
theorem IC {c:aF} {k:Nat} (hk:k<c.ops.length) (h:c.has k=false):c.hasAll=false:=by
 cases e:c.hasAll
 ·rfl
 ·rw[mU.1 e k hk] at h;cases h
theorem BO (gr:Array Value) (c:aF) (w:World) (h:cU w gr c):
  Calls Tryz.prog 31 #[.agg gr] w fun e w'=>∃v,e= .returned (.tuple #[v,.bool (cN c).2])∧IsI (fun b=>w.heap.size≤b) w' v (cN c).1∧Below w.heap.size w w':=by
 obtain⟨W,hW⟩:∃W,W=w.alloc (.cells gr 47):=⟨_,rfl⟩
 have hb:Below w.heap.size w W:=by rw[hW];exact (Below.refl _ _).alloc (Nat.le_refl _) _
 have hzW:W.heap.size=w.heap.size+1:=by rw[hW];exact aB _ _
 have hB:bE w.heap.size W gr c:=by rw[hW];exact bE.new h
 have rB:=hB.row
 have tB:=hB.case.row
 have HB:=hI9 hB
 have HW:=hI9 hW
 clear hW hB h
 go_enter Tryz.func31,Tryz.ntmps31
 go_upto_region 1 with fail
 rw[←HW.out]
 clear HW
 go_wp2_with (first
  | ((with_reducible apply cJ rB);(· rfl);(· exact tB);(· rfl);simp only[Act.put,sA,sZ,sS])
  | fail)
 refine (IW gr c W HB.out.case).mono ?_
 rintro e w1 ⟨rfl,hb1⟩
 have HbW:Hid (Below w.heap.size w w1):=hb.trans (hb1.mono hb.size)
 have HB1:Hid (bE w.heap.size w1 gr c):=HB.out.later hb1
 have hz1:=hb1.size
 clear rB hb1 HB hb
 cases t1:dK c
 ·have HE:Hid (cN c=([],false)):=sY (Or.inl t1)
  go_wp2
  go_ret2
  exact⟨.slice none 0 0,by rw[HE.out];rfl,by rw[HE.out];exact IsI.nil _ _,HbW.out⟩
 have q0:=HB1.out.begun
 cases t2:c.begun
 ·have HE:Hid (cN c=([],false)):=sY (Or.inr (Or.inl t2))
  rw[t2] at q0
  go_wp2
  go_ret2
  exact⟨.slice none 0 0,by rw[HE.out];rfl,by rw[HE.out];exact IsI.nil _ _,HbW.out⟩
 rw[t2] at q0
 obtain⟨a2,c2,q2,hs2,hl2⟩:=HB1.out.ops
 have h4:=rQ t2 t1
 have HG:Hid (dK c=true∧c.begun=true):=⟨t1,t2⟩
 have h40:=h4.1
 have h44:=h4.2
 clear t2 h4 hs2
 go_wp2
 go_loopw [16] (fun i wr=>∃k:Nat,k≤c.ops.length∧i= .int .i64 k∧Hid (∀j,j<k→c.has j=true)∧wr=w1) (fun i _=>c.ops.length-(intOf i).toNat)
 case atStart=>exact⟨0,Nat.zero_le _,rfl,fun j hj=>absurd hj (by omega),rfl⟩
 case round=>
  obtain⟨k,hk,rfl,HNo,rfl⟩:=hrel
  by_cases hlt:k<c.ops.length
  ·have hk4:k<4:=by omega
   have eh:=HB1.out.has hk4
   have n1:(0:Int)≤(k:Int)∧(k:Int)<4:=by omega
   cases t3:c.has k
   ·have HE:Hid (cN c=([],false)):=sY (Or.inr (Or.inr (IC hlt t3)))
    rw[t3] at eh
    go_wp2
    go_ret2
    exact⟨.slice none 0 0,by rw[HE.out];rfl,by rw[HE.out];exact IsI.nil _ _,HbW.out⟩
   ·have HN2:Hid (∀j,j<k+1→c.has j=true):=fun j hj=>by
     by_cases e:j=k
     ·rw[e];exact t3
     ·exact HNo.out j (by omega)
    rw[t3] at eh
    go_wp2
    go_roundw
    case rel=>exact⟨k+1,by omega,by go_num,HN2,trivial⟩
    case measure=>simp[intOf];omega
  ·have HA:Hid (c.hasAll=true):=mU.2 (fun i hi=>HNo.out i (by omega))
   have HE:Hid (cN c=((List.range c.ops.length).map c.vals,true)):=FW HG.out.2 HG.out.1 HA.out
   have hsl:=NE HB1.out h44
   have m1:(0:Int)≤(c.ops.length:Int)∧(c.ops.length:Int)≤4:=by omega
   have hcl:=c7 (some ⟨w.heap.size,20,none⟩) 4 ((List.range c.ops.length).map c.vals) wr hsl (by simp;omega)
   rw[List.length_map,List.length_range] at hcl
   have HCL:Hid (Calls Tryz.prog 55 #[.slice (some ⟨w.heap.size,20,none⟩) c.ops.length 4] wr fun e w'=>∃v,e= .returned v∧nV wr w' v ((List.range c.ops.length).map c.vals)):=hcl
   clear hsl hcl
   go_wp2_with fail
   refine HCL.out.mono ?_
   rintro e w5 ⟨v,rfl,hown,_,hb5⟩
   have HV:Hid (IsI (fun b=>w.heap.size≤b) w5 v ((List.range c.ops.length).map c.vals)):=(IsI.of_owns hown (by simp;omega)).mono (fun b _ hb=>by have:=hb.1;show w.heap.size≤b;omega)
   have HB5:Hid (Below w.heap.size w w5):=HbW.out.trans (hb5.mono (by omega))
   clear hown hb5
   go_wp2
   go_ret2
   exact⟨v,by rw[HE.out];rfl,by rw[HE.out];exact HV.out,HB5.out⟩
def fA (c:aF) (id:Int) (f:aC):Int:=if dF c id=false∨f.id≠id then 2 else if aP f≠0 then aP f else if f.kind=1∨f.kind=3 then 3 else 0
theorem xG (c:aF) (id:Int) (f:aC):(dK c=false∨c.begun=false∨f.id≠id∨dO c.deps id=true)↔(dF c id=false∨f.id≠id):=by
 unfold dF
 cases dK c<;>cases c.begun<;>cases dO c.deps id<;>simp
theorem CB {c:aF} {id:Int} {f:aC} (h:fA c id f≠0):aN c id f=(c,[],fA c id f):=by
 unfold fA at *
 unfold aN
 by_cases h1:dF c id=false∨f.id≠id
 ·rw[if_pos ((xG c id f).2 h1),if_pos h1]
 ·rw[if_neg (fun e=>h1 ((xG c id f).1 e)),if_neg h1]
  rw[if_neg h1] at h
  by_cases h2:aP f≠0
  ·rw[if_pos h2,if_pos h2]
  ·rw[if_neg h2,if_neg h2]
   rw[if_neg h2] at h
   by_cases h3:f.kind=1∨f.kind=3
   ·rw[if_pos h3,if_pos h3]
   ·rw[if_neg h3] at h
    exact absurd rfl h
theorem qE {c:aF} {id:Int} {f:aC} (h:fA c id f=0):dF c id=true∧f.id=id∧aP f=0∧f.kind≠1∧f.kind≠3:=by
 unfold fA at h
 by_cases h1:dF c id=false∨f.id≠id
 ·rw[if_pos h1] at h;exact absurd h (show (2:Int)≠0 by decide)
 ·rw[if_neg h1] at h
  by_cases h2:aP f≠0
  ·rw[if_pos h2] at h;exact absurd h h2
  ·rw[if_neg h2] at h
   by_cases h3:f.kind=1∨f.kind=3
   ·rw[if_pos h3] at h;exact absurd h (show (3:Int)≠0 by decide)
   ·refine⟨?_,?_,?_,fun e=>h3 (Or.inl e),fun e=>h3 (Or.inr e)⟩
    ·cases e:dF c id
     ·exact absurd (Or.inl e) h1
     ·rfl
    ·by_cases e:f.id=id
     ·exact e
     ·exact absurd (Or.inr e) h1
    ·by_cases e:aP f=0
     ·exact e
     ·exact absurd e h2
theorem pD (gr:Array Value) (c:aF) (id:Int) (v:Value) (f:aC) (w:World) (h:cU w gr c) (hf:bS w v f):
  Calls Tryz.prog 116 #[.agg gr,.int .i64 id,v] w fun e w'=>e= .returned (.int .i64 (fA c id f))∧Below w.heap.size w w':=by
 have HFV:Hid (∀x,Below w.heap.size w x→bS x v f):=fun x hx=>hf.later hx
 obtain⟨a3,c3,a4,c4,a5,c5,a6,c6,rfl,_⟩:=hf
 obtain⟨W,hW⟩:∃W,W=(w.alloc (.cells gr 47)).alloc (.cells #[.int .i64 f.kind,.int .i64 f.node,.int .i64 f.id,.slice a3 f.ops.length c3,.slice a4 f.deps.length c4,.slice a5 f.ats.length c5,.slice a6 f.vals.length c6] 123):=⟨_,rfl⟩
 have hb:Below w.heap.size w W:=by rw[hW];exact ((Below.refl _ _).alloc (Nat.le_refl _) _).alloc (by rw[aB];omega) _
 have hzW:W.heap.size=w.heap.size+2:=by rw[hW,aB,aB]
 have hB:bE w.heap.size W gr c:=by rw[hW];exact (bE.new h).later ((Below.refl _ _).alloc (Nat.le_refl _) _)
 have r1:W.heap[w.heap.size+1]? =some (.cells #[.int .i64 f.kind,.int .i64 f.node,.int .i64 f.id,.slice a3 f.ops.length c3,.slice a4 f.deps.length c4,.slice a5 f.ats.length c5,.slice a6 f.vals.length c6] 123 (0,0)):=by rw[hW];exact (cT w _ _).2
 have rB:=hB.row
 have tB:=hB.case.row
 have HB:=hI9 hB
 have HW:Hid (W=(w.alloc (.cells gr 47)).alloc (.cells #[.int .i64 f.kind,.int .i64 f.node,.int .i64 f.id,.slice a3 f.ops.length c3,.slice a4 f.deps.length c4,.slice a5 f.ats.length c5,.slice a6 f.vals.length c6] 123)):=hW
 clear hW hB h
 go_enter Tryz.func116,Tryz.ntmps116
 go_upto_region 1 with fail
 rw[←HW.out]
 clear HW
 go_wp2_with (first
  | ((with_reducible apply cJ rB);(· rfl);(· exact tB);(· rfl);simp only[Act.put,sA,sZ,sS])
  | fail)
 refine (wK gr c id W HB.out.case).mono ?_
 rintro e w1 ⟨rfl,hb1⟩
 have hbw:Below w.heap.size w w1:=hb.trans (hb1.mono hb.size)
 have HbW:=hI9 hbw
 have hz1:=hb1.size
 have r1':w1.heap[w.heap.size+1]? =some (.cells #[.int .i64 f.kind,.int .i64 f.node,.int .i64 f.id,.slice a3 f.ops.length c3,.slice a4 f.deps.length c4,.slice a5 f.ats.length c5,.slice a6 f.vals.length c6] 123 (0,0)):=by rw[hb1.block _ (by omega)];exact r1
 have q2:w1.cell? ⟨w.heap.size+1,2,none⟩=some (.int .i64 f.id):=by rw[cell_of_row _ _ _ _ _ _ r1'];rfl
 clear rB hb1 HB hb r1
 cases t1:dF c id
 ·have HE:Hid (fA c id f=2):=by unfold Hid fA;rw[if_pos (Or.inl t1)]
  go_wp2
  go_ret
  exact⟨cV HE.out.symm,HbW.out⟩
 by_cases t2:f.id=id
 rotate_left
 ·have HE:Hid (fA c id f=2):=by unfold Hid fA;rw[if_pos (Or.inr t2)]
  have d2:(f.id !=id)=true:=by simpa using t2
  clear t2
  go_wp2
  go_ret
  exact⟨cV HE.out.symm,HbW.out⟩
 have HE:Hid (fA c id f=if aP f≠0 then aP f else if f.kind=1∨f.kind=3 then 3 else 0):=by
  unfold Hid fA
  rw[if_neg]
  rintro (e | e)
  ·rw[t1] at e;cases e
  ·exact e t2
 have d2:(f.id !=id)=false:=by simpa using t2
 clear t2
 go_wp2_with (first
  | ((with_reducible apply cJ r1');(· rfl);(· exact eI);(· rfl);simp only[Act.put,sA,sZ,sS])
  | fail)
 refine (pJ _ f w1 (HFV.out w1 hbw)).mono ?_
 rintro e w2 ⟨rfl,hb2⟩
 have HB2:Hid (Below w.heap.size w w2):=HbW.out.trans (hb2.mono (by omega))
 have r2:w2.heap[w.heap.size+1]? =some (.cells #[.int .i64 f.kind,.int .i64 f.node,.int .i64 f.id,.slice a3 f.ops.length c3,.slice a4 f.deps.length c4,.slice a5 f.ats.length c5,.slice a6 f.vals.length c6] 123 (0,0)):=by rw[hb2.block _ (by omega)];exact r1'
 have q0:w2.cell? ⟨w.heap.size+1,0,none⟩=some (.int .i64 f.kind):=by rw[cell_of_row _ _ _ _ _ _ r2];rfl
 clear hb2 r1' hbw q2
 by_cases t3:aP f=0
 rotate_left
 ·have HE2:Hid (fA c id f=aP f):=by unfold Hid;rw[HE.out,if_pos t3]
  have d3:(aP f !=0)=true:=by simpa using t3
  clear t3
  go_wp2
  go_ret
  exact⟨cV HE2.out.symm,HB2.out⟩
 have HE2:Hid (fA c id f=if f.kind=1∨f.kind=3 then 3 else 0):=by unfold Hid;rw[HE.out,if_neg (by simpa using t3)]
 have d3:(aP f !=0)=false:=by simpa using t3
 clear t3
 by_cases k1:f.kind=1
 ·have HE3:Hid (fA c id f=3):=by unfold Hid;rw[HE2.out,if_pos (Or.inl k1)]
  have d4:(f.kind == 1)=true:=by simpa using k1
  clear k1
  go_wp2
  go_ret
  exact⟨cV HE3.out.symm,HB2.out⟩
 have d4:(f.kind == 1)=false:=by simpa using k1
 by_cases k3:f.kind=3
 ·have HE3:Hid (fA c id f=3):=by unfold Hid;rw[HE2.out,if_pos (Or.inr k3)]
  have d5:(f.kind == 3)=true:=by simpa using k3
  clear k1 k3
  go_wp2
  go_ret
  exact⟨cV HE3.out.symm,HB2.out⟩
 have d5:(f.kind == 3)=false:=by simpa using k3
 have HE3:Hid (fA c id f=0):=by
  unfold Hid
  rw[HE2.out,if_neg]
  rintro (e | e)
  ·exact k1 e
  ·exact k3 e
 clear k1 k3
 go_wp2
 go_ret
 exact⟨cV HE3.out.symm,HB2.out⟩
structure cQ (lo B:Nat) (w:World) (nv:Nat→Value) (c:aF):Prop where
 row:w.heap[B]? =some (.cells (aD 24 nv) 47 (0,0))
 case:cA (lo≤·) w nv c
 lt:B<lo
theorem cQ.box {lo B:Nat} {w:World} {nv:Nat→Value} {c:aF} (h:cQ lo B w nv c):bE B w (aD 24 nv) c:=⟨h.row,⟨nv,rfl,h.case.any⟩⟩
theorem cQ.blk {lo B:Nat} {w:World} {nv:Nat→Value} {c:aF} (h:cQ lo B w nv c):bI 24 w B nv:=⟨_,h.row⟩
theorem cQ.later {lo B:Nat} {w w':World} {nv:Nat→Value} {c:aF} (h:cQ lo B w nv c) (hb:Below w.heap.size w w'):cQ lo B w' nv c:=
 ⟨by rw[hb.block B h.blk.lt];exact h.row,h.case.later (bN.of_size hb),h.lt⟩
theorem cQ.drew {lo B:Nat} {w:World} {nv:Nat→Value} {c:aF} (h:cQ lo B w nv c):cQ lo B w.drew nv c:=h.later (Below.drew (Below.refl _ _))
def bJ (nv:Nat→Value) (m:Nat) (v:Value) (i:Nat):Value:=if i=m then v else nv i
theorem cQ.put {lo B:Nat} {w:World} {nv:Nat→Value} {c c':aF} (h:cQ lo B w nv c) (m:Nat) (v:Value) (hc:cA (lo≤·) w (bJ nv m v) c'):cQ lo B (w.setCell ⟨B,m,none⟩ v) (bJ nv m v) c':=by
 refine⟨?_,hc.later (fun k _ hk=>Below.heap_setCell _ _ _ _ (show k≠B by have:=h.lt;have:lo≤k:=hk;omega)),h.lt⟩
 rw[heap_setCell_same w B m _ _ _ h.row,eU]
 rfl
theorem cA.putTold {ok:Nat→Prop} {w:World} {nv:Nat→Value} {c:aF} (h:cA ok w nv c) {n:Nat} (hn:n<6) (b:Bool):cA ok w (bJ nv (3+n) (.bool b)) { c with told:=upd c.told n b }:=by
 refine⟨?_,?_,?_,fun i hi=>?_,fun i hi=>?_,?_,fun i hi=>?_,fun i hi=>?_⟩
 ·unfold bJ;rw[if_neg (by omega)];exact h.begun
 ·unfold bJ;rw[if_neg (by omega)];exact h.fixed
 ·unfold bJ;rw[if_neg (by omega)];exact h.ops
 ·unfold bJ
  by_cases e:i=n
  ·subst e;rw[if_pos rfl];show _=Value.bool (upd c.told i b i);rw[aR]
  ·rw[if_neg (by omega)];show _=Value.bool (upd c.told n b i);rw[aM _ _ e];exact h.told i hi
 ·unfold bJ;rw[if_neg (by omega)];exact h.known i hi
 ·unfold bJ;rw[if_neg (by omega)];exact h.deps
 ·unfold bJ;rw[if_neg (by omega)];exact h.has i hi
 ·unfold bJ;rw[if_neg (by omega)];exact h.vals i hi
theorem cA.putKnown {ok:Nat→Prop} {w:World} {nv:Nat→Value} {c:aF} (h:cA ok w nv c) {n:Nat} (hn:n<6) (b:Bool):cA ok w (bJ nv (9+n) (.bool b)) { c with known:=upd c.known n b }:=by
 refine⟨?_,?_,?_,fun i hi=>?_,fun i hi=>?_,?_,fun i hi=>?_,fun i hi=>?_⟩
 ·unfold bJ;rw[if_neg (by omega)];exact h.begun
 ·unfold bJ;rw[if_neg (by omega)];exact h.fixed
 ·unfold bJ;rw[if_neg (by omega)];exact h.ops
 ·unfold bJ;rw[if_neg (by omega)];exact h.told i hi
 ·unfold bJ
  by_cases e:i=n
  ·subst e;rw[if_pos rfl];show _=Value.bool (upd c.known i b i);rw[aR]
  ·rw[if_neg (by omega)];show _=Value.bool (upd c.known n b i);rw[aM _ _ e];exact h.known i hi
 ·unfold bJ;rw[if_neg (by omega)];exact h.deps
 ·unfold bJ;rw[if_neg (by omega)];exact h.has i hi
 ·unfold bJ;rw[if_neg (by omega)];exact h.vals i hi
theorem cA.putHas {ok:Nat→Prop} {w:World} {nv:Nat→Value} {c:aF} (h:cA ok w nv c) {n:Nat} (hn:n<4) (b:Bool):cA ok w (bJ nv (16+n) (.bool b)) { c with has:=upd c.has n b }:=by
 refine⟨?_,?_,?_,fun i hi=>?_,fun i hi=>?_,?_,fun i hi=>?_,fun i hi=>?_⟩
 ·unfold bJ;rw[if_neg (by omega)];exact h.begun
 ·unfold bJ;rw[if_neg (by omega)];exact h.fixed
 ·unfold bJ;rw[if_neg (by omega)];exact h.ops
 ·unfold bJ;rw[if_neg (by omega)];exact h.told i hi
 ·unfold bJ;rw[if_neg (by omega)];exact h.known i hi
 ·unfold bJ;rw[if_neg (by omega)];exact h.deps
 ·unfold bJ
  by_cases e:i=n
  ·subst e;rw[if_pos rfl];show _=Value.bool (upd c.has i b i);rw[aR]
  ·rw[if_neg (by omega)];show _=Value.bool (upd c.has n b i);rw[aM _ _ e];exact h.has i hi
 ·unfold bJ;rw[if_neg (by omega)];exact h.vals i hi
theorem cA.putVal {ok:Nat→Prop} {w:World} {nv:Nat→Value} {c:aF} (h:cA ok w nv c) {n:Nat} (hn:n<4) (z:Int):cA ok w (bJ nv (20+n) (.int .i64 z)) { c with vals:=upd c.vals n z }:=by
 refine⟨?_,?_,?_,fun i hi=>?_,fun i hi=>?_,?_,fun i hi=>?_,fun i hi=>?_⟩
 ·unfold bJ;rw[if_neg (by omega)];exact h.begun
 ·unfold bJ;rw[if_neg (by omega)];exact h.fixed
 ·unfold bJ;rw[if_neg (by omega)];exact h.ops
 ·unfold bJ;rw[if_neg (by omega)];exact h.told i hi
 ·unfold bJ;rw[if_neg (by omega)];exact h.known i hi
 ·unfold bJ;rw[if_neg (by omega)];exact h.deps
 ·unfold bJ;rw[if_neg (by omega)];exact h.has i hi
 ·unfold bJ
  by_cases e:i=n
  ·subst e;rw[if_pos rfl];show _=Value.int .i64 (upd c.vals i z i);rw[aR]
  ·rw[if_neg (by omega)];show _=Value.int .i64 (upd c.vals n z i);rw[aM _ _ e];exact h.vals i hi
theorem cA.putFixed {ok:Nat→Prop} {w:World} {nv:Nat→Value} {c:aF} (h:cA ok w nv c) (b:Bool):cA ok w (bJ nv 1 (.bool b)) { c with fixed:=b }:=by
 refine⟨?_,?_,?_,fun i hi=>?_,fun i hi=>?_,?_,fun i hi=>?_,fun i hi=>?_⟩
 ·unfold bJ;rw[if_neg (by omega)];exact h.begun
 ·rfl
 ·unfold bJ;rw[if_neg (by omega)];exact h.ops
 ·unfold bJ;rw[if_neg (by omega)];exact h.told i hi
 ·unfold bJ;rw[if_neg (by omega)];exact h.known i hi
 ·unfold bJ;rw[if_neg (by omega)];exact h.deps
 ·unfold bJ;rw[if_neg (by omega)];exact h.has i hi
 ·unfold bJ;rw[if_neg (by omega)];exact h.vals i hi
theorem cA.putDeps {ok:Nat→Prop} {w:World} {nv:Nat→Value} {c:aF} (h:cA ok w nv c) {v:Value} {ds:List Int} (hv:IsI ok w v ds):cA ok w (bJ nv 15 v) { c with deps:=ds }:=by
 refine⟨?_,?_,?_,fun i hi=>?_,fun i hi=>?_,?_,fun i hi=>?_,fun i hi=>?_⟩
 ·unfold bJ;rw[if_neg (by omega)];exact h.begun
 ·unfold bJ;rw[if_neg (by omega)];exact h.fixed
 ·unfold bJ;rw[if_neg (by omega)];exact h.ops
 ·unfold bJ;rw[if_neg (by omega)];exact h.told i hi
 ·unfold bJ;rw[if_neg (by omega)];exact h.known i hi
 ·exact hv
 ·unfold bJ;rw[if_neg (by omega)];exact h.has i hi
 ·unfold bJ;rw[if_neg (by omega)];exact h.vals i hi
theorem eH (w:World) (row:Option Nat):w.grownBy w row:=⟨rfl,rfl,rfl,Nat.le_refl _,fun _ _ _=>rfl⟩
theorem b9 {a w w':World} {B:Nat} (h:a.grownBy w (some B)) (hb:Below w.heap.size w w'):a.grownBy w' (some B):=
 ⟨hb.os.trans h.os,hb.tape.trans h.tape,hb.output.trans h.output,by have:=h.size;have:=hb.size;omega,fun k hk hr=>by rw[hb.block k (by have:=h.size;omega)];exact h.block k hk hr⟩
theorem gJ {a w:World} {B:Nat} (h:a.grownBy w (some B)):a.grownBy w.drew (some B):=⟨h.os,h.tape,h.output,h.size,h.block⟩
theorem CZ (lo B:Nat) (nv:Nat→Value) (c:aF) (v:Value) (f:aC) (w:World) (h:cQ lo B w nv c) (hf:bS w v f) (hn:0≤f.node∧f.node<6):
  Calls Tryz.prog 118 #[.pointer (some ⟨B,0,none⟩),v] w fun e w'=>e= .returned (.tuple #[])∧∃nv',cQ lo B w' nv' (if c.fixed then { c with known:=upd c.known f.node.toNat true } else c)∧w.grownBy w' (some B):=by
 obtain⟨d,hd⟩:∃d,d=(if c.fixed then { c with known:=upd c.known f.node.toNat true } else c):=⟨_,rfl⟩
 rw[←hd]
 have HD:=hI9 hd
 clear hd
 obtain⟨a3,c3,a4,c4,a5,c5,a6,c6,rfl,_⟩:=hf
 obtain⟨n,hn6,en⟩:∃n:Nat,n<6∧f.node=n:=⟨f.node.toNat,by omega,by omega⟩
 have HN:Hid (f.node.toNat=n):=by unfold Hid;omega
 obtain⟨W,hW⟩:∃W,W=w.alloc (.cells #[.int .i64 f.kind,.int .i64 f.node,.int .i64 f.id,.slice a3 f.ops.length c3,.slice a4 f.deps.length c4,.slice a5 f.ats.length c5,.slice a6 f.vals.length c6] 123):=⟨_,rfl⟩
 have hb:Below w.heap.size w W:=by rw[hW];exact (Below.refl _ _).alloc (Nat.le_refl _) _
 have hP:cQ lo B W nv c:=h.later hb
 have r1:W.heap[w.heap.size]? =some (.cells #[.int .i64 f.kind,.int .i64 f.node,.int .i64 f.id,.slice a3 f.ops.length c3,.slice a4 f.deps.length c4,.slice a5 f.ats.length c5,.slice a6 f.vals.length c6] 123 (0,0)):=by rw[hW];exact aJ _ _
 have k1:W.cell? ⟨w.heap.size,1,none⟩=some (.int .i64 n):=by rw[cell_of_row _ _ _ _ _ _ r1,←en];rfl
 have q1:=hP.box.fixed
 have q9:=hP.box.known hn6
 have f9:W.frozen? ⟨B,9+n,none⟩=false:=hP.blk.frozen _
 have n1:(0:Int)≤(n:Int)∧(n:Int)<6:=by omega
 have HP:=hI9 hP
 have HW:=hI9 hW
 have HGr:Hid (w.grownBy W (some B)):=b9 (eH _ _) hb
 clear hW hP h r1 en hn
 go_enter Tryz.func118,Tryz.ntmps118
 go_upto_region 1 with fail
 rw[←HW.out]
 clear HW
 cases t0:c.fixed
 ·rw[t0] at q1
  have HE:Hid (d=c):=by unfold Hid;rw[HD.out,t0];rfl
  clear t0
  go_wp2
  go_end0
  exact⟨rfl,nv,by rw[HE.out];exact HP.out,HGr.out⟩
 ·rw[t0] at q1
  have HE:Hid (d={ c with known:=upd c.known n true }):=by unfold Hid;rw[HD.out,t0,HN.out];rfl
  clear t0
  go_wp2
  go_region
  all_goals
   go_wp2
   go_end0
   refine⟨rfl,bJ nv (9+n) (.bool true),?_,?_⟩
   ·rw[HE.out]
    exact HP.out.drew.put (9+n) (.bool true) (HP.out.drew.case.putKnown hn6 true)
   ·exact aS (gJ HGr.out) _ _
theorem qF {P:Program} {t e:TypeId} (ht:P.underlying t=some (.array 2 e)) (he:P.underlying e=some (.int .i64)) (hi:(P.info? e).map (·.size)=some 1) (x0 x1:Int) (w:World):
  (Instr.index t (.agg #[.int .i64 x0,.int .i64 x1]) (.int .i64 0)).run P w= .ok (.int .i64 x0) w∧(Instr.index t (.agg #[.int .i64 x0,.int .i64 x1]) (.int .i64 1)).run P w= .ok (.int .i64 x1) w:=by
 cases hq:P.info? e with
 | none=>simp[hq] at hi
 | some i=>
  have hs:i.size=1:=by simpa [hq] using hi
  constructor<;>simp[Instr.index,run_underlying ht,part,isAgg,run_underlying he,sizeOf,typeInfo,hq,hs,go_sem]
theorem wL (lo B:Nat) (nv:Nat→Value) (c:aF) (w:World) (h:cQ lo B w nv c):
  Calls Tryz.prog 133 #[.pointer (some ⟨B,0,none⟩)] w fun e w'=>e= .returned (.bool (dT c.ops c.told))∧Below w.heap.size w w':=by
 obtain⟨W,hW⟩:∃W,W=w.alloc (.cells #[.int .i64 0,.int .i64 0] 187):=⟨_,rfl⟩
 have hb:Below w.heap.size w W:=by rw[hW];exact (Below.refl _ _).alloc (Nat.le_refl _) _
 have hzW:W.heap.size=w.heap.size+1:=by rw[hW];exact aB _ _
 have hP:cQ lo B W nv c:=h.later hb
 have r0:W.heap[w.heap.size]? =some (.cells #[.int .i64 0,.int .i64 0] 187 (0,0)):=by rw[hW];exact aJ _ _
 have HW:=hI9 hW
 have HP:Hid (∀x,Below w.heap.size w x→cQ lo B x nv c):=fun x hx=>h.later hx
 have rA:=hP.box.rTold
 have zA:=fJ c.told
 obtain⟨A,hA⟩:∃A,A=aL 6 c.told:=⟨_,rfl⟩
 rw[←hA] at rA zA
 have HA:=hI9 hA
 have HR0:=hI9 r0
 have HB0:=hI9 hb
 have HM:=LA c.ops c.told
 have HM:Hid (dT c.ops c.told=(!(decide (f7 c.told 0 6<2) && aZ c.ops 0) && !(decide (f7 c.told 1 6<2) && aZ c.ops 1))):=HM
 clear hW h hA hP r0 hb
 go_enter Tryz.func133,Tryz.ntmps133
 go_upto_region 2 with fail
 rw[←HW.out]
 clear HW
 go_wp2_with (first
  | ((with_reducible apply dN rA);(· rfl);(· exact zA);(· rfl);simp only[Act.put,sA,sZ,sS])
  | fail)
 go_loopw [12] (fun i wr=>∃(k:Nat) (x0 x1:Int),k≤6∧i= .int .i64 k∧Hid (((f7 c.told 0 k:Nat):Int)=x0)∧Hid (((f7 c.told 1 k:Nat):Int)=x1)∧Hid (wr.heap[w.heap.size]? =some (.cells #[.int .i64 x0,.int .i64 x1] 187 (0,0)))∧Hid (Below w.heap.size w wr)) (fun i _=>6-(intOf i).toNat)
 case atStart=>exact⟨0,0,0,by omega,rfl,rfl,rfl,HR0,HB0⟩
 case round=>
  obtain⟨k,x0,x1,hk,rfl,Hx0,Hx1,HR,HBw⟩:=hrel
  have hsz:=HBw.out.size
  have bx0:0≤x0∧x0≤6:=by have:=Hx0.out;have:=xH c.told 0 k;omega
  have bx1:0≤x1∧x1≤6:=by have:=Hx1.out;have:=xH c.told 1 k;omega
  by_cases hlt:k<6
  ·have hix:=fun wx=>iK Tryz.underlying43 Tryz.underlying4 Tryz.infoBool c.told hlt wx
   rw[←HA.out] at hix
   have e0:wr.cell? ⟨w.heap.size,0,none⟩=some (.int .i64 x0):=by rw[cell_of_row _ _ _ _ _ _ HR.out];rfl
   have e1:wr.cell? ⟨w.heap.size,1,none⟩=some (.int .i64 x1):=by rw[cell_of_row _ _ _ _ _ _ HR.out];rfl
   have f0:wr.frozen? ⟨w.heap.size,0,none⟩=false:=frozen_of_row _ _ _ _ _ HR.out
   have f1:wr.frozen? ⟨w.heap.size,1,none⟩=false:=frozen_of_row _ _ _ _ _ HR.out
   have w0:IntKind.i64.wrap (x0+1)=x0+1:=fQ _ (by omega) (by omega)
   have w1:IntKind.i64.wrap (x1+1)=x1+1:=fQ _ (by omega) (by omega)
   have hkk:(k:Int)<6:=by omega
   cases tt:c.told k
   ·rw[tt] at hix
    have HC:Hid (f7 c.told 0 (k+1)=f7 c.told 0 k):=by unfold Hid;simp[f7,tt]
    have HC':Hid (f7 c.told 1 (k+1)=f7 c.told 1 k):=by unfold Hid;simp[f7,tt]
    go_wp2
    go_roundw
    case rel=>exact⟨k+1,x0,x1,by omega,by go_num,by rw[HC.out];exact Hx0,by rw[HC'.out];exact Hx1,HR,HBw⟩
    case measure=>simp[intOf];omega
   ·rw[tt] at hix
    by_cases h3:k<3
    ·have HO:Hid (ofL (k:Int)=0):=by unfold Hid ofL;rw[if_pos (by omega)]
     have hO:ofL (k:Int)=0:=HO.out
     have HC:Hid (f7 c.told 0 (k+1)=f7 c.told 0 k+1):=by unfold Hid;simp[f7,tt,HO.out]
     have HC':Hid (f7 c.told 1 (k+1)=f7 c.told 1 k):=by unfold Hid;simp[f7,tt,HO.out]
     go_wp2_with (go_at_call 122;refine (iS _ _).mono ?_;rintro e w' ⟨rfl,rfl⟩)
     go_roundw
     case rel=>
      refine⟨k+1,x0+1,x1,by omega,by go_num,?_,?_,?_,(Below.setCell HBw.out (Nat.le_refl _) _)⟩
      ·rw[HC.out];unfold Hid;have:=Hx0.out;omega
      ·rw[HC'.out];exact Hx1.out
      ·rw[heap_setCell_same _ _ _ _ _ _ HR.out];rfl
     case measure=>simp[intOf];omega
    ·have HO:Hid (ofL (k:Int)=1):=by unfold Hid ofL;rw[if_neg (by omega)]
     have hO:ofL (k:Int)=1:=HO.out
     have HC:Hid (f7 c.told 1 (k+1)=f7 c.told 1 k+1):=by unfold Hid;simp[f7,tt,HO.out]
     have HC':Hid (f7 c.told 0 (k+1)=f7 c.told 0 k):=by unfold Hid;simp[f7,tt,HO.out]
     go_wp2_with (go_at_call 122;refine (iS _ _).mono ?_;rintro e w' ⟨rfl,rfl⟩)
     go_roundw
     case rel=>
      refine⟨k+1,x0,x1+1,by omega,by go_num,?_,?_,?_,(Below.setCell HBw.out (Nat.le_refl _) _)⟩
      ·rw[HC'.out];exact Hx0.out
      ·rw[HC.out];unfold Hid;have:=Hx1.out;omega
      ·rw[heap_setCell_same _ _ _ _ _ _ HR.out];rfl
     case measure=>simp[intOf];omega
  ·have hk6:k=6:=by omega
   subst hk6
   have HPw:Hid (cQ lo B wr nv c):=HP.out wr HBw.out
   obtain⟨a2,c2,q2,hs2,hl2⟩:=HPw.out.box.ops
   have e0:wr.cell? ⟨w.heap.size,0,none⟩=some (.int .i64 x0):=by rw[cell_of_row _ _ _ _ _ _ HR.out];rfl
   have e1:wr.cell? ⟨w.heap.size,1,none⟩=some (.int .i64 x1):=by rw[cell_of_row _ _ _ _ _ _ HR.out];rfl
   have HM2:Hid (dT c.ops c.told=(!(decide (x0<2) && aZ c.ops 0) && !(decide (x1<2) && aZ c.ops 1))):=by
    unfold Hid
    rw[HM.out,←Hx0.out,←Hx1.out]
    simp only[show ∀n:Nat,decide (n<2)=decide ((n:Int)<2) from fun n=>by rw[decide_eq_decide];omega]
   clear HM
   have ix0:=fun wx=>(qF Tryz.underlying187 Tryz.underlying3 Tryz.infoInt1 x0 x1 wx).1
   have ix1:=fun wx=>(qF Tryz.underlying187 Tryz.underlying3 Tryz.infoInt1 x0 x1 wx).2
   by_cases d0:x0<2
   ·have D0:Hid (decide (x0<2)=true):=decide_eq_true d0
    go_wp2_with fail
    refine wp_loop_rounds 3 ?_;rw[rounds_succ]
    go_wp2_with fail
    refine (fG a2 c2 c.ops 0 wr hs2.2.1 hs2.1).mono ?_
    rintro e w5 ⟨rfl,hb5⟩
    have HB5:Hid (Below w.heap.size w w5):=HBw.out.trans (hb5.mono hsz)
    have q5:w5.cell? ⟨B,2,none⟩=some (.slice a2 c.ops.length c2):=by rw[hb5.cell (p:=⟨B,2,none⟩) HPw.out.blk.lt];exact q2
    have hs5:=hs2.later hb5
    have hz5:=hb5.size
    clear hb5 q2
    cases u0:aZ c.ops 0
    ·by_cases d1:x1<2
     ·go_wp2_with fail
      rw[rounds_succ]
      go_wp2_with fail
      refine (fG a2 c2 c.ops 1 w5 hs5.2.1 hs5.1).mono ?_
      rintro e w6 ⟨rfl,hb6⟩
      have HB6:Hid (Below w.heap.size w w6):=HB5.out.trans (hb6.mono (by omega))
      clear hb6
      cases u1:aZ c.ops 1
      ·have HE:Hid (dT c.ops c.told=true):=by unfold Hid;rw[HM2.out,u0,u1];simp
       go_wp2_with fail
       rw[rounds_succ]
       go_wp2
       go_ret
       exact⟨aI HE.out.symm,HB6.out⟩
      ·have HE:Hid (dT c.ops c.told=false):=by unfold Hid;rw[HM2.out,u0,u1,decide_eq_true d1];simp
       go_wp2
       go_ret
       exact⟨aI HE.out.symm,HB6.out⟩
     ·have HE:Hid (dT c.ops c.told=true):=by unfold Hid;rw[HM2.out,u0,decide_eq_false d1];simp
      go_wp2_with fail
      rw[rounds_succ]
      go_wp2_with fail
      rw[rounds_succ]
      go_wp2
      go_ret
      exact⟨aI HE.out.symm,HB5.out⟩
    ·have HE:Hid (dT c.ops c.told=false):=by unfold Hid;rw[HM2.out,u0,D0.out];simp
     go_wp2
     go_ret
     exact⟨aI HE.out.symm,HB5.out⟩
   ·have D0:Hid (decide (x0<2)=false):=decide_eq_false d0
    go_wp2_with fail
    refine wp_loop_rounds 3 ?_;rw[rounds_succ]
    by_cases d1:x1<2
    ·go_wp2_with fail
     rw[rounds_succ]
     go_wp2_with fail
     refine (fG a2 c2 c.ops 1 wr hs2.2.1 hs2.1).mono ?_
     rintro e w6 ⟨rfl,hb6⟩
     have HB6:Hid (Below w.heap.size w w6):=HBw.out.trans (hb6.mono hsz)
     clear hb6
     cases u1:aZ c.ops 1
     ·have HE:Hid (dT c.ops c.told=true):=by unfold Hid;rw[HM2.out,u1,D0.out];simp
      go_wp2_with fail
      rw[rounds_succ]
      go_wp2
      go_ret
      exact⟨aI HE.out.symm,HB6.out⟩
     ·have HE:Hid (dT c.ops c.told=false):=by unfold Hid;rw[HM2.out,u1,D0.out,decide_eq_true d1];simp
      go_wp2
      go_ret
      exact⟨aI HE.out.symm,HB6.out⟩
    ·have HE:Hid (dT c.ops c.told=true):=by unfold Hid;rw[HM2.out,D0.out,decide_eq_false d1];simp
     go_wp2_with fail
     rw[rounds_succ]
     go_wp2_with fail
     rw[rounds_succ]
     go_wp2
     go_ret
     exact⟨aI HE.out.symm,HBw.out⟩
theorem EH (c:aF) (sh:Int) (l:List (Int × Int)) (p:Int × Int):c.dones sh (l++[p])=aF.done1 sh (c.dones sh l) p:=by
 unfold aF.dones
 rw[List.foldl_append]
 rfl
theorem AB {xs vs:List Int} {k:Nat} (hk:k<xs.length) (hv:k<vs.length):(xs.zip vs).take (k+1)=(xs.zip vs).take k++[(xs.getD k 0,vs.getD k 0)]:=by
 rw[List.take_add_one]
 congr 1
 have h1:(xs.zip vs)[k]? =some (xs[k],vs[k]):=by rw[List.getElem?_eq_getElem (by rw[List.length_zip];omega),List.getElem_zip]
 rw[h1]
 simp[List.getD,hk,hv]
theorem G3 {f:aC} (hg:aP f=0):f.vals.length=f.ats.length∧(∀x∈f.ats,-1<x∧x<4):=by
 unfold aP at hg
 split at hg
 ·omega
 ·split at hg
  ·omega
  ·split at hg
   ·rename_i h
    simp only[Bool.and_eq_true,dZ,decide_eq_true_eq] at h
    have hl:=h.2.2.2.1
    exact⟨hl,(yC f.ats f.vals (-1) hl h.2.2.2.2).1⟩
   ·omega
theorem FJ (lo B:Nat) (nv:Nat→Value) (c:aF) (v:Value) (f:aC) (w:World) (h:cQ lo B w nv c) (hf:dR B w v f) (hg:aP f=0):
  Calls Tryz.prog 119 #[.pointer (some ⟨B,0,none⟩),v] w fun e w'=>e= .returned (.tuple #[])∧∃nv',cQ lo B w' nv' (if c.fixed then c.dones (ofL f.node) (f.ats.zip f.vals) else c)∧w.grownBy w' (some B):=by
 obtain⟨d,hd⟩:∃d,d=(if c.fixed then c.dones (ofL f.node) (f.ats.zip f.vals) else c):=⟨_,rfl⟩
 rw[←hd]
 have HD:=hI9 hd
 clear hd
 obtain⟨a3,c3,a4,c4,a5,c5,a6,c6,rfl,_,_,h5,h6⟩:=hf
 obtain⟨hvl,hats⟩:=G3 hg
 have HVL:Hid (f.vals.length=f.ats.length):=hvl
 clear hvl
 obtain⟨W,hW⟩:∃W,W=w.alloc (.cells #[.int .i64 f.kind,.int .i64 f.node,.int .i64 f.id,.slice a3 f.ops.length c3,.slice a4 f.deps.length c4,.slice a5 f.ats.length c5,.slice a6 f.vals.length c6] 123):=⟨_,rfl⟩
 have hb:Below w.heap.size w W:=by rw[hW];exact (Below.refl _ _).alloc (Nat.le_refl _) _
 have hzW:W.heap.size=w.heap.size+1:=by rw[hW];exact aB _ _
 have hP:cQ lo B W nv c:=h.later hb
 have hBw:B<w.heap.size:=h.blk.lt
 have r1:W.heap[w.heap.size]? =some (.cells #[.int .i64 f.kind,.int .i64 f.node,.int .i64 f.id,.slice a3 f.ops.length c3,.slice a4 f.deps.length c4,.slice a5 f.ats.length c5,.slice a6 f.vals.length c6] 123 (0,0)):=by rw[hW];exact aJ _ _
 have q1:=hP.box.fixed
 have HP:=hI9 hP
 have HW:=hI9 hW
 have HGw:Hid (w.grownBy W (some B)):=b9 (eH _ _) hb
 have HR:Hid (∀wx,W.grownBy wx (some B)→wx.heap[w.heap.size]? =some (.cells #[.int .i64 f.kind,.int .i64 f.node,.int .i64 f.id,.slice a3 f.ops.length c3,.slice a4 f.deps.length c4,.slice a5 f.ats.length c5,.slice a6 f.vals.length c6] 123 (0,0))):=fun wx hx=>by rw[hx.block _ (by omega) (fun e=>by cases e;omega)];exact r1
 have H5:Hid (∀wx,W.grownBy wx (some B)→cX (· <B) wx a5 f.ats):=fun wx hx=>h5.2.later (fun b hb' hk=>by have:b<B:=hk;rw[hx.block _ (by omega) (fun e=>by cases e;omega),hb.block _ (by omega)])
 have H6:Hid (∀wx,W.grownBy wx (some B)→cX (· <B) wx a6 f.vals):=fun wx hx=>h6.2.later (fun b hb' hk=>by have:b<B:=hk;rw[hx.block _ (by omega) (fun e=>by cases e;omega),hb.block _ (by omega)])
 have HAT:Hid (∀x∈f.ats,-1<x∧x<4):=hats
 have hl5:=h5.1.2.1
 unfold maxLen at hl5
 have e5:W.cell? ⟨w.heap.size,5,none⟩=some (.slice a5 f.ats.length c5):=by rw[cell_of_row _ _ _ _ _ _ r1];rfl
 clear hW hP h r1 h5 h6 hats hg
 go_enter Tryz.func119,Tryz.ntmps119
 go_upto_region 1 with fail
 rw[←HW.out]
 clear HW
 cases t0:c.fixed
 ·rw[t0] at q1
  have HE:Hid (d=c):=by unfold Hid;rw[HD.out,t0];rfl
  clear t0
  go_wp2
  (try simp only[Exit.inBlock,Exit.then])
  refine bodyPost_ret (results_none rfl _ _ _) rfl ?_
  exact⟨rfl,nv,by rw[HE.out];exact HP.out,HGw.out⟩
 ·rw[t0] at q1
  have HE:Hid (d=c.dones (ofL f.node) (f.ats.zip f.vals)):=by unfold Hid;rw[HD.out,t0];rfl
  clear t0
  go_wp2
  go_loopw [14] (fun i wr=>∃(k:Nat) (nv':Nat→Value),k≤f.ats.length∧i= .int .i64 k∧cQ lo B wr nv' (c.dones (ofL f.node) ((f.ats.zip f.vals).take k))∧W.grownBy wr (some B)) (fun i _=>f.ats.length-(intOf i).toNat)
  case atStart=>exact⟨0,nv,Nat.zero_le _,rfl,HP.out,eH _ _⟩
  case round=>
   obtain⟨k,nv',hk,rfl,hPk,hGk⟩:=hrel
   have hsz:=hGk.size
   have hR:=HR.out wr hGk
   have HPk:Hid (cQ lo B wr nv' (c.dones (ofL f.node) ((f.ats.zip f.vals).take k))):=hPk
   have HGr:Hid (W.grownBy wr (some B)):=hGk
   by_cases hlt:k<f.ats.length
   ·obtain⟨ck,hck⟩:∃ck,ck=c.dones (ofL f.node) ((f.ats.zip f.vals).take k):=⟨_,rfl⟩
    rw[←hck] at hPk HPk
    have hzs:=AB hlt (show k<f.vals.length by have:=HVL.out;omega)
    have HSn:Hid (c.dones (ofL f.node) ((f.ats.zip f.vals).take (k+1))=aF.done1 (ofL f.node) ck (f.ats.getD k 0,f.vals.getD k 0)):=by unfold Hid;rw[hzs,EH,hck]
    obtain⟨q,Hq,b5,o5,rfl,eq5⟩:=(cX.at (H5.out wr hGk)).get hlt
    obtain⟨u,Hu,b6,o6,ea6,eu6⟩:=(cX.at (H6.out wr hGk)).get (show k<f.vals.length by have:=HVL.out;omega)
    have hq4: -1<q∧q<4:=HAT.out q (by rw[←Hq.out];simp[List.getD,hlt])
    obtain⟨m,hm4,rfl⟩:∃m:Nat,m<4∧q=m:=⟨q.toNat,by omega,by omega⟩
    have hb6:b6<B:=by
     rcases H6.out wr hGk with e | ⟨b',o',e',hb',_⟩
     ·have hvl:=HVL.out;rw[e] at hvl;simp at hvl;omega
     ·rw[ea6] at e';cases e';exact hb'
    have HS0:Hid (c.dones (ofL f.node) ((f.ats.zip f.vals).take (k+1))=aF.done1 (ofL f.node) ck ((m:Int),u)):=by unfold Hid;rw[HSn.out,Hq.out,Hu.out]
    have k1:wr.cell? ⟨w.heap.size,1,none⟩=some (.int .i64 f.node):=by rw[cell_of_row _ _ _ _ _ _ hR];rfl
    have k6:wr.cell? ⟨w.heap.size,6,none⟩=some (.slice (some ⟨b6,o6,none⟩) f.vals.length c6):=by rw[cell_of_row _ _ _ _ _ _ hR,←ea6];rfl
    obtain⟨a2,c2,q2,hs2,hl2⟩:=hPk.box.ops
    have qh:=hPk.box.has hm4
    have n1:(0:Int)≤(k:Int)∧(k:Int)<(f.ats.length:Int):=by omega
    have n2:(0:Int)≤(k:Int)∧(k:Int)<(f.vals.length:Int):=by have:=HVL.out;omega
    have m1:(0:Int)≤(m:Int)∧(m:Int)<4:=by omega
    clear HSn Hq Hu hzs hR ea6 hGk hPk hck
    by_cases tl:m<ck.ops.length
    ·have dl:decide ((m:Int)<(ck.ops.length:Int))=true:=decide_eq_true (by omega)
     have m2:(0:Int)≤(m:Int)∧(m:Int)<(ck.ops.length:Int):=by omega
     rcases hs2.1 with h0 | ⟨b2,o2,rfl,hb2,hc2⟩
     ·rw[h0] at tl;simp at tl
     obtain⟨x0,x1,x2,Hx,e0,e1,e2⟩:=fO.at hc2 hb2 (Below.refl _ _) tl
     have HT:Hid (fL (ofL f.node) (ck.ops.getD m (0,0,0))=(x1 % 2 == ofL f.node)):=by unfold Hid;rw[Hx.out];rfl
     clear hc2 hs2 Hx
     cases tt:x1 % 2 == ofL f.node
     ·have HS:Hid (c.dones (ofL f.node) ((f.ats.zip f.vals).take (k+1))=ck):=by
       unfold Hid
       rw[HS0.out]
       unfold aF.done1
       rw[if_neg]
       rintro⟨_,e,_⟩
       have e:fL (ofL f.node) (ck.ops.getD m (0,0,0))=true:=by simpa using e
       rw[HT.out,tt] at e;cases e
      clear tl
      go_wp2
      refine wp_region_held_drew (S:=fun w'=>w'.cell? ⟨B,2,none⟩=some (.slice (some ⟨b2,o2,none⟩) ck.ops.length c2)∧w'.cell? ⟨b2,o2+m*3+1,none⟩=some (.int .i64 x1)∧w'.cell? ⟨w.heap.size,1,none⟩=some (.int .i64 f.node)∧w'.cell? ⟨B,16+m,none⟩=some (.bool (ck.has m))) (by kernel_rfl) ⟨q2,e1,k1,qh⟩ ?_
      intro hH
      refine tkH 0 19 (.int .i64 m) hH ?_
      simp only[Act.put,sA,sZ,sS]
      refine tkH 1 20 (.pointer (some ⟨B,0,none⟩)) hH ?_
      simp only[Act.put,sA,sZ,sS]
      refine tkH 2 21 (.pointer (some ⟨B,0,none⟩)) hH ?_
      simp only[Act.put,sA,sZ,sS]
      refine tkH 3 22 (.pointer (some ⟨B,2,none⟩)) hH ?_
      simp only[Act.put,sA,sZ,sS]
      refine tkH 4 23 (.slice (some ⟨b2,o2,none⟩) ck.ops.length c2) hH ?_ (hy:=Or.inl ⟨by rfl,fun _ hS=>by obtain⟨hS1,hS2,hS3,hS4⟩:=hS;go_simp⟩)
      simp only[Act.put,sA,sZ,sS]
      refine tkH 5 24 (.int .i64 ck.ops.length) hH ?_
      simp only[Act.put,sA,sZ,sS]
      refine tkH 6 25 (.bool true) hH ?_
      simp only[Act.put,sA,sZ,sS]
      refine tkH 7 26 (.bool true) hH ?_
      simp only[Act.put,sA,sZ,sS]
      refine tkH 8 27 (.pointer (some ⟨B,0,none⟩)) hH ?_
      simp only[Act.put,sA,sZ,sS]
      refine tkH 9 28 (.pointer (some ⟨B,0,none⟩)) hH ?_
      simp only[Act.put,sA,sZ,sS]
      refine tkH 10 29 (.pointer (some ⟨B,2,none⟩)) hH ?_
      simp only[Act.put,sA,sZ,sS]
      refine tkH 11 30 (.slice (some ⟨b2,o2,none⟩) ck.ops.length c2) hH ?_ (hy:=Or.inl ⟨by rfl,fun _ hS=>by obtain⟨hS1,hS2,hS3,hS4⟩:=hS;go_simp⟩)
      simp only[Act.put,sA,sZ,sS]
      refine tkH 12 31 (.int .i64 m) hH ?_
      simp only[Act.put,sA,sZ,sS]
      refine tkH 13 32 (.pointer (some ⟨b2,o2+m*3,none⟩)) hH ?_
      simp only[Act.put,sA,sZ,sS]
      refine tkH 14 33 (.pointer (some ⟨b2,o2+m*3+1,none⟩)) hH ?_
      simp only[Act.put,sA,sZ,sS]
      refine tkH 15 34 (.int .i64 x1) hH ?_ (hy:=Or.inl ⟨by rfl,fun _ hS=>by obtain⟨hS1,hS2,hS3,hS4⟩:=hS;go_simp⟩)
      simp only[Act.put,sA,sZ,sS]
      refine tkH 17 36 (.pointer (some ⟨w.heap.size,1,none⟩)) hH ?_
      simp only[Act.put,sA,sZ,sS]
      refine tkH 18 37 (.int .i64 f.node) hH ?_ (hy:=Or.inl ⟨by rfl,fun _ hS=>by obtain⟨hS1,hS2,hS3,hS4⟩:=hS;go_simp⟩)
      simp only[Act.put,sA,sZ,sS]
      refine wpAnyH_ready (rs:=[16]) (by kernel_rfl) (by simp) ?_
      refine AllReadyH.cons rfl (fun K hK=>?_) AllReadyH.nil
      go_simp
      refine (gT _ _).mono ?_
      rintro e w1 ⟨rfl,hw1⟩
      subst hw1
      go_wp2_with fail
      refine hK.out _ _ (hH) (fun hH2=>?_)
      clear hK K hH
      have hH:=hH2
      clear hH2
      refine wpAnyH_ready (rs:=[19]) (by kernel_rfl) (by simp) ?_
      refine AllReadyH.cons rfl (fun K hK=>?_) AllReadyH.nil
      go_simp
      refine (iS _ _).mono ?_
      rintro e w1 ⟨rfl,hw1⟩
      subst hw1
      go_wp2_with fail
      refine hK.out _ _ (hH) (fun hH2=>?_)
      clear hK K hH
      have hH:=hH2
      clear hH2
      refine tkH 20 39 (.bool false) hH ?_
      simp only[Act.put,sA,sZ,sS]
      refine tkH 21 40 (.bool false) hH ?_
      simp only[Act.put,sA,sZ,sS]
      refine tkH 22 41 (.bool false) hH ?_
      simp only[Act.put,sA,sZ,sS]
      refine tkH 23 42 undef hH ?_ (hy:=Or.inr ⟨by rfl,rfl⟩)
      simp only[Act.put,sA,sZ,sS]
      refine tkH 24 43 undef hH ?_ (hy:=Or.inr ⟨by rfl,rfl⟩)
      simp only[Act.put,sA,sZ,sS]
      refine tkH 25 44 undef hH ?_ (hy:=Or.inr ⟨by rfl,rfl⟩)
      simp only[Act.put,sA,sZ,sS]
      refine tkH 26 45 undef hH ?_ (hy:=Or.inr ⟨by rfl,rfl⟩)
      simp only[Act.put,sA,sZ,sS]
      refine tkH 27 46 undef hH ?_ (hy:=Or.inr ⟨by rfl,rfl⟩)
      simp only[Act.put,sA,sZ,sS]
      refine tkH 28 47 undef hH ?_ (hy:=Or.inr ⟨by rfl,rfl⟩)
      simp only[Act.put,sA,sZ,sS]
      refine tkH 29 48 undef hH ?_ (hy:=Or.inr ⟨by rfl,rfl⟩)
      simp only[Act.put,sA,sZ,sS]
      refine tkH 30 49 (.bool false) hH ?_
      simp only[Act.put,sA,sZ,sS]
      refine wpAnyH_done (by kernel_rfl) ?_ _
      all_goals
       go_wp2
       go_roundw
       case rel=>exact⟨k+1,nv',by omega,by go_num,by rw[HS.out];exact HPk.out.drew,gJ HGr.out⟩
       case measure=>simp[intOf];omega
     ·cases th:ck.has m
      ·rw[th] at qh
       have HS:Hid (c.dones (ofL f.node) ((f.ats.zip f.vals).take (k+1))={ ck with has:=upd ck.has m true,vals:=upd ck.vals m u }):=by
        unfold Hid
        rw[HS0.out]
        unfold aF.done1
        rw[if_pos]
        ·simp
        ·exact⟨by simpa using tl,by have:=HT.out.trans tt;simpa using this,by simpa using th⟩
       have fh:wr.frozen? ⟨B,16+m,none⟩=false:=HPk.out.blk.frozen _
       have fv:wr.frozen? ⟨B,20+m,none⟩=false:=HPk.out.blk.frozen _
       have qv:=HPk.out.box.vals hm4
       clear tl th
       go_wp2
       refine wp_region_held_drew (S:=fun w'=>w'.cell? ⟨B,2,none⟩=some (.slice (some ⟨b2,o2,none⟩) ck.ops.length c2)∧w'.cell? ⟨b2,o2+m*3+1,none⟩=some (.int .i64 x1)∧w'.cell? ⟨w.heap.size,1,none⟩=some (.int .i64 f.node)∧w'.cell? ⟨B,16+m,none⟩=some (.bool false)) (by kernel_rfl) ⟨q2,e1,k1,qh⟩ ?_
       intro hH
       refine tkH 0 19 (.int .i64 m) hH ?_
       simp only[Act.put,sA,sZ,sS]
       refine tkH 1 20 (.pointer (some ⟨B,0,none⟩)) hH ?_
       simp only[Act.put,sA,sZ,sS]
       refine tkH 2 21 (.pointer (some ⟨B,0,none⟩)) hH ?_
       simp only[Act.put,sA,sZ,sS]
       refine tkH 3 22 (.pointer (some ⟨B,2,none⟩)) hH ?_
       simp only[Act.put,sA,sZ,sS]
       refine tkH 4 23 (.slice (some ⟨b2,o2,none⟩) ck.ops.length c2) hH ?_ (hy:=Or.inl ⟨by rfl,fun _ hS=>by obtain⟨hS1,hS2,hS3,hS4⟩:=hS;go_simp⟩)
       simp only[Act.put,sA,sZ,sS]
       refine tkH 5 24 (.int .i64 ck.ops.length) hH ?_
       simp only[Act.put,sA,sZ,sS]
       refine tkH 6 25 (.bool true) hH ?_
       simp only[Act.put,sA,sZ,sS]
       refine tkH 7 26 (.bool true) hH ?_
       simp only[Act.put,sA,sZ,sS]
       refine tkH 8 27 (.pointer (some ⟨B,0,none⟩)) hH ?_
       simp only[Act.put,sA,sZ,sS]
       refine tkH 9 28 (.pointer (some ⟨B,0,none⟩)) hH ?_
       simp only[Act.put,sA,sZ,sS]
       refine tkH 10 29 (.pointer (some ⟨B,2,none⟩)) hH ?_
       simp only[Act.put,sA,sZ,sS]
       refine tkH 11 30 (.slice (some ⟨b2,o2,none⟩) ck.ops.length c2) hH ?_ (hy:=Or.inl ⟨by rfl,fun _ hS=>by obtain⟨hS1,hS2,hS3,hS4⟩:=hS;go_simp⟩)
       simp only[Act.put,sA,sZ,sS]
       refine tkH 12 31 (.int .i64 m) hH ?_
       simp only[Act.put,sA,sZ,sS]
       refine tkH 13 32 (.pointer (some ⟨b2,o2+m*3,none⟩)) hH ?_
       simp only[Act.put,sA,sZ,sS]
       refine tkH 14 33 (.pointer (some ⟨b2,o2+m*3+1,none⟩)) hH ?_
       simp only[Act.put,sA,sZ,sS]
       refine tkH 15 34 (.int .i64 x1) hH ?_ (hy:=Or.inl ⟨by rfl,fun _ hS=>by obtain⟨hS1,hS2,hS3,hS4⟩:=hS;go_simp⟩)
       simp only[Act.put,sA,sZ,sS]
       refine tkH 17 36 (.pointer (some ⟨w.heap.size,1,none⟩)) hH ?_
       simp only[Act.put,sA,sZ,sS]
       refine tkH 18 37 (.int .i64 f.node) hH ?_ (hy:=Or.inl ⟨by rfl,fun _ hS=>by obtain⟨hS1,hS2,hS3,hS4⟩:=hS;go_simp⟩)
       simp only[Act.put,sA,sZ,sS]
       refine wpAnyH_ready (rs:=[16]) (by kernel_rfl) (by simp) ?_
       refine AllReadyH.cons rfl (fun K hK=>?_) AllReadyH.nil
       go_simp
       refine (gT _ _).mono ?_
       rintro e w1 ⟨rfl,hw1⟩
       subst hw1
       go_wp2_with fail
       refine hK.out _ _ (hH) (fun hH2=>?_)
       clear hK K hH
       have hH:=hH2
       clear hH2
       refine wpAnyH_ready (rs:=[19]) (by kernel_rfl) (by simp) ?_
       refine AllReadyH.cons rfl (fun K hK=>?_) AllReadyH.nil
       go_simp
       refine (iS _ _).mono ?_
       rintro e w1 ⟨rfl,hw1⟩
       subst hw1
       go_wp2_with fail
       refine hK.out _ _ (hH) (fun hH2=>?_)
       clear hK K hH
       have hH:=hH2
       clear hH2
       refine tkH 20 39 (.bool true) hH ?_
       simp only[Act.put,sA,sZ,sS]
       refine tkH 21 40 (.bool true) hH ?_
       simp only[Act.put,sA,sZ,sS]
       refine tkH 22 41 (.bool true) hH ?_
       simp only[Act.put,sA,sZ,sS]
       refine tkH 23 42 (.pointer (some ⟨B,0,none⟩)) hH ?_
       simp only[Act.put,sA,sZ,sS]
       refine tkH 24 43 (.int .i64 m) hH ?_
       simp only[Act.put,sA,sZ,sS]
       refine tkH 25 44 (.pointer (some ⟨B,0,none⟩)) hH ?_
       simp only[Act.put,sA,sZ,sS]
       refine tkH 26 45 (.pointer (some ⟨B,16,none⟩)) hH ?_
       simp only[Act.put,sA,sZ,sS]
       refine tkH 27 46 (.pointer (some ⟨B,16+m,none⟩)) hH ?_
       simp only[Act.put,sA,sZ,sS]
       refine tkH 28 47 (.bool false) hH ?_ (hy:=Or.inl ⟨by rfl,fun _ hS=>by obtain⟨hS1,hS2,hS3,hS4⟩:=hS;go_simp⟩)
       simp only[Act.put,sA,sZ,sS]
       refine tkH 29 48 (.bool true) hH ?_
       simp only[Act.put,sA,sZ,sS]
       refine tkH 30 49 (.bool true) hH ?_
       simp only[Act.put,sA,sZ,sS]
       refine wpAnyH_done (by kernel_rfl) ?_ _
       go_wp2
       have z1:¬ b6=B:=by omega
       have z2:¬ w.heap.size=B:=by omega
       go_region
       all_goals
        go_wp2
        go_roundw
        case rel=>
         have p1:=HPk.out.drew.drew.put (16+m) (.bool true) (HPk.out.drew.drew.case.putHas hm4 true)
         have p2:=p1.put (20+m) (.int .i64 u) (p1.case.putVal hm4 u)
         exact⟨k+1,_,by omega,by go_num,by rw[HS.out];exact p2,aS (aS (gJ (gJ HGr.out)) _ _) _ _⟩
        case measure=>simp[intOf];omega
      ·rw[th] at qh
       have HS:Hid (c.dones (ofL f.node) ((f.ats.zip f.vals).take (k+1))=ck):=by
        unfold Hid
        rw[HS0.out]
        unfold aF.done1
        rw[if_neg]
        rintro⟨_,_,e⟩
        have e:ck.has m=false:=by simpa using e
        rw[th] at e;cases e
       clear tl th
       go_wp2
       refine wp_region_held_drew (S:=fun w'=>w'.cell? ⟨B,2,none⟩=some (.slice (some ⟨b2,o2,none⟩) ck.ops.length c2)∧w'.cell? ⟨b2,o2+m*3+1,none⟩=some (.int .i64 x1)∧w'.cell? ⟨w.heap.size,1,none⟩=some (.int .i64 f.node)∧w'.cell? ⟨B,16+m,none⟩=some (.bool true)) (by kernel_rfl) ⟨q2,e1,k1,qh⟩ ?_
       intro hH
       refine tkH 0 19 (.int .i64 m) hH ?_
       simp only[Act.put,sA,sZ,sS]
       refine tkH 1 20 (.pointer (some ⟨B,0,none⟩)) hH ?_
       simp only[Act.put,sA,sZ,sS]
       refine tkH 2 21 (.pointer (some ⟨B,0,none⟩)) hH ?_
       simp only[Act.put,sA,sZ,sS]
       refine tkH 3 22 (.pointer (some ⟨B,2,none⟩)) hH ?_
       simp only[Act.put,sA,sZ,sS]
       refine tkH 4 23 (.slice (some ⟨b2,o2,none⟩) ck.ops.length c2) hH ?_ (hy:=Or.inl ⟨by rfl,fun _ hS=>by obtain⟨hS1,hS2,hS3,hS4⟩:=hS;go_simp⟩)
       simp only[Act.put,sA,sZ,sS]
       refine tkH 5 24 (.int .i64 ck.ops.length) hH ?_
       simp only[Act.put,sA,sZ,sS]
       refine tkH 6 25 (.bool true) hH ?_
       simp only[Act.put,sA,sZ,sS]
       refine tkH 7 26 (.bool true) hH ?_
       simp only[Act.put,sA,sZ,sS]
       refine tkH 8 27 (.pointer (some ⟨B,0,none⟩)) hH ?_
       simp only[Act.put,sA,sZ,sS]
       refine tkH 9 28 (.pointer (some ⟨B,0,none⟩)) hH ?_
       simp only[Act.put,sA,sZ,sS]
       refine tkH 10 29 (.pointer (some ⟨B,2,none⟩)) hH ?_
       simp only[Act.put,sA,sZ,sS]
       refine tkH 11 30 (.slice (some ⟨b2,o2,none⟩) ck.ops.length c2) hH ?_ (hy:=Or.inl ⟨by rfl,fun _ hS=>by obtain⟨hS1,hS2,hS3,hS4⟩:=hS;go_simp⟩)
       simp only[Act.put,sA,sZ,sS]
       refine tkH 12 31 (.int .i64 m) hH ?_
       simp only[Act.put,sA,sZ,sS]
       refine tkH 13 32 (.pointer (some ⟨b2,o2+m*3,none⟩)) hH ?_
       simp only[Act.put,sA,sZ,sS]
       refine tkH 14 33 (.pointer (some ⟨b2,o2+m*3+1,none⟩)) hH ?_
       simp only[Act.put,sA,sZ,sS]
       refine tkH 15 34 (.int .i64 x1) hH ?_ (hy:=Or.inl ⟨by rfl,fun _ hS=>by obtain⟨hS1,hS2,hS3,hS4⟩:=hS;go_simp⟩)
       simp only[Act.put,sA,sZ,sS]
       refine tkH 17 36 (.pointer (some ⟨w.heap.size,1,none⟩)) hH ?_
       simp only[Act.put,sA,sZ,sS]
       refine tkH 18 37 (.int .i64 f.node) hH ?_ (hy:=Or.inl ⟨by rfl,fun _ hS=>by obtain⟨hS1,hS2,hS3,hS4⟩:=hS;go_simp⟩)
       simp only[Act.put,sA,sZ,sS]
       refine wpAnyH_ready (rs:=[16]) (by kernel_rfl) (by simp) ?_
       refine AllReadyH.cons rfl (fun K hK=>?_) AllReadyH.nil
       go_simp
       refine (gT _ _).mono ?_
       rintro e w1 ⟨rfl,hw1⟩
       subst hw1
       go_wp2_with fail
       refine hK.out _ _ (hH) (fun hH2=>?_)
       clear hK K hH
       have hH:=hH2
       clear hH2
       refine wpAnyH_ready (rs:=[19]) (by kernel_rfl) (by simp) ?_
       refine AllReadyH.cons rfl (fun K hK=>?_) AllReadyH.nil
       go_simp
       refine (iS _ _).mono ?_
       rintro e w1 ⟨rfl,hw1⟩
       subst hw1
       go_wp2_with fail
       refine hK.out _ _ (hH) (fun hH2=>?_)
       clear hK K hH
       have hH:=hH2
       clear hH2
       refine tkH 20 39 (.bool true) hH ?_
       simp only[Act.put,sA,sZ,sS]
       refine tkH 21 40 (.bool true) hH ?_
       simp only[Act.put,sA,sZ,sS]
       refine tkH 22 41 (.bool true) hH ?_
       simp only[Act.put,sA,sZ,sS]
       refine tkH 23 42 (.pointer (some ⟨B,0,none⟩)) hH ?_
       simp only[Act.put,sA,sZ,sS]
       refine tkH 24 43 (.int .i64 m) hH ?_
       simp only[Act.put,sA,sZ,sS]
       refine tkH 25 44 (.pointer (some ⟨B,0,none⟩)) hH ?_
       simp only[Act.put,sA,sZ,sS]
       refine tkH 26 45 (.pointer (some ⟨B,16,none⟩)) hH ?_
       simp only[Act.put,sA,sZ,sS]
       refine tkH 27 46 (.pointer (some ⟨B,16+m,none⟩)) hH ?_
       simp only[Act.put,sA,sZ,sS]
       refine tkH 28 47 (.bool true) hH ?_ (hy:=Or.inl ⟨by rfl,fun _ hS=>by obtain⟨hS1,hS2,hS3,hS4⟩:=hS;go_simp⟩)
       simp only[Act.put,sA,sZ,sS]
       refine tkH 29 48 (.bool false) hH ?_
       simp only[Act.put,sA,sZ,sS]
       refine tkH 30 49 (.bool false) hH ?_
       simp only[Act.put,sA,sZ,sS]
       refine wpAnyH_done (by kernel_rfl) ?_ _
       all_goals
        go_wp2
        go_roundw
        case rel=>exact⟨k+1,nv',by omega,by go_num,by rw[HS.out];exact HPk.out.drew,gJ HGr.out⟩
        case measure=>simp[intOf];omega
    ·have dl:decide ((m:Int)<(ck.ops.length:Int))=false:=decide_eq_false (by omega)
     have HS:Hid (c.dones (ofL f.node) ((f.ats.zip f.vals).take (k+1))=ck):=by
      unfold Hid
      rw[HS0.out]
      unfold aF.done1
      rw[if_neg]
      rintro⟨e,_⟩
      exact tl (by simpa using e)
     have tl':ck.ops.length≤m:=by omega
     clear tl
     go_wp2
     refine wp_region_held_drew (S:=fun w'=>w'.cell? ⟨B,2,none⟩=some (.slice a2 ck.ops.length c2)∧w'.cell? ⟨w.heap.size,1,none⟩=some (.int .i64 f.node)∧w'.cell? ⟨B,16+m,none⟩=some (.bool (ck.has m))) (by kernel_rfl) ⟨q2,k1,qh⟩ ?_
     intro hH
     refine tkH 0 19 (.int .i64 m) hH ?_
     simp only[Act.put,sA,sZ,sS]
     refine tkH 1 20 (.pointer (some ⟨B,0,none⟩)) hH ?_
     simp only[Act.put,sA,sZ,sS]
     refine tkH 2 21 (.pointer (some ⟨B,0,none⟩)) hH ?_
     simp only[Act.put,sA,sZ,sS]
     refine tkH 3 22 (.pointer (some ⟨B,2,none⟩)) hH ?_
     simp only[Act.put,sA,sZ,sS]
     refine tkH 4 23 (.slice a2 ck.ops.length c2) hH ?_ (hy:=Or.inl ⟨by rfl,fun _ hS=>by obtain⟨hS1,hS3,hS4⟩:=hS;go_simp⟩)
     simp only[Act.put,sA,sZ,sS]
     refine tkH 5 24 (.int .i64 ck.ops.length) hH ?_
     simp only[Act.put,sA,sZ,sS]
     refine tkH 6 25 (.bool false) hH ?_
     simp only[Act.put,sA,sZ,sS]
     refine tkH 7 26 (.bool false) hH ?_
     simp only[Act.put,sA,sZ,sS]
     refine tkH 8 27 undef hH ?_ (hy:=Or.inr ⟨by rfl,rfl⟩)
     simp only[Act.put,sA,sZ,sS]
     refine tkH 9 28 undef hH ?_ (hy:=Or.inr ⟨by rfl,rfl⟩)
     simp only[Act.put,sA,sZ,sS]
     refine tkH 10 29 undef hH ?_ (hy:=Or.inr ⟨by rfl,rfl⟩)
     simp only[Act.put,sA,sZ,sS]
     refine tkH 11 30 undef hH ?_ (hy:=Or.inr ⟨by rfl,rfl⟩)
     simp only[Act.put,sA,sZ,sS]
     refine tkH 12 31 undef hH ?_ (hy:=Or.inr ⟨by rfl,rfl⟩)
     simp only[Act.put,sA,sZ,sS]
     refine tkH 13 32 undef hH ?_ (hy:=Or.inr ⟨by rfl,rfl⟩)
     simp only[Act.put,sA,sZ,sS]
     refine tkH 14 33 undef hH ?_ (hy:=Or.inr ⟨by rfl,rfl⟩)
     simp only[Act.put,sA,sZ,sS]
     refine tkH 15 34 undef hH ?_ (hy:=Or.inr ⟨by rfl,rfl⟩)
     simp only[Act.put,sA,sZ,sS]
     refine tkH 16 35 undef hH ?_ (hy:=Or.inr ⟨by rfl,rfl⟩)
     simp only[Act.put,sA,sZ,sS]
     refine tkH 17 36 undef hH ?_ (hy:=Or.inr ⟨by rfl,rfl⟩)
     simp only[Act.put,sA,sZ,sS]
     refine tkH 18 37 undef hH ?_ (hy:=Or.inr ⟨by rfl,rfl⟩)
     simp only[Act.put,sA,sZ,sS]
     refine tkH 19 38 undef hH ?_ (hy:=Or.inr ⟨by rfl,rfl⟩)
     simp only[Act.put,sA,sZ,sS]
     refine tkH 20 39 undef hH ?_ (hy:=Or.inr ⟨by rfl,rfl⟩)
     simp only[Act.put,sA,sZ,sS]
     refine tkH 21 40 (.bool false) hH ?_
     simp only[Act.put,sA,sZ,sS]
     refine tkH 22 41 (.bool false) hH ?_
     simp only[Act.put,sA,sZ,sS]
     refine tkH 23 42 undef hH ?_ (hy:=Or.inr ⟨by rfl,rfl⟩)
     simp only[Act.put,sA,sZ,sS]
     refine tkH 24 43 undef hH ?_ (hy:=Or.inr ⟨by rfl,rfl⟩)
     simp only[Act.put,sA,sZ,sS]
     refine tkH 25 44 undef hH ?_ (hy:=Or.inr ⟨by rfl,rfl⟩)
     simp only[Act.put,sA,sZ,sS]
     refine tkH 26 45 undef hH ?_ (hy:=Or.inr ⟨by rfl,rfl⟩)
     simp only[Act.put,sA,sZ,sS]
     refine tkH 27 46 undef hH ?_ (hy:=Or.inr ⟨by rfl,rfl⟩)
     simp only[Act.put,sA,sZ,sS]
     refine tkH 28 47 undef hH ?_ (hy:=Or.inr ⟨by rfl,rfl⟩)
     simp only[Act.put,sA,sZ,sS]
     refine tkH 29 48 undef hH ?_ (hy:=Or.inr ⟨by rfl,rfl⟩)
     simp only[Act.put,sA,sZ,sS]
     refine tkH 30 49 (.bool false) hH ?_
     simp only[Act.put,sA,sZ,sS]
     refine wpAnyH_done (by kernel_rfl) ?_ _
     all_goals
      go_wp2
      go_roundw
      case rel=>exact⟨k+1,nv',by omega,by go_num,by rw[HS.out];exact HPk.out.drew,gJ HGr.out⟩
      case measure=>simp[intOf];omega
   ·have hke:k=f.ats.length:=by omega
    have HF:Hid (cQ lo B wr nv' d):=by
     unfold Hid
     rw[HE.out]
     have:(f.ats.zip f.vals).take k=f.ats.zip f.vals:=List.take_of_length_le (by have:=HVL.out;rw[List.length_zip];omega)
     rw[←this]
     exact HPk.out
    have HGF:Hid (w.grownBy wr (some B)):=gM HGw.out HGr.out
    clear hPk hGk hke
    go_wp2
    go_end0
    exact⟨rfl,nv',HF.out,HGF.out⟩
theorem uI (c:Nat) (S:Nat→Bool) (a:Option Addr) (cap:Nat) (zs:List Int) (w:World) (hl:zs.length≤maxLen) (hz:dB c w a zs) (hs:cY 32 w c S):
  Calls Tryz.prog 137 #[.pointer (some ⟨c,0,none⟩),.slice a zs.length cap] w fun e w'=>e= .returned (.tuple #[])∧cY 32 w' c (fun i=>S i || zs.contains (i:Int))∧Below c w w':=by
 unfold maxLen at hl
 rcases hz with rfl | ⟨b,off,rfl,hb,hc⟩
 ·go_enter Tryz.func137,Tryz.ntmps137
  go_wp2
  refine wp_loop_rounds 1 ?_;rw[rounds_succ]
  go_wp2
  go_end0
  exact⟨rfl,hs.congr (by simp),Below.refl _ _⟩
 ·go_enter Tryz.func137,Tryz.ntmps137
  go_wp2
  go_loopw [8] (fun i wr=>∃k:Nat,k≤zs.length∧i= .int .i64 k∧cY 32 wr c (fun i=>S i || (zs.take k).contains (i:Int))∧Below c w wr) (fun i _=>zs.length-(intOf i).toNat)
  case atStart=>exact⟨0,Nat.zero_le _,rfl,hs.congr (by simp),Below.refl _ _⟩
  case round=>
   obtain⟨k,hk,rfl,hS,hBw⟩:=hrel
   have hsz:=hBw.size
   by_cases hlt:k<zs.length
   ·obtain⟨q,Hq⟩:∃q:Int,Hid (zs.getD k 0=q):=⟨_,rfl⟩
    have e0:wr.cell? ⟨b,off+k,none⟩=some (.int .i64 q):=by rw[hBw.cell (p:=⟨b,off+k,none⟩) hb,←Hq.out];exact hc k hlt
    have cs:=nZ hlt Hq.out
    have HC:Hid (∀i:Nat,(zs.take (k+1)).contains (i:Int)=((zs.take k).contains (i:Int) || (i:Int) == q)):=cs
    clear cs hc
    by_cases t1:0≤q
    ·by_cases t2:q<32
     ·obtain⟨m,rfl⟩:=Int.eq_ofNat_of_zero_le t1
      have hm:m<32:=by omega
      have f0:=hS.cell hm
      have f1:=hS.frozen m
      have HS:Hid (cY 32 wr c (fun i=>S i || (zs.take k).contains (i:Int))):=hS
      clear hS
      go_wp2
      go_roundw
      case rel=>exact⟨k+1,by omega,by go_num,(HS.out.put m true).congr (fun i _=>by rw[HC.out];exact xM _ _ _ _),hBw.setCell (by simp) _⟩
      case measure=>simp[intOf];omega
     ·go_wp2
      go_roundw
      case rel=>exact⟨k+1,by omega,by go_num,hS.congr (fun i hi=>by rw[HC.out];exact DY _ _ (by omega)),hBw⟩
      case measure=>simp[intOf];omega
    ·go_wp2
     go_roundw
     case rel=>exact⟨k+1,by omega,by go_num,hS.congr (fun i hi=>by rw[HC.out];exact DY _ _ (by omega)),hBw⟩
     case measure=>simp[intOf];omega
   ·go_wp2
    go_end0
    exact⟨rfl,hS.congr (fun i hi=>by rw[List.take_of_length_le (by omega)]),hBw⟩
def kN (a b:List Int) (i:Nat):Bool:=a.contains (i:Int) || b.contains (i:Int)
def gP (a b:List Int):List Int:=cR (kN a b) 32
theorem zK (a:Option Addr) (cap:Nat) (zs:List Int) (a':Option Addr) (cap':Nat) (ys:List Int) (w:World) (hl:zs.length≤maxLen) (hz:dB w.heap.size w a zs) (hl':ys.length≤maxLen) (hy:dB w.heap.size w a' ys):
  Calls Tryz.prog 132 #[.slice a zs.length cap,.slice a' ys.length cap'] w fun e w'=>∃v,e= .returned v∧w'.ownsRow w.heap.size 3 1 v (gP zs ys).length ((gP zs ys).map (Value.int .i64))∧Below w.heap.size w w':=by
 obtain⟨i0,hi,hz0,hz1,hz2⟩:=info_parts Tryz.infoInt
 go_enter Tryz.func132,Tryz.ntmps132
 go_wp2_with fail
 have hb0:Below w.heap.size w (w.alloc (.cells (aL 32 (fun _=>false)) 62)):=(Below.refl _ _).alloc (Nat.le_refl _) _
 have hS0:cY 32 (w.alloc (.cells (aL 32 (fun _=>false)) 62)) w.heap.size (fun _=>false):=⟨62,aJ _ _⟩
 rw[←Tryz.zero62]
 refine (uI w.heap.size (fun _=>false) a cap zs _ hl (hz.later hb0) hS0).mono ?_
 rintro e w1 ⟨rfl,hS1,hb1⟩
 have hb2:=hb0.trans hb1
 clear hb0 hS0 hb1
 go_wp2_with fail
 refine (uI w.heap.size _ a' cap' ys _ hl' (hy.later hb2) hS1).mono ?_
 rintro e w2 ⟨rfl,hS2,hb3⟩
 have hb4:=hb2.trans hb3
 have hS:cY 32 w2 w.heap.size (kN zs ys):=hS2.congr (fun i _=>by simp[kN])
 clear hb2 hS1 hb3 hS2
 obtain⟨t,ht⟩:=hS
 go_wp2_with (refine wpList_load_row rfl 62 _ rfl w.heap.size rfl t _ (0,0) _ ht Tryz.underlying62 rfl (by rw[lO];exact Tryz.infoSet) ?_)
 have hsz:=hb4.size
 clear ht
 go_loopw [6,14] (fun v i wr=>∃k:Nat,k≤32∧i= .int .i64 k∧wr.ownsRow w.heap.size 3 1 v (cR (kN zs ys) k).length ((cR (kN zs ys) k).map (Value.int .i64))∧Below w.heap.size w wr) (fun _ i _=>32-(intOf i).toNat)
 case atStart=>exact⟨0,Nat.zero_le _,rfl,World.ownsRow_nil _ _ _ _,hb4⟩
 case round=>
  obtain⟨k,hk,rfl,hown,hB⟩:=hrel
  have hsz1:=hB.size
  by_cases hlt:k<32
  ·have hix:=fun wx=>iK Tryz.underlying62 Tryz.underlying4 Tryz.infoBool (kN zs ys) hlt wx
   have hlen:=l9 (kN zs ys) k
   cases tk:kN zs ys k
   ·rw[tk] at hix
    have HM:Hid (cR (kN zs ys) (k+1)=cR (kN zs ys) k):=lL tk
    go_wp2
    go_roundw
    case rel=>exact⟨k+1,by omega,by go_num,by rw[HM.out];exact hown,hB⟩
    case measure=>simp[intOf];omega
   ·rw[tk] at hix
    have HM:Hid (cR (kN zs ys) (k+1)=cR (kN zs ys) k++[(k:Int)]):=pU tk
    go_wp2_with (first
     | (at_builtin;refine wpList_append_own _ rfl _ _ 26 rfl w.heap.size 3 i0 (.int .i64 0) 1 8 Tryz.underlying26 hi hz0 hz1 hz2 rfl (by decide) _ _ _ rfl (hown.alloc _) ⟨wr.heap.size,0,none⟩ 1 1 [.int .i64 k] rfl rfl ?c1 ?c2 ?c3 ?c4 ?c5 ?_)
     | go_in)
    case c1=>
     intro j u hj
     match j,hj with
     | 0,hj=>simp at hj;subst hj;simp[Addr.add]
    case c2=>intro u hu;simp at hu;subst hu;rfl
    case c3=>unfold maxLen;omega
    case c4=>omega
    case c5=>simp;omega
    ·intro v' w3 hown' hgrow _
     have hB':Below w.heap.size w w3:=(hB.alloc hsz1 _).grown hgrow (by simp;omega) (gN hown)
     clear hgrow hown hix
     go_wp2
     go_roundw
     case rel=>exact⟨k+1,by omega,by go_num,by rw[HM.out];simpa using hown',hB'⟩
     case measure=>simp[intOf];omega
  ·have e:k=32:=by omega
   subst e
   go_wp2
   go_ret
   exact⟨_,rfl,hown,hB⟩
end Go.Proofs.YtkoefoccbjhoiacGreat
